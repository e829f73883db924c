/- Texts QE QF QG of the proof. -/
import Derived.Test.YtmafmebcgmegeaaGreatDoorFz18
import Derived.Test.YtmafmebcgmegeaaGreatDoorFz16
namespace Go.Proofs.YtmafmebcgmegeaaGreatDoor
open Go.RowKit Go.Sort
structure Fl where
  nm : ByteArray
  ty : ByteArray
  tr : List Bell.Fx
  A : Option Addr
  n : Nat
  c : Nat
def Fl.none : Fl := ⟨⟨#[]⟩, ⟨#[]⟩, [], Option.none, 0, 0⟩
def flV (f : Fl) : Array Value := #[.string f.nm, .string f.ty, .slice f.A f.n f.c]
structure FlOk (w : World) (f : Fl) : Prop where
  tr : TrAt w f.A f.n f.tr
  n : f.n ≤ 140737488351232
  sz : f.nm.size ≤ 140737488351232
def flAt (fs : List Fl) (i : Nat) : Fl := fs.getD i Fl.none
def FlsAt (w : World) (A : Option Addr) (n : Nat) (fs : List Fl) : Prop :=
  fs.length = n ∧ (0 < n → ∃ b o, A = some ⟨b, o, Option.none⟩ ∧ ∀ i, i < n → (w.cell? ⟨b, o + i * 3, Option.none⟩ = some (.string (flAt fs i).nm) ∧ w.cell? ⟨b, o + i * 3 + 1, Option.none⟩ = some (.string (flAt fs i).ty) ∧ w.cell? ⟨b, o + i * 3 + 2, Option.none⟩ = some (.slice (flAt fs i).A (flAt fs i).n (flAt fs i).c)) ∧ FlOk w (flAt fs i))
theorem FlsAt.keep {w w' : World} {A : Option Addr} {n : Nat} {fs : List Fl} (h : FlsAt w A n fs) (hb : Below w.heap.size w w') : FlsAt w' A n fs :=
  ⟨h.1, fun hn => by
    obtain ⟨b, o, e, hc⟩ := h.2 hn
    have k : ∀ {j : Nat} {v : Value}, w.cell? ⟨b, j, Option.none⟩ = some v → w'.cell? ⟨b, j, Option.none⟩ = some v := fun {j v} hc => by
      rw [hb.cell (p := ⟨b, j, Option.none⟩) (World.block_lt_of_cell? _ _ hc)]; exact hc
    exact ⟨b, o, e, fun i hi => ⟨⟨k (hc i hi).1.1, k (hc i hi).1.2.1, k (hc i hi).1.2.2⟩, ⟨(hc i hi).2.tr.keep hb, (hc i hi).2.n, (hc i hi).2.sz⟩⟩⟩⟩
theorem OnlyMap.fls {b n : Nat} {A : Option Addr} {fs : List Fl} {w w' : World} {es : List (ByteArray × Value)} (h : OnlyMap b w w') (ht : FlsAt w A n fs) (hm : MapIs w b es) : FlsAt w' A n fs :=
  ⟨ht.1, fun hn => by
    obtain ⟨g, o, e, hc⟩ := ht.2 hn; have k : ∀ {j : Nat} {v : Value}, w.cell? ⟨g, j, Option.none⟩ = some v → w'.cell? ⟨g, j, Option.none⟩ = some v := fun {j v} hc => h.cell hc (map_ne hc hm)
    exact ⟨g, o, e, fun i hi => ⟨⟨k (hc i hi).1.1, k (hc i hi).1.2.1, k (hc i hi).1.2.2⟩, ⟨h.tr2 (hc i hi).2.tr hm, (hc i hi).2.n, (hc i hi).2.sz⟩⟩⟩⟩
def namesTo (fs : List Fl) : Nat → List ByteArray
  | 0 => []
  | i + 1 => addN (namesTo fs i) (flAt fs i).nm
def knownB (kes : List (ByteArray × Value)) (s : ByteArray) : Bool := (mapGet kes s).isSome
noncomputable def flAtE (kes : List (ByteArray × Value)) (fs : List Fl) (i : Nat) : Int := flE (namesTo fs i) (knownB kes (flAt fs i).ty) (flAt fs i).nm (flAt fs i).tr
noncomputable def flsE (kes : List (ByteArray × Value)) (fs : List Fl) : Int := andE (atMostE fs.length 16) (firstR (flAtE kes fs) fs.length)
def KnownIs (w : World) (b : Nat) (kes : List (ByteArray × Value)) : Prop := MapIs w b kes ∧ ∀ x ∈ kes, ∃ vs : Array Value, x.2 = .agg vs ∧ vs.size = 13 ∧ vs.all (·.oneCell') = true
theorem KnownIs.keep {w w' : World} {b : Nat} {kes : List (ByteArray × Value)} (h : KnownIs w b kes) (hb : Below w.heap.size w w') : KnownIs w' b kes := ⟨h.1.keep hb, h.2⟩
def tyZero : Array Value := #[.string ⟨#[]⟩, .slice none 0 0, .int .i64 0, .int .i64 0, .int .i64 0, .int .i64 0, .int .i64 0, .int .i64 0, .int .i64 0, .int .i64 0, .int .i64 0, .slice none 0 0, .slice none 0 0]
theorem type_zero (w : World) : (zeroValue 42).run Tryz.prog w = .ok (.agg tyZero) w := by kernel_rfl
theorem mapGet_mem {es : List (ByteArray × Value)} {s : ByteArray} {v : Value} (h : mapGet es s = some v) : ∃ x ∈ es, x.2 = v := by
  unfold mapGet at h; rw [Option.map_eq_some_iff] at h; obtain ⟨x, hx, e⟩ := h; exact ⟨x, List.mem_of_find?_eq_some hx, e⟩
theorem known_look {w : World} {b : Nat} {kes : List (ByteArray × Value)} (h : KnownIs w b kes) (s : ByteArray) : ∃ vs : Array Value, (∀ W, W.heap[b]? = w.heap[b]? → (Instr.lookup 219 (.map (some b)) (.string s) true).run Tryz.prog W = .ok (.tuple #[.agg vs, .bool (knownB kes s)]) W) ∧ vs.size = 13 ∧ vs.all (·.oneCell') = true := by
  obtain ⟨hm, hv⟩ := h
  have hW : ∀ W : World, W.heap[b]? = w.heap[b]? → MapIs W b kes := fun W e => by
    obtain ⟨arr, clock, h1, h2⟩ := hm; exact ⟨arr, clock, e.trans h1, h2⟩
  cases hg : mapGet kes s with
  | none =>
    refine ⟨tyZero, fun W e => ?_, rfl, by simp [tyZero, Value.oneCell']⟩; have := lookup_lacks typeM_under str_under (hW W e) (type_zero W) hg true; rw [this]
    simp [knownB, hg]
  | some v =>
    obtain ⟨x, hx, e1⟩ := mapGet_mem hg; obtain ⟨vs, e2, h3, h4⟩ := hv x hx; refine ⟨vs, fun W e => ?_, h3, h4⟩; have := lookup_has typeM_under str_under (hW W e) hg true; rw [this]
    simp [knownB, hg, ← e1, e2]
set_option maxRecDepth 100000 in
theorem named2_any (f : Fl) (gf go gm sm gk mb : Nat) (ns : List ByteArray) (kes : List (ByteArray × Value)) (w : World) (hgm : w.cell? ⟨gm, 0, none⟩ = some (.map (some sm))) (hns : NamesIn w sm ns) (hgk : w.cell? ⟨gk, 0, none⟩ = some (.map (some mb))) (hkn : KnownIs w mb kes)
    (hgf : w.cell? ⟨gf, 0, none⟩ = some (.func (.func 192) #[] #[.pointer (some ⟨gk, 0, none⟩)])) (hgo : w.cell? ⟨go, 0, none⟩ = some (.func (.func 218) #[] #[.pointer (some ⟨gm, 0, none⟩)])) (hf : FlOk w f) :
    Calls Tryz.prog 220 #[.agg (flV f), .pointer (some ⟨gf, 0, none⟩), .pointer (some ⟨go, 0, none⟩)] w
      fun e w' => e = .returned (.int .i64 (flE ns (knownB kes f.ty) f.nm f.tr)) ∧ NamesIn w' sm (addN ns f.nm) ∧ OnlyMap sm w w' := by
  obtain ⟨vs, hlk, hvs, hvo⟩ := known_look hkn f.ty; have hmb := hkn.1.lt; have h1 := World.block_lt_of_cell? _ _ hgf; have h2 := World.block_lt_of_cell? _ _ hgo; simp only at h1 h2; have HC := Lib.hid (fun (W : World) (hb : Below w.heap.size w W) => listed1_any f.nm f.ty f.tr f.A f.n f.c gm sm gk mb ns vs (knownB kes f.ty) W ((hb.cell (p := ⟨gm, 0, none⟩) (World.block_lt_of_cell? _ _ hgm)).trans hgm) (MapIs.keep hns hb) ((hb.cell (p := ⟨gk, 0, none⟩) (World.block_lt_of_cell? _ _ hgk)).trans hgk) (fun X e => hlk X (e.trans (hb.block mb hmb))) (Nat.lt_of_lt_of_le hmb hb.size) hvs hvo (hf.tr.keep hb) hf.n hf.sz); unfold flV; clear hlk hvs hvo hmb hgm hns hgk hkn hf
  go_enter Tryz.func220, Tryz.ntmps220
  go_upto_region 1 with fail
  obtain ⟨w1, hw1⟩ : ∃ W, W = (w.alloc (.cells #[.string f.nm, .string f.ty, .slice f.A f.n f.c] 168)) := ⟨_, rfl⟩; rw [← hw1]; have B : Hid (Blk w1 (w.heap.size) 168 #[.string f.nm, .string f.ty, .slice f.A f.n f.c]) := by show Blk _ _ _ _; rw [hw1]; exact Blk.new _ _ _
  have hb1 : Below w.heap.size w w1 := by rw [hw1]; exact ((Below.refl _ _).alloc (Nat.le_refl _) _)
  obtain ⟨g3, hg3⟩ : ∃ g, g = w.heap.size := ⟨_, rfl⟩; have HGw1 : Hid (g3 = w.heap.size) := hg3; rw [← hg3] at B
  try rw [← hg3]
  clear hw1 hg3; have c1 := (hb1.cell (p := ⟨gf, 0, none⟩) h1).trans hgf; have c2 := (hb1.cell (p := ⟨go, 0, none⟩) h2).trans hgo; have HB1 := Lib.hid hb1; have BB := B.out; have zc0 := BB.cell 0; have zf0 := BB.frozen 0; have zc1 := BB.cell 1; have zf1 := BB.frozen 1; have zc2 := BB.cell 2; have zf2 := BB.frozen 2; simp only [List.getElem?_toArray, List.getElem?_cons_zero, List.getElem?_cons_succ] at zc0 zc1 zc2; clear BB; clear hb1 hgf hgo h1 h2 B
  go_wp2_with fail
  refine (HC.out w1 HB1.out).mono ?_; rintro e w2 ⟨rfl, h3, h4⟩; have H3 := Lib.hid h3; have H4 := Lib.hid ((OnlyMap.of HB1.out).trans h4); clear h3 h4 c1 c2 zc0 zc1 zc2 zf0 zf1 zf2; go_wp2; go_ret; exact ⟨rfl, H3.out, H4.out⟩
set_option maxHeartbeats 1000000 in
set_option maxRecDepth 100000 in
theorem each_flights (A : Option Addr) (n c : Nat) (fs : List Fl) (gf go gm sm gk mb : Nat) (kes : List (ByteArray × Value)) (w : World) (hfs : FlsAt w A n fs) (hgm : w.cell? ⟨gm, 0, none⟩ = some (.map (some sm))) (hns : NamesIn w sm []) (hgk : w.cell? ⟨gk, 0, none⟩ = some (.map (some mb))) (hkn : KnownIs w mb kes) (hmm : mb ≠ sm)
    (hgf : w.cell? ⟨gf, 0, none⟩ = some (.func (.func 192) #[] #[.pointer (some ⟨gk, 0, none⟩)])) (hgo : w.cell? ⟨go, 0, none⟩ = some (.func (.func 218) #[] #[.pointer (some ⟨gm, 0, none⟩)])) (hn : n ≤ 1000000) :
    Calls Tryz.prog 219 #[.slice A n c, .func (.func 220) #[] #[.pointer (some ⟨gf, 0, none⟩), .pointer (some ⟨go, 0, none⟩)]] w
      fun e w' => e = .returned (.int .i64 (firstR (flAtE kes fs) n)) ∧ OnlyMap sm w w' := by
  have HF := Lib.hid hfs; have H0 := Lib.hid (show MapIs w sm [] from hns); have HC := Lib.hid (fun (f : Fl) (ns : List ByteArray) (W : World) (ho : OnlyMap sm w W) (hW : NamesIn W sm ns) (hf : FlOk W f) => named2_any f gf go gm sm gk mb ns kes W (ho.cell hgm (map_ne hgm hns)) hW (ho.cell hgk (map_ne hgk hns)) ⟨ho.map hkn.1 hmm, hkn.2⟩ (ho.cell hgf (map_ne hgf hns)) (ho.cell hgo (map_ne hgo hns)) hf); obtain ⟨V, hV⟩ : ∃ V, V = firstR (flAtE kes fs) n := ⟨_, rfl⟩; have HV := Lib.hid hV; rw [← hV]; have HNS := Lib.hid hns; clear hfs hgm hns hgk hkn hmm hgf hgo hV
  go_enter Tryz.func219, Tryz.ntmps219
  go_wp2
  go_loopw [6, 7, 10] (fun _ _ k wr => ∃ j : Nat, j ≤ n ∧ k = .int .i64 j ∧ Hid (∀ i, i < j → flAtE kes fs i = 0) ∧ Hid (NamesIn wr sm (namesTo fs j)) ∧ Hid (OnlyMap sm w wr)) (fun _ _ k _ => n - (intOf k).toNat)
  case atStart => exact ⟨0, Nat.zero_le _, rfl, (fun i hi => by omega), HNS, OnlyMap.refl _ _⟩
  case round =>
    obtain ⟨j, hj, rfl, hz, hns, ho⟩ := hrel
    by_cases hlt : j < n
    · obtain ⟨b, o, rfl, hc⟩ := (ho.out.fls HF.out H0.out).2 (by omega); obtain ⟨⟨c1, c2, c3⟩, hok⟩ := hc j hlt; have HJ : Hid (flAtE kes fs j = flE (namesTo fs j) (knownB kes (flAt fs j).ty) (flAt fs j).nm (flAt fs j).tr) := rfl; have HN2 : Hid (namesTo fs (j + 1) = addN (namesTo fs j) (flAt fs j).nm) := rfl; obtain ⟨f, hf⟩ : ∃ f, f = flAt fs j := ⟨_, rfl⟩; rw [← hf] at c1 c2 c3 hok HJ HN2; have HOK := Lib.hid hok; clear hc hf hok
      go_upto_region 4 with fail
      obtain ⟨wa, hwa⟩ : ∃ W, W = (wr.alloc (.cells #[.string f.nm, .string f.ty, .slice f.A f.n f.c] 168)) := ⟨_, rfl⟩; rw [← hwa]; have B : Hid (Blk wa (wr.heap.size) 168 #[.string f.nm, .string f.ty, .slice f.A f.n f.c]) := by show Blk _ _ _ _; rw [hwa]; exact Blk.new _ _ _
      have hba : Below wr.heap.size wr wa := by rw [hwa]; exact ((Below.refl _ _).alloc (Nat.le_refl _) _)
      obtain ⟨gx, hgx⟩ : ∃ g, g = wr.heap.size := ⟨_, rfl⟩; have HGwa : Hid (gx = wr.heap.size) := hgx; rw [← hgx] at B
      try rw [← hgx]
      clear hwa hgx; have BB := B.out; have zc0 := BB.cell 0; have zf0 := BB.frozen 0; have zc1 := BB.cell 1; have zf1 := BB.frozen 1; have zc2 := BB.cell 2; have zf2 := BB.frozen 2; simp only [List.getElem?_toArray, List.getElem?_cons_zero, List.getElem?_cons_succ] at zc0 zc1 zc2; clear BB; have HO1 : Hid (OnlyMap sm w wa) := ho.out.trans (OnlyMap.of hba); have HN1 : Hid (NamesIn wa sm (namesTo fs j)) := MapIs.keep hns.out hba; have HOK1 : Hid (FlOk wa f) := ⟨HOK.out.tr.keep hba, HOK.out.n, HOK.out.sz⟩; clear hba c1 c2 c3 B HOK ho hns
      go_wp2_with fail
      refine (HC.out f (namesTo fs j) wa HO1.out HN1.out HOK1.out).mono ?_; rintro e wb ⟨rfl, h3, h4⟩; have H3 := Lib.hid h3; have H4 := Lib.hid (HO1.out.trans h4); obtain ⟨F, hF⟩ : ∃ F, F = flE (namesTo fs j) (knownB kes f.ty) f.nm f.tr := ⟨_, rfl⟩; rw [← hF] at HJ ⊢; clear h3 h4 zc0 zc1 zc2 zf0 zf1 zf2 hF HO1 HN1 HOK1
      by_cases hF0 : F = 0
      · have hq : Hid (∀ i, i < j + 1 → flAtE kes fs i = 0) := fun i hi => by
          rcases Nat.lt_or_ge i j with h | h
          · exact hz.out i h
          · obtain rfl : i = j := by omega
            exact HJ.out.trans hF0
        rw [← HN2.out] at H3; subst hF0; go_wp2; go_roundw
        case rel => exact ⟨j + 1, by omega, by go_num, hq, H3, H4⟩
        case measure => simp [intOf]; omega
      · have hr : Hid (V = F) := by
          show _ = _
          rw [HV.out, firstR_hit hlt hz.out (by rw [HJ.out]; exact hF0), HJ.out]
        go_wp2
        go_ret
        exact ⟨ret_int hr.out.symm, H4.out⟩
    · have hr : Hid (V = 0) := by
        show _ = _
        rw [HV.out]; exact firstR_miss fun i hi => hz.out i (by omega)
      go_wp2
      go_ret
      exact ⟨ret_int hr.out.symm, ho.out⟩
end Go.Proofs.YtmafmebcgmegeaaGreatDoor

namespace Go.Proofs.YtmafmebcgmegeaaGreatDoor
open Go.RowKit Go.Sort
theorem MapIs.fresh (w : World) : MapIs (w.alloc (.map #[] 0)) w.heap.size [] := ⟨#[], 0, Array.getElem?_push_size, rfl⟩
set_option maxHeartbeats 1000000 in
set_option maxRecDepth 100000 in
theorem named_flights (A : Option Addr) (n c : Nat) (fs : List Fl) (gk mb : Nat) (kes : List (ByteArray × Value)) (w : World) (hfs : FlsAt w A n fs) (hgk : w.cell? ⟨gk, 0, none⟩ = some (.map (some mb))) (hkn : KnownIs w mb kes) :
    Calls Tryz.prog 191 #[.slice A n c, .int .i64 16, .func (.func 192) #[] #[.pointer (some ⟨gk, 0, none⟩)]] w
      fun e w' => e = .returned (.int .i64 (flsE kes fs)) ∧ Below w.heap.size w w' := by
  have hmm := @run_makeMap Tryz.prog; have hl := hfs.1
  by_cases hbig : (16 : Int) < (n : Int)
  · have hr : Hid (flsE kes fs = 5 ∧ atMostE n 16 = 5) := by
      show _ ∧ _
      unfold flsE andE atMostE; rw [hl, if_pos hbig]; exact ⟨rfl, rfl⟩
    clear hfs hgk hkn hl hbig
    go_enter Tryz.func191, Tryz.ntmps191
    go_upto_region 1 with fail
    obtain ⟨w1, hw1⟩ : ∃ W, W = (w.alloc (.cells #[.func (.func 192) #[] #[.pointer (some ⟨gk, 0, none⟩)]] 273)) := ⟨_, rfl⟩; rw [← hw1]; have B : Hid (Blk w1 (w.heap.size) 273 #[.func (.func 192) #[] #[.pointer (some ⟨gk, 0, none⟩)]]) := by show Blk _ _ _ _; rw [hw1]; exact Blk.new _ _ _
    have hb1 : Below w.heap.size w w1 := by rw [hw1]; exact ((Below.refl _ _).alloc (Nat.le_refl _) _)
    obtain ⟨g5, hg5⟩ : ∃ g, g = w.heap.size := ⟨_, rfl⟩; have HGw1 : Hid (g5 = w.heap.size) := hg5; rw [← hg5] at B
    try rw [← hg5]
    clear hw1 hg5; have HB1 := Lib.hid hb1; clear hb1 B
    go_wp2_with fail
    refine (atMost_flight A n c 16 w1).mono ?_; rw [hr.out.2]; rintro e w2 ⟨rfl, rfl⟩; go_wp2; go_ret; exact ⟨ret_int (by rw [hr.out.1]), HB1.out⟩
  · have hr : Hid (flsE kes fs = firstR (flAtE kes fs) n ∧ atMostE n 16 = 0) := by
      show _ ∧ _
      unfold flsE andE atMostE; rw [hl, if_neg hbig]; exact ⟨by simp, rfl⟩
    have hn : n ≤ 1000000 := by omega
    have hml := hkn.1.lt; have hgl := World.block_lt_of_cell? _ _ hgk; simp only at hgl; have HFS := Lib.hid hfs; have HKN := Lib.hid hkn; have HGK := Lib.hid hgk; clear hfs hgk hkn hl hbig
    go_enter Tryz.func191, Tryz.ntmps191
    go_upto_region 1 with fail
    obtain ⟨w1, hw1⟩ : ∃ W, W = (w.alloc (.cells #[.func (.func 192) #[] #[.pointer (some ⟨gk, 0, none⟩)]] 273)) := ⟨_, rfl⟩; rw [← hw1]; have B5 : Hid (Blk w1 (w.heap.size) 273 #[.func (.func 192) #[] #[.pointer (some ⟨gk, 0, none⟩)]]) := by show Blk _ _ _ _; rw [hw1]; exact Blk.new _ _ _
    have hb1 : Below w.heap.size w w1 := by rw [hw1]; exact ((Below.refl _ _).alloc (Nat.le_refl _) _)
    obtain ⟨g5, hg5⟩ : ∃ g, g = w.heap.size := ⟨_, rfl⟩; have HGw1 : Hid (g5 = w.heap.size) := hg5; rw [← hg5] at B5
    try rw [← hg5]
    clear hw1 hg5; have HB1 := Lib.hid hb1; clear hb1
    go_wp2_with fail
    refine (atMost_flight A n c 16 w1).mono ?_; rw [hr.out.2]; rintro e w2 ⟨rfl, rfl⟩
    go_upto_region 6 with fail
    generalize hX : w2.alloc (.map #[] 0) = x1
    have hs1 : NamesIn x1 w2.heap.size [] := by rw [← hX]; exact MapIs.fresh w2
    have hb1 : Below w2.heap.size w2 x1 := by rw [← hX]; exact (Below.refl _ _).alloc (Nat.le_refl _) _
    obtain ⟨sm, hsm⟩ : ∃ g, g = w2.heap.size := ⟨_, rfl⟩; rw [← hsm] at hs1 ⊢; have hmn : mb ≠ sm := by have := HB1.out.size; omega
    have hgn : gk ≠ sm := by have := HB1.out.size; omega
    have hgn5 : g5 ≠ sm := by have := lt_of_block B5.out; omega
    have HS1 := Lib.hid hs1; have HBX : Hid (Below w.heap.size w x1) := HB1.out.trans (hb1.mono HB1.out.size); have B5' : Hid (Blk x1 g5 _ _) := B5.out.below hb1; have hxs : x1.heap.size = sm + 1 := by rw [← hX]; simp [hsm]
    have hws : Hid (w.heap.size ≤ sm) := by show _ ≤ _; rw [hsm]; exact HB1.out.size
    have hxm : Hid (sm < x1.heap.size) := by show _ < _; omega
    clear hX hs1 hb1 B5 hsm; rw [← hxs]; obtain ⟨x3, hx3⟩ : ∃ W, W = ((x1.alloc (.cells #[.map (some sm)] 290)).alloc (.cells #[.func (.func 218) #[] #[.pointer (some ⟨x1.heap.size, 0, none⟩)]] 185)) := ⟨_, rfl⟩; rw [← hx3]; have B8 : Hid (Blk x3 (x1.heap.size) 290 #[.map (some sm)]) := by show Blk _ _ _ _; rw [hx3]; exact (Blk.new _ _ _).alloc _
    have B9 : Hid (Blk x3 (x1.heap.size + 1) 185 #[.func (.func 218) #[] #[.pointer (some ⟨x1.heap.size, 0, none⟩)]]) := by show Blk _ _ _ _; rw [hx3]; exact Blk.at_size _ _ (by simp)
    have hb3 : Below x1.heap.size x1 x3 := by rw [hx3]; exact (((Below.refl _ _).alloc (Nat.le_refl _) _).alloc (by simp) _)
    obtain ⟨gm, hgm⟩ : ∃ g, g = x1.heap.size := ⟨_, rfl⟩; obtain ⟨go, hgo⟩ : ∃ g, g = x1.heap.size + 1 := ⟨_, rfl⟩; have HGx3 : Hid (gm = x1.heap.size ∧ go = x1.heap.size + 1) := ⟨hgm, hgo⟩; rw [← hgo] at B9
    try rw [← hgo]
    rw [← hgm] at B8
    try rw [← hgm]
    clear hx3 hgm hgo; rw [← HGx3.out.1] at B9; have HS3 : Hid (NamesIn x3 sm []) := MapIs.keep HS1.out hb3; have hB3 := HBX.out.trans (hb3.mono HBX.out.size); have HB3 := Lib.hid hB3; have B53 : Hid (Blk x3 g5 _ _) := B5'.out.below hb3
    have HE : Hid (Calls Tryz.prog 219 #[.slice A n c, .func (.func 220) #[] #[.pointer (some ⟨g5, 0, none⟩), .pointer (some ⟨go, 0, none⟩)]] x3 fun e w' => e = .returned (.int .i64 (firstR (flAtE kes fs) n)) ∧ OnlyMap sm x3 w') :=
      each_flights A n c fs g5 go gm sm gk mb kes x3 (HFS.out.keep hB3) ((B8.out.cell 0).trans rfl) HS3.out ((hB3.cell (p := ⟨gk, 0, none⟩) hgl).trans HGK.out) (HKN.out.keep hB3) hmn ((B53.out.cell 0).trans rfl) ((B9.out.cell 0).trans rfl) hn
    clear hb3 hB3 B8 B9 B53 B5' hgl HGK HKN HFS hmn hgn hgn5 HS1 HS3 HBX hmm
    go_wp2_with fail
    refine HE.out.mono ?_; rintro e w4 ⟨rfl, ho⟩; have HO : Hid (Below w.heap.size w w4) := HB3.out.trans (ho.below HB3.out.size hws.out); clear ho; go_wp2; go_ret; exact ⟨ret_int (by rw [hr.out.1]), HO.out⟩
theorem checkListed_any (A : Option Addr) (n c : Nat) (fs : List Fl) (mb : Nat) (kes : List (ByteArray × Value)) (w : World) (hfs : FlsAt w A n fs) (hkn : KnownIs w mb kes) :
    Calls Tryz.prog 146 #[.map (some mb), .slice A n c] w fun e w' => e = .returned (.int .i64 (flsE kes fs)) ∧ Below w.heap.size w w' := by
  have HFS := Lib.hid hfs; have HKN := Lib.hid hkn; clear hfs hkn
  go_enter Tryz.func146, Tryz.ntmps146
  go_upto_region 1 with fail
  obtain ⟨w1, hw1⟩ : ∃ W, W = (w.alloc (.cells #[.map (some mb)] 219)) := ⟨_, rfl⟩; rw [← hw1]; have B2 : Hid (Blk w1 (w.heap.size) 219 #[.map (some mb)]) := by show Blk _ _ _ _; rw [hw1]; exact Blk.new _ _ _
  have hb1 : Below w.heap.size w w1 := by rw [hw1]; exact ((Below.refl _ _).alloc (Nat.le_refl _) _)
  obtain ⟨g2, hg2⟩ : ∃ g, g = w.heap.size := ⟨_, rfl⟩; have HGw1 : Hid (g2 = w.heap.size) := hg2; rw [← hg2] at B2
  try rw [← hg2]
  clear hw1 hg2; have HE := Lib.hid (named_flights A n c fs g2 mb kes w1 (HFS.out.keep hb1) ((B2.out.cell 0).trans rfl) (HKN.out.keep hb1)); have HB1 := Lib.hid hb1; clear hb1 B2 HFS HKN
  go_wp2_with fail
  refine HE.out.mono ?_; rintro e w2 ⟨rfl, hb⟩; have HB2 : Hid (Below w.heap.size w w2) := HB1.out.trans (hb.mono HB1.out.size); clear hb; go_wp2; go_ret; exact ⟨rfl, HB2.out⟩
end Go.Proofs.YtmafmebcgmegeaaGreatDoor

namespace Go.Proofs.YtmafmebcgmegeaaGreatDoor
open Go.RowKit Go.Sort
theorem run_makeMap_hint {P : Program} {t k e : TypeId} (ht : P.underlying t = some (.map k e)) (kd : IntKind) (n : Int) (w : World) : (Instr.makeMap t (some (.int kd n))).run P w = .ok (.map (some w.heap.size)) (w.alloc (.map #[] 0)) := by
  simp [Instr.makeMap, run_underlying ht, asInt, asIntOf, Result.andThen]
structure Tp where
  nm : ByteArray
  sh : List Int
  T : Bell.Ty
  sa : Option Addr
  sn : Nat
  sc : Nat
  qb : Nat
  qo : Nat
  qn : Nat
  qc : Nat
  gb : Nat
  go : Nat
  gn : Nat
  gc : Nat
def Tp.cs (t : Tp) : Array Value := tyV t.nm t.sa t.sn t.sc t.T (some ⟨t.qb, t.qo, none⟩) t.qn t.qc (some ⟨t.gb, t.go, none⟩) t.gn t.gc
def Tp.none : Tp := ⟨⟨#[]⟩, [], ⟨[], 0, [], []⟩, Option.none, 0, 0, 0, 0, 0, 0, 0, 0, 0, 0⟩
def TpOk (w : World) (t : Tp) : Prop := TyOk w t.cs t.nm t.sh t.T t.sa t.sn t.sc t.qb t.qo t.qn t.qc t.gb t.go t.gn t.gc
def tpAt (ts : List Tp) (i : Nat) : Tp := ts.getD i Tp.none
def TpsAt (w : World) (A : Option Addr) (n : Nat) (ts : List Tp) : Prop :=
  ts.length = n ∧ (0 < n → ∃ b o, A = some ⟨b, o, Option.none⟩ ∧ ∀ i, i < n → (∀ j, j < 13 → w.cell? ⟨b, o + i * 13 + j, Option.none⟩ = some ((tpAt ts i).cs.getD j undef)) ∧ TpOk w (tpAt ts i))
theorem TpsAt.keep {w w' : World} {A : Option Addr} {n : Nat} {ts : List Tp} (h : TpsAt w A n ts) (hb : Below w.heap.size w w') : TpsAt w' A n ts :=
  ⟨h.1, fun hn => by
    obtain ⟨b, o, e, hc⟩ := h.2 hn
    have k : ∀ {j : Nat} {v : Value}, w.cell? ⟨b, j, Option.none⟩ = some v → w'.cell? ⟨b, j, Option.none⟩ = some v := fun {j v} hc => by
      rw [hb.cell (p := ⟨b, j, Option.none⟩) (World.block_lt_of_cell? _ _ hc)]; exact hc
    exact ⟨b, o, e, fun i hi => ⟨fun j hj => k ((hc i hi).1 j hj), TyOk.keep (hc i hi).2 hb⟩⟩⟩
def kesTo (ts : List Tp) (j : Nat) : List (ByteArray × Value) := (List.range j).map fun i => ((tpAt ts i).nm, Value.agg (tpAt ts i).cs)
theorem kesTo_succ (ts : List Tp) (j : Nat) : kesTo ts (j + 1) = kesTo ts j ++ [((tpAt ts j).nm, Value.agg (tpAt ts j).cs)] := by
  unfold kesTo; rw [List.range_succ, List.map_append]
  rfl
def Distinct (ts : List Tp) (n : Nat) : Prop := ∀ i j, i < j → j < n → (tpAt ts i).nm ≠ (tpAt ts j).nm
theorem kesTo_lacks {ts : List Tp} {n j : Nat} (h : Distinct ts n) (hj : j < n) : mapGet (kesTo ts j) (tpAt ts j).nm = none := by
  rw [mapGet_none]; intro x hx; obtain ⟨i, hi, rfl⟩ := List.mem_map.1 hx; exact h i j (List.mem_range.1 hi) hj
theorem cs_size (t : Tp) : t.cs.size = 13 := rfl
theorem cs_one (t : Tp) : t.cs.all (·.oneCell') = true := by
  simp [Tp.cs, tyV, Value.oneCell']
theorem kesTo_known {w : World} {b : Nat} {ts : List Tp} {n : Nat} (h : MapIs w b (kesTo ts n)) : KnownIs w b (kesTo ts n) :=
  ⟨h, fun x hx => by
    obtain ⟨i, _, rfl⟩ := List.mem_map.1 hx; exact ⟨_, rfl, cs_size _, cs_one _⟩⟩
set_option maxHeartbeats 1000000 in
set_option maxRecDepth 100000 in
theorem named_ok (A : Option Addr) (n c : Nat) (ts : List Tp) (w : World) (hts : TpsAt w A n ts) (hd : Distinct ts n) (hn8 : n ≤ 8) :
    Calls Tryz.prog 145 #[.slice A n c] w fun e w' => ∃ mb, e = .returned (.tuple #[.map (some mb), .int .i64 0]) ∧ KnownIs w' mb (kesTo ts n) ∧ Below w.heap.size w w' := by
  have hmm := run_makeMap_hint (P := Tryz.prog) typeM_under .i64 n; have hE : Hid (atMostE n 8 = 0) := by show _ = _; unfold atMostE; rw [if_neg (by omega)]
  have HTS := Lib.hid hts; have HD := Lib.hid hd; clear hts hd
  go_enter Tryz.func145, Tryz.ntmps145
  go_wp2_with fail
  refine (atMost_type A n c 8 w).mono ?_; rw [hE.out]; rintro e W ⟨rfl, hW⟩; obtain rfl := hW.symm
  go_upto_region 5 with fail
  generalize hX : w.alloc (.map #[] 0) = x1
  have hs1 : MapIs x1 w.heap.size (kesTo ts 0) := by rw [← hX]; exact MapIs.fresh w
  have hb1 : Below w.heap.size w x1 := by rw [← hX]; exact (Below.refl _ _).alloc (Nat.le_refl _) _
  obtain ⟨sm, hsm⟩ : ∃ g, g = w.heap.size := ⟨_, rfl⟩; rw [← hsm] at hs1 ⊢; have HSM : Hid (sm = w.heap.size) := hsm; have HS1 := Lib.hid hs1; have HB1 : Hid (Below w.heap.size w x1) := hb1; clear hX hs1 hb1 hsm hmm; go_wp2
  go_loopw [21] (fun k wr => ∃ j : Nat, j ≤ n ∧ k = .int .i64 j ∧ Hid (MapIs wr sm (kesTo ts j)) ∧ Hid (OnlyMap sm x1 wr)) (fun k _ => n - (intOf k).toNat)
  case atStart => exact ⟨0, Nat.zero_le _, rfl, HS1, OnlyMap.refl _ _⟩
  case round =>
    obtain ⟨j, hj, rfl, hm, ho⟩ := hrel
    by_cases hlt : j < n
    · have HW : Hid (Below w.heap.size w wr) := HB1.out.trans (ho.out.below HB1.out.size (by rw [HSM.out]; exact Nat.le_refl _)); obtain ⟨b, o, rfl, hc⟩ := (HTS.out.keep HW.out).2 (by omega); obtain ⟨hcs, hok⟩ := hc j hlt; have hlk := kesTo_lacks HD.out hlt; have HK : Hid (kesTo ts (j + 1) = kesTo ts j ++ [((tpAt ts j).nm, Value.agg (tpAt ts j).cs)]) := kesTo_succ ts j; obtain ⟨T, hT⟩ : ∃ T, T = tpAt ts j := ⟨_, rfl⟩; rw [← hT] at hcs hok hlk HK; have c0 := hcs 0 (by omega); have c1 := hcs 1 (by omega); have c2 := hcs 2 (by omega); have c3 := hcs 3 (by omega); have c4 := hcs 4 (by omega); have c5 := hcs 5 (by omega); have c6 := hcs 6 (by omega); have c7 := hcs 7 (by omega); have c8 := hcs 8 (by omega); have c9 := hcs 9 (by omega); have c10 := hcs 10 (by omega); have c11 := hcs 11 (by omega); have c12 := hcs 12 (by omega); simp only [Tp.cs, tyV, Array.getD_eq_getD_getElem?, List.getElem?_toArray, List.getElem?_cons_zero, List.getElem?_cons_succ, Option.getD_some, Nat.add_zero] at c0 c1 c2 c3 c4 c5 c6 c7 c8 c9 c10 c11 c12
      obtain ⟨d0, h0⟩ : ∃ d, d = T.T.direct.getD 0 0 := ⟨_, rfl⟩; obtain ⟨d1, h1⟩ : ∃ d, d = T.T.direct.getD 1 0 := ⟨_, rfl⟩; obtain ⟨d2, h2⟩ : ∃ d, d = T.T.direct.getD 2 0 := ⟨_, rfl⟩; obtain ⟨d3, h3⟩ : ∃ d, d = T.T.direct.getD 3 0 := ⟨_, rfl⟩; obtain ⟨d4, h4⟩ : ∃ d, d = T.T.direct.getD 4 0 := ⟨_, rfl⟩; obtain ⟨d5, h5⟩ : ∃ d, d = T.T.direct.getD 5 0 := ⟨_, rfl⟩; obtain ⟨d6, h6⟩ : ∃ d, d = T.T.direct.getD 6 0 := ⟨_, rfl⟩; obtain ⟨d7, h7⟩ : ∃ d, d = T.T.direct.getD 7 0 := ⟨_, rfl⟩; have hcsE : T.cs = #[.string T.nm, .slice T.sa T.sn T.sc, .int .i64 d0, .int .i64 d1, .int .i64 d2, .int .i64 d3, .int .i64 d4, .int .i64 d5, .int .i64 d6, .int .i64 d7, .int .i64 T.T.side, .slice (some ⟨T.qb, T.qo, none⟩) T.qn T.qc, .slice (some ⟨T.gb, T.go, none⟩) T.gn T.gc] := by rw [h0, h1, h2, h3, h4, h5, h6, h7]; rfl
      rw [← h0] at c2; rw [← h1] at c3; rw [← h2] at c4; rw [← h3] at c5; rw [← h4] at c6; rw [← h5] at c7; rw [← h6] at c8; rw [← h7] at c9
      have HOK : Hid (TyOk wr #[.string T.nm, .slice T.sa T.sn T.sc, .int .i64 d0, .int .i64 d1, .int .i64 d2, .int .i64 d3, .int .i64 d4, .int .i64 d5, .int .i64 d6, .int .i64 d7, .int .i64 T.T.side, .slice (some ⟨T.qb, T.qo, none⟩) T.qn T.qc, .slice (some ⟨T.gb, T.go, none⟩) T.gn T.gc] T.nm T.sh T.T T.sa T.sn T.sc T.qb T.qo T.qn T.qc T.gb T.go T.gn T.gc) := by
        rw [← hcsE]; exact hok
      rw [hcsE] at HK; have HL := Lib.hid hlk; clear hc hcs hok hlk hT hcsE h0 h1 h2 h3 h4 h5 h6 h7
      go_upto_region 8 with fail
      obtain ⟨wa, hwa⟩ : ∃ W, W = (wr.alloc (.cells #[.string T.nm, .slice T.sa T.sn T.sc, .int .i64 d0, .int .i64 d1, .int .i64 d2, .int .i64 d3, .int .i64 d4, .int .i64 d5, .int .i64 d6, .int .i64 d7, .int .i64 T.T.side, .slice (some ⟨T.qb, T.qo, none⟩) T.qn T.qc, .slice (some ⟨T.gb, T.go, none⟩) T.gn T.gc] 42)) := ⟨_, rfl⟩; rw [← hwa]; have B : Hid (Blk wa (wr.heap.size) 42 #[.string T.nm, .slice T.sa T.sn T.sc, .int .i64 d0, .int .i64 d1, .int .i64 d2, .int .i64 d3, .int .i64 d4, .int .i64 d5, .int .i64 d6, .int .i64 d7, .int .i64 T.T.side, .slice (some ⟨T.qb, T.qo, none⟩) T.qn T.qc, .slice (some ⟨T.gb, T.go, none⟩) T.gn T.gc]) := by show Blk _ _ _ _; rw [hwa]; exact Blk.new _ _ _
      have hba : Below wr.heap.size wr wa := by rw [hwa]; exact ((Below.refl _ _).alloc (Nat.le_refl _) _)
      obtain ⟨g7, hg7⟩ : ∃ g, g = wr.heap.size := ⟨_, rfl⟩; have HGwa : Hid (g7 = wr.heap.size) := hg7; rw [← hg7] at B
      try rw [← hg7]
      clear hwa hg7; have BB := B.out; have zc0 := BB.cell 0; have zf0 := BB.frozen 0; have zc1 := BB.cell 1; have zf1 := BB.frozen 1; have zc2 := BB.cell 2; have zf2 := BB.frozen 2; have zc3 := BB.cell 3; have zf3 := BB.frozen 3; have zc4 := BB.cell 4; have zf4 := BB.frozen 4; have zc5 := BB.cell 5; have zf5 := BB.frozen 5; have zc6 := BB.cell 6; have zf6 := BB.frozen 6; have zc7 := BB.cell 7; have zf7 := BB.frozen 7; have zc8 := BB.cell 8; have zf8 := BB.frozen 8; have zc9 := BB.cell 9; have zf9 := BB.frozen 9; have zc10 := BB.cell 10; have zf10 := BB.frozen 10; have zc11 := BB.cell 11; have zf11 := BB.frozen 11; have zc12 := BB.cell 12; have zf12 := BB.frozen 12; simp only [List.getElem?_toArray, List.getElem?_cons_zero, List.getElem?_cons_succ] at zc0 zc1 zc2 zc3 zc4 zc5 zc6 zc7 zc8 zc9 zc10 zc11 zc12; clear BB; clear c0 c1 c2 c3 c4 c5 c6 c7 c8 c9 c10 c11 c12; replace HOK := Lib.hid (HOK.out.keep hba)
      replace hm := Lib.hid (hm.out.keep hba); replace ho := Lib.hid (ho.out.trans (OnlyMap.of hba)); clear hba
      go_upto_region 9 with fail
      refine (CheckType_ok wa HOK.out).mono ?_; rintro e wb ⟨rfl, hb⟩; replace hm := Lib.hid (hm.out.keep hb); replace ho := Lib.hid (ho.out.trans (OnlyMap.of hb)); replace B := Lib.hid (B.out.below hb); clear hb zc0 zc1 zc2 zc3 zc4 zc5 zc6 zc7 zc8 zc9 zc10 zc11 zc12 zf0 zf1 zf2 zf3 zf4 zf5 zf6 zf7 zf8 zf9 zf10 zf11 zf12; have BB := B.out; have zc0 := BB.cell 0; have zf0 := BB.frozen 0; have zc1 := BB.cell 1; have zf1 := BB.frozen 1; have zc2 := BB.cell 2; have zf2 := BB.frozen 2; have zc3 := BB.cell 3; have zf3 := BB.frozen 3; have zc4 := BB.cell 4; have zf4 := BB.frozen 4; have zc5 := BB.cell 5; have zf5 := BB.frozen 5; have zc6 := BB.cell 6; have zf6 := BB.frozen 6; have zc7 := BB.cell 7; have zf7 := BB.frozen 7; have zc8 := BB.cell 8; have zf8 := BB.frozen 8; have zc9 := BB.cell 9; have zf9 := BB.frozen 9; have zc10 := BB.cell 10; have zf10 := BB.frozen 10; have zc11 := BB.cell 11; have zf11 := BB.frozen 11; have zc12 := BB.cell 12; have zf12 := BB.frozen 12
      simp only [List.getElem?_toArray, List.getElem?_cons_zero, List.getElem?_cons_succ] at zc0 zc1 zc2 zc3 zc4 zc5 zc6 zc7 zc8 zc9 zc10 zc11 zc12; clear BB; have hlook : (Instr.lookup 219 (.map (some sm)) (.string T.nm) true).run Tryz.prog wb = .ok (.tuple #[.agg #[.string ⟨#[]⟩, .slice none 0 0, .int .i64 0, .int .i64 0, .int .i64 0, .int .i64 0, .int .i64 0, .int .i64 0, .int .i64 0, .int .i64 0, .int .i64 0, .slice none 0 0, .slice none 0 0], .bool false]) wb := lookup_lacks typeM_under str_under hm.out (type_zero _) HL.out true
      go_upto_region 12 with fail
      obtain ⟨wc, hwc⟩ : ∃ W, W = (wb.alloc (.cells #[.string ⟨#[]⟩, .slice none 0 0, .int .i64 0, .int .i64 0, .int .i64 0, .int .i64 0, .int .i64 0, .int .i64 0, .int .i64 0, .int .i64 0, .int .i64 0, .slice none 0 0, .slice none 0 0] 42)) := ⟨_, rfl⟩; rw [← hwc]; have B9 : Hid (Blk wc (wb.heap.size) 42 #[.string ⟨#[]⟩, .slice none 0 0, .int .i64 0, .int .i64 0, .int .i64 0, .int .i64 0, .int .i64 0, .int .i64 0, .int .i64 0, .int .i64 0, .int .i64 0, .slice none 0 0, .slice none 0 0]) := by show Blk _ _ _ _; rw [hwc]; exact Blk.new _ _ _
      have hbc : Below wb.heap.size wb wc := by rw [hwc]; exact ((Below.refl _ _).alloc (Nat.le_refl _) _)
      obtain ⟨g9, hg9⟩ : ∃ g, g = wb.heap.size := ⟨_, rfl⟩; have HGwc : Hid (g9 = wb.heap.size) := hg9; rw [← hg9] at B9
      try rw [← hg9]
      clear hwc hg9; replace hm := Lib.hid (hm.out.keep hbc); replace ho := Lib.hid (ho.out.trans (OnlyMap.of hbc)); replace B := Lib.hid (B.out.below hbc); clear hbc hlook zc0 zc1 zc2 zc3 zc4 zc5 zc6 zc7 zc8 zc9 zc10 zc11 zc12 zf0 zf1 zf2 zf3 zf4 zf5 zf6 zf7 zf8 zf9 zf10 zf11 zf12 B9; have BB := B.out; have zc0 := BB.cell 0; have zf0 := BB.frozen 0; have zc1 := BB.cell 1; have zf1 := BB.frozen 1; have zc2 := BB.cell 2; have zf2 := BB.frozen 2; have zc3 := BB.cell 3; have zf3 := BB.frozen 3; have zc4 := BB.cell 4; have zf4 := BB.frozen 4; have zc5 := BB.cell 5; have zf5 := BB.frozen 5; have zc6 := BB.cell 6; have zf6 := BB.frozen 6; have zc7 := BB.cell 7; have zf7 := BB.frozen 7; have zc8 := BB.cell 8; have zf8 := BB.frozen 8; have zc9 := BB.cell 9; have zf9 := BB.frozen 9; have zc10 := BB.cell 10; have zf10 := BB.frozen 10; have zc11 := BB.cell 11; have zf11 := BB.frozen 11; have zc12 := BB.cell 12; have zf12 := BB.frozen 12
      simp only [List.getElem?_toArray, List.getElem?_cons_zero, List.getElem?_cons_succ] at zc0 zc1 zc2 zc3 zc4 zc5 zc6 zc7 zc8 zc9 zc10 zc11 zc12; clear BB; obtain ⟨wd, hwd⟩ : ∃ X, X = World.mapPut wc sm T.nm (.agg #[.string T.nm, .slice T.sa T.sn T.sc, .int .i64 d0, .int .i64 d1, .int .i64 d2, .int .i64 d3, .int .i64 d4, .int .i64 d5, .int .i64 d6, .int .i64 d7, .int .i64 T.T.side, .slice (some ⟨T.qb, T.qo, none⟩) T.qn T.qc, .slice (some ⟨T.gb, T.go, none⟩) T.gn T.gc]) := ⟨_, rfl⟩; have hup : (Instr.mapUpdate 219 (.map (some sm)) (.string T.nm) (.agg #[.string T.nm, .slice T.sa T.sn T.sc, .int .i64 d0, .int .i64 d1, .int .i64 d2, .int .i64 d3, .int .i64 d4, .int .i64 d5, .int .i64 d6, .int .i64 d7, .int .i64 T.T.side, .slice (some ⟨T.qb, T.qo, none⟩) T.qn T.qc, .slice (some ⟨T.gb, T.go, none⟩) T.gn T.gc])).run Tryz.prog wc = .ok () wd := by rw [hwd]; exact update_new typeM_under str_under hm.out HL.out _
      have hmF : Hid (MapIs wd sm (kesTo ts (j + 1))) := by
        show MapIs _ _ _
        rw [HK.out, hwd]; exact hm.out.put _ _
      have hoF : Hid (OnlyMap sm x1 wd) := by
        show OnlyMap _ _ _
        rw [hwd]; exact ho.out.trans (OnlyMap.put _ _ _ _)
      clear hwd; go_wp2; go_roundw
      case rel => exact ⟨j + 1, by omega, by go_num, hmF, hoF⟩
      case measure => simp [intOf]; omega
    · obtain rfl : j = n := by omega
      have HF : Hid (Below w.heap.size w wr) := HB1.out.trans (ho.out.below HB1.out.size (by rw [HSM.out]; exact Nat.le_refl _)); go_wp2
      (try simp only [Exit.inBlock, Exit.then])
      refine bodyPost_ret (v := .tuple #[.map (some sm), .int .i64 0]) (by simp [results, Tryz.results145, go_sem, asAddr]) rfl ?_; exact ⟨sm, rfl, kesTo_known hm.out, HF.out⟩
end Go.Proofs.YtmafmebcgmegeaaGreatDoor
