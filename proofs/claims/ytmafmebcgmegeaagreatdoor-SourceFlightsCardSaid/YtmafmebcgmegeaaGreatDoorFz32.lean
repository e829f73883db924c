/- Texts Fc Fd Ql of the proof. -/
import Derived.Test.YtmafmebcgmegeaaGreatDoorFz31
import Derived.Deep.MidRow
import Derived.BigQuiet
import Derived.Test.YtmafmebcgmegeaaGreatDoorFz29
import Derived.Test.YtmafmebcgmegeaaGreatDoorFz23
namespace Go.Proofs.YtmafmebcgmegeaaGreatDoor
open Go.RowKit Go.Sort
def vRow (V : Nat → Int) (k : Nat) : List Value := (List.range k).map fun i => .int .i64 (V i)
theorem vRow_snoc (V : Nat → Int) (k : Nat) : vRow V (k + 1) = vRow V k ++ [.int .i64 (V k)] := by
  unfold vRow; rw [List.range_succ, List.map_append]; rfl
theorem cells_one_at (w : World) (t : TypeId) (a : Value) : ∀ (j : Nat) (u : Value), [a][j]? = some u → (w.alloc (.cells #[a] t)).cell? ((⟨w.heap.size, 0, none⟩ : Addr).add j) = some u := fun j u h => by
  cases j with
  | zero => injection h with h; subst h; exact (Blk.new w t #[a]).cell 0
  | succ j => simp at h
theorem parts_of {w : World} {base g n : Nat} {V : Nat → Int} (h : w.ownsRow base 3 1 (.slice (some ⟨g, 0, none⟩) n n) n (vRow V n)) : ∀ i, i < n → w.cell? ⟨g, i, none⟩ = some (.int .i64 (V i)) := fun i hi => by
  have := World.ownsRow.cellAt h i (by omega); rw [this]
  simp [vRow, List.getElem?_range hi]
set_option maxRecDepth 100000 in
theorem parts_one (f : Fl) (x : Int) (w : World) : Calls Tryz.prog 141 #[.agg #[.string f.nm, .string f.ty, .slice f.A f.n f.c, .int .i64 x]] w fun e w' => e = .returned (.int .i64 x) ∧ Below w.heap.size w w' := by
  go_enter Tryz.func141, Tryz.ntmps141
  go_wp2
  go_ret
  exact ⟨rfl, (Below.refl _ _).alloc (Nat.le_refl _) _⟩
set_option maxHeartbeats 1000000 in
set_option maxRecDepth 100000 in
theorem mapped_expos (g n : Nat) (fs : List Fl) (V : Nat → Int) (w : World) (hfs : LoudsAt w g n fs V) (hn : n ≤ 16) :
    Calls Tryz.prog 140 #[.slice (some ⟨g, 0, none⟩) n n, .func (.func 141) #[] #[]] w
      fun e w' => e = .returned (.slice (some ⟨w.heap.size, 0, none⟩) n n) ∧ (∀ i, i < n → w'.cell? ⟨w.heap.size, i, none⟩ = some (.int .i64 (V i))) ∧ Below w.heap.size w w' := by
  obtain ⟨i0, hi, hz0, hz1, hz2⟩ := info_parts infoInt; have HF := Lib.hid hfs; have HCL := Lib.hid (fun (f : Fl) (x : Int) W => parts_one f x W); obtain ⟨gl, hgl⟩ : ∃ x, x = g := ⟨_, rfl⟩; rw [← hgl] at HF ⊢; clear hfs hgl g
  go_enter Tryz.func140, Tryz.ntmps140
  go_wp2_with (at_make; refine wpList_make_own _ rfl _ _ 22 rfl w.heap.size 3 i0 (.int .i64 0) 1 Tryz.underlying22 hi hz0 hz1 _ _ _ n rfl rfl rfl (by rw [hz2]; omega) (by unfold maxLen; omega) (by simp) ?_; intro w1 hown hg1)
  obtain ⟨g, hg⟩ : ∃ g, g = w.heap.size := ⟨_, rfl⟩; rw [← hg] at hown ⊢; have HG : Hid (g = w.heap.size) := hg; have HO : Hid (w1.ownsRow g 3 1 (.slice (some ⟨g, 0, none⟩) 0 n) 0 (vRow V 0)) := hown; have HB1 : Hid (Below w.heap.size w w1) := Below.grown (Below.refl _ _) hg1 (Nat.le_refl _) (fun k hk => by cases hk); clear hown hg1 hg; go_wp2
  go_loopw [5, 13] (fun v i wr => ∃ k : Nat, k ≤ n ∧ i = .int .i64 k ∧ v = .slice (some ⟨g, 0, none⟩) k n ∧ Hid (wr.ownsRow g 3 1 (.slice (some ⟨g, 0, none⟩) k n) k (vRow V k)) ∧ Hid (Below w.heap.size w wr)) (fun _ i _ => n - (intOf i).toNat)
  case atStart => exact ⟨0, Nat.zero_le _, rfl, rfl, HO, HB1⟩
  case round =>
    clear HO HB1; obtain ⟨k, hk, rfl, rfl, hO, hB⟩ := hrel
    by_cases hlt : k < n
    · obtain ⟨c0, c1, c2, c3⟩ := (HF.out.keep hB.out) k hlt; have HR : Hid (vRow V (k + 1) = vRow V k ++ [.int .i64 (V k)]) := vRow_snoc V k; obtain ⟨f, hf⟩ : ∃ f, f = flAt fs k := ⟨_, rfl⟩; obtain ⟨x, hx⟩ : ∃ x, x = V k := ⟨_, rfl⟩; rw [← hf] at c0 c1 c2; rw [← hx] at c3 HR; have HK := Lib.hid (HCL.out f x); clear hf hx HF
      go_upto_region 5 with fail
      obtain ⟨wa, hwa⟩ : ∃ W, W = (wr.alloc (.cells #[.string f.nm, .string f.ty, .slice f.A f.n f.c, .int .i64 x] 213)) := ⟨_, rfl⟩; rw [← hwa]; have B : Hid (Blk wa (wr.heap.size) 213 #[.string f.nm, .string f.ty, .slice f.A f.n f.c, .int .i64 x]) := by show Blk _ _ _ _; rw [hwa]; exact Blk.new _ _ _
      have hba : Below wr.heap.size wr wa := by rw [hwa]; exact ((Below.refl _ _).alloc (Nat.le_refl _) _)
      obtain ⟨gx, hgx⟩ : ∃ g, g = wr.heap.size := ⟨_, rfl⟩; have HGwa : Hid (gx = wr.heap.size) := hgx; rw [← hgx] at B
      try rw [← hgx]
      clear hwa hgx; have BB := B.out; have zc0 := BB.cell 0; have zf0 := BB.frozen 0; have zc1 := BB.cell 1; have zf1 := BB.frozen 1; have zc2 := BB.cell 2; have zf2 := BB.frozen 2; have zc3 := BB.cell 3; have zf3 := BB.frozen 3; simp only [List.getElem?_toArray, List.getElem?_cons_zero, List.getElem?_cons_succ] at zc0 zc1 zc2 zc3; clear BB; replace hB := Lib.hid (hB.out.trans (hba.mono hB.out.size)); replace hO : Hid (wa.ownsRow g 3 1 (.slice (some ⟨g, 0, none⟩) k n) k (vRow V k)) := World.ownsRow.kept hO.out (row := none) ⟨hba.os, hba.tape, hba.output, hba.size, fun k hk _ => hba.block k hk⟩ (Classical.em _); clear hba c0 c1 c2 c3 B
      go_wp2_with fail
      refine (HK.out wa).mono ?_; rintro e wb ⟨rfl, hb⟩; replace hO : Hid (wb.ownsRow g 3 1 (.slice (some ⟨g, 0, none⟩) k n) k (vRow V k)) := World.ownsRow.kept hO.out (row := none) ⟨hb.os, hb.tape, hb.output, hb.size, fun k hk _ => hb.block k hk⟩ (Classical.em _); replace hB := Lib.hid (hB.out.trans (hb.mono hB.out.size)); have hsz := hB.out.size; clear hb zc0 zc1 zc2 zc3 zf0 zf1 zf2 zf3 HK
      go_wp2_with (at_builtin; refine wpList_append_fits _ rfl _ _ 22 rfl g 3 i0 1 Tryz.underlying22 hi hz1 g k n (vRow V k) rfl (World.ownsRow.alloc hO.out _) ⟨wb.heap.size, 0, none⟩ 1 1 [.int .i64 x] rfl rfl (cells_one_at _ _ _) (by simp [Value.oneCell']) (by omega) ?_; intro w3 hown' hgrow)
      have R : Hid (w3.ownsRow g 3 1 (.slice (some ⟨g, 0, none⟩) (k + 1) n) (k + 1) (vRow V (k + 1))) := by
        show World.ownsRow _ _ _ _ _ _ _
        rw [HR.out]; exact hown'
      have hle : Hid (w.heap.size ≤ g) := by show _ ≤ _; rw [HG.out]; exact Nat.le_refl _
      have B3 : Hid (Below w.heap.size w w3) := Below.grown (hB.out.alloc hsz _) hgrow (by simp; omega) (fun j hj => by cases hj; exact hle.out); clear hown' hgrow hO; go_wp2; go_roundw
      case rel => exact ⟨k + 1, by omega, by go_num, rfl, R, B3⟩
      case measure => simp [intOf]; omega
    · obtain rfl : k = n := by omega
      go_wp2
      go_ret
      exact ⟨by rw [HG.out]; rfl, by rw [← HG.out]; exact parts_of hO.out, hB.out⟩
def tyIx (ts : List Tq) (n : Nat) (s : ByteArray) : Nat := ((List.range n).find? fun k => decide ((tqAt ts k).nm = s)).getD n
theorem tyIx_at {ts : List Tq} {n : Nat} {s : ByteArray} (h : tyIx ts n s < n) : (tqAt ts (tyIx ts n s)).nm = s := by
  unfold tyIx at h ⊢
  cases hf : (List.range n).find? (fun k => decide ((tqAt ts k).nm = s)) with
  | none => rw [hf] at h; exact absurd h (Nat.lt_irrefl _)
  | some k =>
    have h9 : decide ((tqAt ts k).nm = s) = true := by have := List.find?_some hf; simpa using this
    exact of_decide_eq_true h9
theorem tyIx_lt {ts : List Tq} {n k : Nat} {s : ByteArray} (hk : k < n) (h : (tqAt ts k).nm = s) : tyIx ts n s < n := by
  unfold tyIx
  cases hf : (List.range n).find? (fun k => decide ((tqAt ts k).nm = s)) with
  | none => exact absurd (decide_eq_true h) (List.find?_eq_none.1 hf k (List.mem_range.2 hk))
  | some k => exact List.mem_range.1 (List.mem_of_find?_eq_some hf)
theorem known_ix (ts : List Tq) (n : Nat) (s : ByteArray) : knownB (kqTo ts n) s = decide (tyIx ts n s < n) := by
  unfold knownB
  cases hg : mapGet (kqTo ts n) s with
  | none =>
    rw [mapGet_none] at hg; refine (decide_eq_false fun h => ?_).symm; exact hg _ (List.mem_map.2 ⟨_, List.mem_range.2 h, rfl⟩) (tyIx_at h)
  | some v =>
    refine (decide_eq_true ?_).symm; unfold mapGet at hg
    cases hf : (kqTo ts n).find? (fun x => decide (x.1 = s)) with
    | none => rw [hf] at hg; cases hg
    | some x =>
      obtain ⟨k, hk, rfl⟩ := List.mem_map.1 (List.mem_of_find?_eq_some hf); have h9 : decide ((tqAt ts k).nm = s) = true := by have := List.find?_some hf; simpa using this
      exact tyIx_lt (List.mem_range.1 hk) (of_decide_eq_true h9)
def exV (ts : List Tq) (n : Nat) (fs : List Fl) (r : Bell.Pl) (i : Nat) : Int := Bell.expoOf (tqAt ts (tyIx ts n (flAt fs i).ty)).T (flAt fs i).tr r 0 100000000
def Tq.tp (t : Tq) : Tp := ⟨t.nm, t.sh, t.T, t.sa, t.sn, t.sc, (t.qa.getD ⟨0, 0, Option.none⟩).block, (t.qa.getD ⟨0, 0, Option.none⟩).off, t.qn, t.qc, (t.ga.getD ⟨0, 0, Option.none⟩).block, (t.ga.getD ⟨0, 0, Option.none⟩).off, t.gn, t.gc⟩
theorem tp_at (ts : List Tq) (i : Nat) : tpAt (ts.map Tq.tp) i = (tqAt ts i).tp := by
  unfold tpAt tqAt; rw [List.getD_eq_getElem?_getD, List.getD_eq_getElem?_getD, List.getElem?_map]
  cases ts[i]? with
  | none => rfl
  | some t => rfl
theorem tp_ok {w : World} {t : Tq} (h : TqOk w t) (h0 : Bell.tyE (nameE t.nm) t.sh t.T = 0) : t.tp.cs = t.cs ∧ TpOk w t.tp := by
  obtain ⟨qb, qo, gb, go, h1, h2, hk⟩ := TyAny.ok h h0; obtain ⟨nm, sh, T, sa, sn, sc, qa, qn, qc, ga, gn, gc⟩ := t; simp only at h1 h2; subst h1; subst h2; exact ⟨rfl, hk⟩
theorem tps_of {w : World} {A : Option Addr} {n : Nat} {ts : List Tq} (h : TqsAt w A n ts) (h0 : namedE ts n = 0) : TpsAt w A n (ts.map Tq.tp) ∧ Distinct (ts.map Tq.tp) n ∧ n ≤ 8 ∧ kesTo (ts.map Tq.tp) n = kqTo ts n := by
  obtain ⟨ha, hb⟩ := andE_zero h0; have hz := firstR_zero hb
  have hn8 : n ≤ 8 := by
    unfold atMostE at ha
    split at ha <;> omega
  have hty : ∀ i, i < n → Bell.tyE (nameE (tqAt ts i).nm) (tqAt ts i).sh (tqAt ts i).T = 0 := fun i hi => (andE_zero (hz i hi)).1
  have hds : ∀ i, i < n → twB ts i = false := fun i hi => by
    have := (andE_zero (hz i hi)).2
    cases hb : twB ts i with
    | false => rfl
    | true => rw [hb] at this; simp at this
  refine ⟨⟨by rw [List.length_map]; exact h.1, fun hn => ?_⟩, fun i j hij hj e => ?_, hn8, ?_⟩
  · obtain ⟨b, o, rfl, hc⟩ := h.2 hn; refine ⟨b, o, rfl, fun i hi => ?_⟩; obtain ⟨h1, h2⟩ := tp_ok (hc i hi).2 (hty i hi); rw [tp_at]; exact ⟨fun j hj => by rw [h1]; exact (hc i hi).1 j hj, h2⟩
  · rw [tp_at, tp_at] at e; have := List.any_eq_false.1 (hds j hj) i (List.mem_range.2 hij); exact this (decide_eq_true e)
  · unfold kesTo kqTo; refine List.map_congr_left fun i hi => ?_
    have hi := List.mem_range.1 hi; rw [tp_at]; obtain ⟨b, o, _, hc⟩ := h.2 (by omega); rw [(tp_ok (hc i hi).2 (hty i hi)).1]
    rfl
theorem fls_known {ts : List Tq} {tn : Nat} {fs : List Fl} {fn : Nat} (hl : fs.length = fn) (h : flsE (kqTo ts tn) fs = 0) : fn ≤ 16 ∧ ∀ i, i < fn → tyIx ts tn (flAt fs i).ty < tn ∧ Bell.GoodTr (flAt fs i).tr := by
  obtain ⟨ha, hb⟩ := andE_zero h; have hz := firstR_zero hb; refine ⟨by unfold atMostE at ha; rw [hl] at ha; split at ha <;> omega, fun i hi => ?_⟩; have h4 := firstE4_z (hz i (by omega))
  have hk : knownB (kqTo ts tn) (flAt fs i).ty = true := by
    have := h4.2.2.1; unfold knownE at this
    split at this
    · assumption
    · omega
  rw [known_ix] at hk; exact ⟨of_decide_eq_true hk, goodTr_of h4.2.2.2⟩
theorem listed_of {w : World} {A : Option Addr} {tn : Nat} {ts : List Tq} {fs : List Fl} {fn : Nat} {r : Bell.Pl} (h : TqsAt w A tn ts) (h0 : namedE ts tn = 0) (hl : fs.length = fn) (hf : flsE (kqTo ts tn) fs = 0) (hr : placeE r.x r.y r.z = 0) :
    Listed (ts.map Tq.tp) tn fs fn r (exV ts tn fs r) := by
  obtain ⟨_, hd, hn8, hk⟩ := tps_of h h0; refine ⟨hd, hn8, by rw [hk]; exact hf, placeE_good hr, fun i hi => ?_⟩; have hlt := ((fls_known hl hf).2 i hi).1; exact ⟨_, hlt, by rw [tp_at]; exact tyIx_at hlt, by rw [tp_at]; rfl⟩
theorem exV_in {w : World} {A : Option Addr} {tn : Nat} {ts : List Tq} {fs : List Fl} {fn : Nat} {r : Bell.Pl} (h : TqsAt w A tn ts) (h0 : namedE ts tn = 0) (hl : fs.length = fn) (hf : flsE (kqTo ts tn) fs = 0) : ∀ i, i < fn → 0 ≤ exV ts tn fs r i ∧ exV ts tn fs r i ≤ 200000000000 := fun i hi => by
  obtain ⟨hlt, hg⟩ := (fls_known hl hf).2 i hi; obtain ⟨b, o, _, hc⟩ := h.2 (by omega); obtain ⟨qb, qo, gb, go, _, _, hk⟩ := TyAny.ok (hc _ hlt).2 (andE_zero (firstR_zero (andE_zero h0).2 _ hlt)).1; exact Bell.expo_range hk.good.ty hg r 0 100000000
noncomputable def totA (ts : List Tq) (tn : Nat) (fs : List Fl) (fn : Nat) (r : Bell.Pl) : Int := if exE ts tn fs r = 0 then totTo (exV ts tn fs r) fn else 0
noncomputable def parA (ts : List Tq) (tn : Nat) (fs : List Fl) (fn : Nat) (r : Bell.Pl) : List Int := if exE ts tn fs r = 0 then (List.range fn).map (exV ts tn fs r) else []
noncomputable def louE (ts : List Tq) (tn : Nat) (fs : List Fl) (fn : Nat) (r : Bell.Pl) : Int := if exE ts tn fs r = 0 then (if fn = 0 then 12 else 0) else exE ts tn fs r
noncomputable def louA (ts : List Tq) (tn : Nat) (fs : List Fl) (fn : Nat) (r : Bell.Pl) : ByteArray := if louE ts tn fs fn r = 0 then (flAt fs (bestTo (exV ts tn fs r) (fn - 1))).nm else ⟨#[]⟩
theorem exE_zero {ts : List Tq} {tn : Nat} {fs : List Fl} {r : Bell.Pl} (h : exE ts tn fs r = 0) : namedE ts tn = 0 ∧ flsE (kqTo ts tn) fs = 0 ∧ placeE r.x r.y r.z = 0 := by
  obtain ⟨h1, h2⟩ := andE_zero h; exact ⟨h1, (firstE2_zero h2).1, (firstE2_zero h2).2⟩
theorem Total_any (A : Option Addr) (tn tc : Nat) (ts : List Tq) (FA : Option Addr) (fn fc : Nat) (fs : List Fl) (r : Bell.Pl) (w : World) (hts : TqsAt w A tn ts) (hfs : FlsAt w FA fn fs) :
    Calls Tryz.prog 63 #[.slice A tn tc, .slice FA fn fc, .agg (plV r)] w fun e w' => e = .returned (.tuple #[.int .i64 (totA ts tn fs fn r), .int .i64 (exE ts tn fs r)]) ∧ Below w.heap.size w w' := by
  unfold totA
  by_cases hz : exE ts tn fs r = 0
  · obtain ⟨h1, h2, h3⟩ := exE_zero hz; rw [if_pos hz, hz]; exact Total_ok A tn tc _ FA fn fc fs r _ w (tps_of hts h1).1 hfs (listed_of hts h1 hfs.1 h2 h3) (fls_known hfs.1 h2).1 (fun i hi => by have := exV_in (r := r) hts h1 hfs.1 h2 i hi; omega)
  · rw [if_neg hz]; exact Total_err A tn tc ts FA fn fc fs r w hts hfs hz
set_option maxHeartbeats 1000000 in
set_option maxRecDepth 100000 in
theorem Parts_ok (A : Option Addr) (tn tc : Nat) (ts : List Tp) (FA : Option Addr) (fn fc : Nat) (fs : List Fl) (r : Bell.Pl) (V : Nat → Int) (w : World) (hts : TpsAt w A tn ts) (hfs : FlsAt w FA fn fs) (hL : Listed ts tn fs fn r V) (hfn : fn ≤ 16) :
    Calls Tryz.prog 66 #[.slice A tn tc, .slice FA fn fc, .agg (plV r)] w
      fun e w' => ∃ g, e = .returned (.tuple #[.slice (some ⟨g, 0, none⟩) fn fn, .int .i64 0]) ∧ (∀ i, i < fn → w'.cell? ⟨g, i, none⟩ = some (.int .i64 (V i))) ∧ Below w.heap.size w w' := by
  have HX := Lib.hid (fun W (hb : Below w.heap.size w W) => exposed_ok A tn tc ts FA fn fc fs r V W (hts.keep hb) (hfs.keep hb) hL); unfold plV at HX ⊢; clear hts hfs hL
  go_enter Tryz.func66, Tryz.ntmps66
  go_upto_region 1 with fail
  obtain ⟨w1, hw1⟩ : ∃ W, W = (w.alloc (.cells #[.int .i64 r.x, .int .i64 r.y, .int .i64 r.z] 28)) := ⟨_, rfl⟩; rw [← hw1]; have B5 : Hid (Blk w1 (w.heap.size) 28 #[.int .i64 r.x, .int .i64 r.y, .int .i64 r.z]) := by show Blk _ _ _ _; rw [hw1]; exact Blk.new _ _ _
  have hb1 : Below w.heap.size w w1 := by rw [hw1]; exact ((Below.refl _ _).alloc (Nat.le_refl _) _)
  obtain ⟨g5, hg5⟩ : ∃ g, g = w.heap.size := ⟨_, rfl⟩; have HGw1 : Hid (g5 = w.heap.size) := hg5; rw [← hg5] at B5
  try rw [← hg5]
  clear hw1 hg5; have HB : Hid (Below w.heap.size w w1) := hb1; have BB := B5.out; have zc0 := BB.cell 0; have zf0 := BB.frozen 0; have zc1 := BB.cell 1; have zf1 := BB.frozen 1; have zc2 := BB.cell 2; have zf2 := BB.frozen 2; simp only [List.getElem?_toArray, List.getElem?_cons_zero, List.getElem?_cons_succ] at zc0 zc1 zc2; clear BB; clear hb1
  go_wp2_with fail
  refine (HX.out w1 HB.out).mono ?_; rintro e w2 ⟨g, rfl, hlo, hb⟩; have HLO := Lib.hid hlo; replace HB := Lib.hid (HB.out.trans (hb.mono HB.out.size)); clear hb; clear hlo zc0 zc1 zc2 zf0 zf1 zf2 HX B5
  go_wp2_with fail
  refine (mapped_expos g fn fs V w2 HLO.out hfn).mono ?_; rintro e w3 ⟨rfl, hc, hb⟩; have HC := Lib.hid hc; replace HB := Lib.hid (HB.out.trans (hb.mono HB.out.size)); clear hb; clear hc; obtain ⟨gp, hgp⟩ : ∃ x, x = w2.heap.size := ⟨_, rfl⟩; rw [← hgp] at HC ⊢; clear hgp; go_wp2
  (try simp only [Exit.inBlock, Exit.then])
  refine bodyPost_ret (v := .tuple #[.slice (some ⟨gp, 0, none⟩) fn fn, .int .i64 0]) (by simp [results, Tryz.results66, go_sem, asAddr]) rfl ?_; exact ⟨gp, rfl, HC.out, HB.out⟩
theorem ints_of_cells {w : World} {g n : Nat} {V : Nat → Int} (h : ∀ i, i < n → w.cell? ⟨g, i, none⟩ = some (.int .i64 (V i))) : IntsAt w (some ⟨g, 0, none⟩) n ((List.range n).map V) := by
  refine ⟨by simp, fun _ => ⟨g, 0, rfl, fun i hi => ?_⟩⟩; rw [Nat.zero_add, h i hi]
  simp [List.getD_eq_getElem?_getD, List.getElem?_map, List.getElem?_range hi]
theorem Parts_any (A : Option Addr) (tn tc : Nat) (ts : List Tq) (FA : Option Addr) (fn fc : Nat) (fs : List Fl) (r : Bell.Pl) (w : World) (hts : TqsAt w A tn ts) (hfs : FlsAt w FA fn fs) :
    Calls Tryz.prog 66 #[.slice A tn tc, .slice FA fn fc, .agg (plV r)] w fun e w' => ∃ B m c, e = .returned (.tuple #[.slice B m c, .int .i64 (exE ts tn fs r)]) ∧ m ≤ 16 ∧ IntsAt w' B m (parA ts tn fs fn r) ∧ Below w.heap.size w w' := by
  unfold parA
  by_cases hz : exE ts tn fs r = 0
  · obtain ⟨h1, h2, h3⟩ := exE_zero hz; rw [if_pos hz, hz]; have hfn := (fls_known hfs.1 h2).1; refine (Parts_ok A tn tc _ FA fn fc fs r _ w (tps_of hts h1).1 hfs (listed_of hts h1 hfs.1 h2 h3) hfn).mono ?_; rintro e w' ⟨g, rfl, hc, hb⟩; exact ⟨_, _, _, rfl, hfn, ints_of_cells hc, hb⟩
  · rw [if_neg hz]; refine (Parts_err A tn tc ts FA fn fc fs r w hts hfs hz).mono ?_; rintro e w' ⟨rfl, hb⟩; exact ⟨none, 0, 0, rfl, by omega, ⟨rfl, fun h => absurd h (by omega)⟩, hb⟩
set_option maxHeartbeats 1000000 in
set_option maxRecDepth 100000 in
theorem Loudest_none (A : Option Addr) (tn tc : Nat) (ts : List Tp) (FA : Option Addr) (fc : Nat) (fs : List Fl) (r : Bell.Pl) (V : Nat → Int) (w : World) (hts : TpsAt w A tn ts) (hfs : FlsAt w FA 0 fs) (hL : Listed ts tn fs 0 r V) :
    Calls Tryz.prog 67 #[.slice A tn tc, .slice FA 0 fc, .agg (plV r)] w
      fun e w' => e = .returned (.tuple #[.string ⟨#[]⟩, .int .i64 12]) ∧ Below w.heap.size w w' := by
  have HX := Lib.hid (fun W (hb : Below w.heap.size w W) => exposed_ok A tn tc ts FA 0 fc fs r V W (hts.keep hb) (hfs.keep hb) hL); unfold plV at HX ⊢; clear hts hfs hL
  go_enter Tryz.func67, Tryz.ntmps67
  go_upto_region 1 with fail
  obtain ⟨w1, hw1⟩ : ∃ W, W = (w.alloc (.cells #[.int .i64 r.x, .int .i64 r.y, .int .i64 r.z] 28)) := ⟨_, rfl⟩; rw [← hw1]; have B5 : Hid (Blk w1 (w.heap.size) 28 #[.int .i64 r.x, .int .i64 r.y, .int .i64 r.z]) := by show Blk _ _ _ _; rw [hw1]; exact Blk.new _ _ _
  have hb1 : Below w.heap.size w w1 := by rw [hw1]; exact ((Below.refl _ _).alloc (Nat.le_refl _) _)
  obtain ⟨g5, hg5⟩ : ∃ g, g = w.heap.size := ⟨_, rfl⟩; have HGw1 : Hid (g5 = w.heap.size) := hg5; rw [← hg5] at B5
  try rw [← hg5]
  clear hw1 hg5; have HB : Hid (Below w.heap.size w w1) := hb1; have BB := B5.out; have zc0 := BB.cell 0; have zf0 := BB.frozen 0; have zc1 := BB.cell 1; have zf1 := BB.frozen 1; have zc2 := BB.cell 2; have zf2 := BB.frozen 2; simp only [List.getElem?_toArray, List.getElem?_cons_zero, List.getElem?_cons_succ] at zc0 zc1 zc2; clear BB; clear hb1
  go_wp2_with fail
  refine (HX.out w1 HB.out).mono ?_; rintro e w2 ⟨g, rfl, _, hb⟩; replace HB := Lib.hid (HB.out.trans (hb.mono HB.out.size)); clear hb; clear zc0 zc1 zc2 zf0 zf1 zf2 HX B5; go_wp2
  (try simp only [Exit.inBlock, Exit.then])
  refine bodyPost_ret (v := .tuple #[.string ⟨#[]⟩, .int .i64 12]) (by simp [results, Tryz.results67, go_sem, asAddr]) rfl ?_; exact ⟨rfl, HB.out⟩
theorem Loudest_any (A : Option Addr) (tn tc : Nat) (ts : List Tq) (FA : Option Addr) (fn fc : Nat) (fs : List Fl) (r : Bell.Pl) (w : World) (hts : TqsAt w A tn ts) (hfs : FlsAt w FA fn fs) :
    Calls Tryz.prog 67 #[.slice A tn tc, .slice FA fn fc, .agg (plV r)] w fun e w' => e = .returned (.tuple #[.string (louA ts tn fs fn r), .int .i64 (louE ts tn fs fn r)]) ∧ Below w.heap.size w w' := by
  by_cases hz : exE ts tn fs r = 0
  · obtain ⟨h1, h2, h3⟩ := exE_zero hz; have hl := listed_of hts h1 hfs.1 h2 h3; rcases Nat.eq_zero_or_pos fn with h | h
    · subst h; have e1 : louE ts tn fs 0 r = 12 := by unfold louE; rw [if_pos hz, if_pos rfl]
      have e2 : louA ts tn fs 0 r = ⟨#[]⟩ := by unfold louA; rw [e1, if_neg (by decide)]
      rw [e1, e2]; exact Loudest_none A tn tc _ FA fc fs r _ w (tps_of hts h1).1 hfs hl
    · have e1 : louE ts tn fs fn r = 0 := by unfold louE; rw [if_pos hz, if_neg (by omega)]
      have e2 : louA ts tn fs fn r = (flAt fs (bestTo (exV ts tn fs r) (fn - 1))).nm := by unfold louA; rw [e1, if_pos rfl]
      rw [e1, e2]; exact Loudest_ok A tn tc _ FA fn fc fs r _ w (tps_of hts h1).1 hfs hl h (fls_known hfs.1 h2).1
  · have e1 : louE ts tn fs fn r = exE ts tn fs r := by unfold louE; rw [if_neg hz]
    have e2 : louA ts tn fs fn r = ⟨#[]⟩ := by unfold louA; rw [e1, if_neg hz]
    rw [e1, e2]; exact Loudest_err A tn tc ts FA fn fc fs r w hts hfs hz
end Go.Proofs.YtmafmebcgmegeaaGreatDoor

namespace Go.Proofs.YtmafmebcgmegeaaGreatDoor
open Go.RowKit Go.Sort
theorem range_keep {w w' : World} {b o : Nat} {cs : List Value} (h : w.rangeAt b o cs) (hb : Below w.heap.size w w') : w'.rangeAt b o cs := fun j v hv => by
  have hc := h j v hv; rw [hb.cell (p := ⟨b, o + j, none⟩) (World.block_lt_of_cell? _ _ hc)]; exact hc
def RqsAt (w : World) (A : Option Addr) (n : Nat) (ts : List Tq) : Prop :=
  ts.length = n ∧ (0 < n → ∃ b o, A = some ⟨b, o, Option.none⟩ ∧ ∀ i, i < n → w.rangeAt b (o + i * 13) (tqAt ts i).cs.toList ∧ RTy w (tqAt ts i).cs (tqAt ts i).nm (tqAt ts i).sh (tqAt ts i).T (tqAt ts i).sa (tqAt ts i).sn (tqAt ts i).sc (tqAt ts i).qa (tqAt ts i).qn (tqAt ts i).qc (tqAt ts i).ga (tqAt ts i).gn (tqAt ts i).gc)
theorem RqsAt.keep {w w' : World} {A : Option Addr} {n : Nat} {ts : List Tq} (h : RqsAt w A n ts) (hb : Below w.heap.size w w') : RqsAt w' A n ts :=
  ⟨h.1, fun hn => by
    obtain ⟨b, o, e, hc⟩ := h.2 hn; exact ⟨b, o, e, fun i hi => ⟨range_keep (hc i hi).1 hb, (hc i hi).2.keep hb⟩⟩⟩
structure TqS (t : Tq) : Prop where
  d8 : t.T.direct.length = 8
  short : ShortT t.nm t.sn t.qn t.gn t.T.sets
theorem rq_lv {w : World} {b o : Nat} {t : Tq} (h : w.rangeAt b o t.cs.toList) : (loadVar 26 ⟨b, o, none⟩).run Tryz.prog w = .ok (.agg t.cs) w := by
  have := run_loadVar_mid (P := Tryz.prog) w b o 26 t.cs.toList _ h Tryz.underlying26 rfl (by kernel_rfl)
  rwa [Array.toArray_toList] at this
theorem rq_nm {w : World} {b o : Nat} {t : Tq} (h : w.rangeAt b o t.cs.toList) : w.cell? ⟨b, o, none⟩ = some (.string t.nm) := by
  have := h 0 (.string t.nm) (by simp [Tq.cs, tyV])
  rwa [Nat.add_zero] at this
theorem list_ne {x s : ByteArray} (h : x ≠ s) : (x.toList == s.toList) = false := by
  rw [beq_eq_false_iff_ne, ByteArray.toList_eq, ByteArray.toList_eq]; intro e; exact h (ByteArray.ext (Array.toList_inj.1 e))
def fixI (ns : Nat → ByteArray) (k : Nat) (s : ByteArray) : Int := match (List.range k).find? (fun i => decide (ns i = s)) with
  | some i => (i : Int)
  | none => -1
theorem fixI_hit {ns : Nat → ByteArray} {k j : Nat} {s : ByteArray} (hj : j < k) (h : ∀ i, i < j → ns i ≠ s) (hs : ns j = s) : fixI ns k s = j := by
  have e : (List.range k).find? (fun i => decide (ns i = s)) = some j := by
    rw [List.find?_eq_some_iff_getElem]; refine ⟨by simpa using hs, j, by simpa using hj, by simp, fun i hi => ?_⟩; simp only [List.getElem_range]
    simpa using h i hi
  unfold fixI; rw [e]
theorem fixI_miss {ns : Nat → ByteArray} {k : Nat} {s : ByteArray} (h : ∀ i, i < k → ns i ≠ s) : fixI ns k s = -1 := by
  have e : (List.range k).find? (fun i => decide (ns i = s)) = none := by
    rw [List.find?_eq_none]; intro i hi
    simpa using h i (List.mem_range.1 hi)
  unfold fixI; rw [e]
set_option maxHeartbeats 1000000 in
set_option maxRecDepth 100000 in
theorem refFindType_any (A : Option Addr) (n c : Nat) (ns : Nat → ByteArray) (s : ByteArray) (w : World) (h : 0 < n → ∃ b o, A = some ⟨b, o, none⟩ ∧ ∀ i, i < n → w.cell? ⟨b, o + i * 13, none⟩ = some (.string (ns i))) (hn : n ≤ 1000000) :
    Calls Tryz.prog 144 #[.slice A n c, .string s] w fun e w' => e = .returned (.int .i64 (fixI ns n s)) ∧ w' = w := by
  have H := Lib.hid h; obtain ⟨V, hV⟩ : ∃ V, V = fixI ns n s := ⟨_, rfl⟩; have HV := Lib.hid hV; rw [← hV]; clear h hV
  go_enter Tryz.func144, Tryz.ntmps144
  go_wp2
  go_loopw [5] (fun k wr => ∃ j : Nat, j ≤ n ∧ k = .int .i64 j ∧ Hid (∀ i, i < j → ns i ≠ s) ∧ wr = w) (fun k _ => n - (intOf k).toNat)
  case atStart => exact ⟨0, Nat.zero_le _, rfl, (fun i hi => by omega), rfl⟩
  case round =>
    obtain ⟨j, hj, rfl, hz, hw⟩ := hrel; obtain rfl := hw.symm
    by_cases hlt : j < n
    · obtain ⟨b, o, rfl, hc⟩ := H.out (by omega); have c0 := hc j hlt; obtain ⟨x, hx⟩ : ∃ x, x = ns j := ⟨_, rfl⟩; have HXJ := Lib.hid hx; rw [← hx] at c0; have pj : (j : Int) < (n : Int) := by omega
      have vj : IntKind.i64.wrap ((j : Int) + 1) = ((j + 1 : Nat) : Int) := by rw [IntWalk.i64_in _ (by omega)]; omega
      clear hc hx
      by_cases he : x = s
      · have hv : Hid (V = (j : Int)) := by show _ = _; rw [HV.out]; exact fixI_hit hlt hz.out (HXJ.out.symm.trans he)
        subst he; go_wp2; go_ret; exact ⟨ret_int hv.out.symm, rfl⟩
      · have hq : Hid (∀ i, i < j + 1 → ns i ≠ s) := fun i hi => by
          rcases Nat.lt_or_ge i j with h | h
          · exact hz.out i h
          · obtain rfl : i = j := by omega
            rw [← HXJ.out]; exact he
        have hb1 : (x.toList == s.toList) = false := list_ne he; clear he; go_wp2; go_roundw
        case rel => exact ⟨j + 1, by omega, by go_num, hq, trivial⟩
        case measure => simp [intOf]; omega
    · have hv : Hid (V = -1) := by show _ = _; rw [HV.out]; exact fixI_miss fun i hi => hz.out i (by omega)
      go_wp2
      go_ret
      exact ⟨ret_int hv.out.symm, rfl⟩
set_option maxHeartbeats 1000000 in
set_option maxRecDepth 100000 in
theorem refFindFlight_any (A : Option Addr) (n c : Nat) (ns : Nat → ByteArray) (s : ByteArray) (w : World) (h : 0 < n → ∃ b o, A = some ⟨b, o, none⟩ ∧ ∀ i, i < n → w.cell? ⟨b, o + i * 3, none⟩ = some (.string (ns i))) (hn : n ≤ 1000000) :
    Calls Tryz.prog 83 #[.slice A n c, .string s] w fun e w' => e = .returned (.int .i64 (fixI ns n s)) ∧ w' = w := by
  have H := Lib.hid h; obtain ⟨V, hV⟩ : ∃ V, V = fixI ns n s := ⟨_, rfl⟩; have HV := Lib.hid hV; rw [← hV]; clear h hV
  go_enter Tryz.func83, Tryz.ntmps83
  go_wp2
  go_loopw [5] (fun k wr => ∃ j : Nat, j ≤ n ∧ k = .int .i64 j ∧ Hid (∀ i, i < j → ns i ≠ s) ∧ wr = w) (fun k _ => n - (intOf k).toNat)
  case atStart => exact ⟨0, Nat.zero_le _, rfl, (fun i hi => by omega), rfl⟩
  case round =>
    obtain ⟨j, hj, rfl, hz, hw⟩ := hrel; obtain rfl := hw.symm
    by_cases hlt : j < n
    · obtain ⟨b, o, rfl, hc⟩ := H.out (by omega); have c0 := hc j hlt; obtain ⟨x, hx⟩ : ∃ x, x = ns j := ⟨_, rfl⟩; have HXJ := Lib.hid hx; rw [← hx] at c0; have pj : (j : Int) < (n : Int) := by omega
      have vj : IntKind.i64.wrap ((j : Int) + 1) = ((j + 1 : Nat) : Int) := by rw [IntWalk.i64_in _ (by omega)]; omega
      clear hc hx
      by_cases he : x = s
      · have hv : Hid (V = (j : Int)) := by show _ = _; rw [HV.out]; exact fixI_hit hlt hz.out (HXJ.out.symm.trans he)
        subst he; go_wp2; go_ret; exact ⟨ret_int hv.out.symm, rfl⟩
      · have hq : Hid (∀ i, i < j + 1 → ns i ≠ s) := fun i hi => by
          rcases Nat.lt_or_ge i j with h | h
          · exact hz.out i h
          · obtain rfl : i = j := by omega
            rw [← HXJ.out]; exact he
        have hb1 : (x.toList == s.toList) = false := list_ne he; clear he; go_wp2; go_roundw
        case rel => exact ⟨j + 1, by omega, by go_num, hq, trivial⟩
        case measure => simp [intOf]; omega
    · have hv : Hid (V = -1) := by show _ = _; rw [HV.out]; exact fixI_miss fun i hi => hz.out i (by omega)
      go_wp2
      go_ret
      exact ⟨ret_int hv.out.symm, rfl⟩
end Go.Proofs.YtmafmebcgmegeaaGreatDoor

namespace Go.Proofs.YtmafmebcgmegeaaGreatDoor
open Go.RowKit Go.Sort
theorem firstE4_and (a b c d : Int) : firstE [a, b, c, d] = andE (firstE [a, b, c]) d := by
  unfold andE
  by_cases h1 : a = 0 <;> by_cases h2 : b = 0 <;> by_cases h3 : c = 0 <;> by_cases h4 : d = 0 <;> simp_all [firstE]
theorem length_first {n : Nat} {k a b : Int} (ha : a = if decide ((n : Int) < 2) then 16 else 0) (hb : b = if decide (k < (n : Int)) then 5 else 0) : firstE [a, b] = lengthE n k := by
  unfold lengthE atMostE
  by_cases h1 : n < 2
  · rw [if_pos h1]; have : a = 16 := by rw [ha, if_pos (by simpa using (by omega : (n : Int) < 2))]
    rw [this]; rfl
  · rw [if_neg h1]; have : a = 0 := by rw [ha, if_neg (by simp; omega)]
    rw [this, hb]
    by_cases h2 : k < (n : Int)
    · rw [if_pos (by simpa using h2), if_pos h2]; rfl
    · rw [if_neg (by simpa using h2), if_neg h2]; rfl
end Go.Proofs.YtmafmebcgmegeaaGreatDoor
