/- Texts Wl Wm Wc Qp Iv Qc of the proof. -/
import Derived.Test.YtmafmebcgmegeaaGreatDoorFz30
import Derived.Test.YtmafmebcgmegeaaGreatDoorFz14
import Derived.Test.YtmafmebcgmegeaaGreatDoorFz23
import Derived.Test.YtmafmebcgmegeaaGreatDoorFz33
import Derived.ArgAppend
import Derived.Test.YtmafmebcgmegeaaGreatDoorFz12
import Derived.Test.YtmafmebcgmegeaaGreatDoorFz16
import Derived.Test.YtmafmebcgmegeaaGreatDoorFz10
namespace Go.Proofs.YtmafmebcgmegeaaGreatDoor
open Go.RowKit Go.Sort
theorem turn_stop {k : Nat} {u v : Int} {n : Nat} (h : u > 0 ∧ v ≥ 0) : Bell.turnR (k + 1) u v n = (u, v, n) := by
  rw [Bell.turnR, if_pos h]
theorem turn_go {k : Nat} {u v : Int} {n : Nat} (h : ¬ (u > 0 ∧ v ≥ 0)) : Bell.turnR (k + 1) u v n = Bell.turnR k v (-u) (n + 2) := by
  rw [Bell.turnR, if_neg h]
theorem sector_end {u v p q : Int} {n : Nat} (h0 : ¬ (u = 0 ∧ v = 0)) (h : Bell.turnR 4 u v 0 = (p, q, n)) : (p ≤ q → Bell.secOf u v = n + 1) ∧ (¬ p ≤ q → Bell.secOf u v = n) := by
  rw [← Bell.sectorR_is]; unfold Bell.sectorR; rw [if_neg h0, h]; exact ⟨fun k => if_pos k, fun k => if_neg k⟩
set_option maxHeartbeats 4000000 in
set_option maxRecDepth 100000 in
theorem refSector_any (hx hy x y : Int) (w : World) (h1 : -1000000 ≤ hx ∧ hx ≤ 1000000) (h2 : -1000000 ≤ hy ∧ hy ≤ 1000000) (h3 : -1000000 ≤ x ∧ x ≤ 1000000) (h4 : -1000000 ≤ y ∧ y ≤ 1000000) :
    Calls Tryz.prog 29 #[.agg #[.int .i64 hx, .int .i64 hy], .agg #[.int .i64 x, .int .i64 y]] w fun e w' => e = .returned (.int .i64 (Bell.sectorOf hx hy x y : Nat)) ∧ Below w.heap.size w w' := by
  obtain ⟨a1, a2⟩ := mul_in h1.1 h1.2 h3.1 h3.2; obtain ⟨b1, b2⟩ := mul_in h2.1 h2.2 h4.1 h4.2; obtain ⟨c1, c2⟩ := mul_in h1.1 h1.2 h4.1 h4.2; obtain ⟨d1, d2⟩ := mul_in h2.1 h2.2 h3.1 h3.2; rw [Bell.sector_is]; obtain ⟨m1, hm1⟩ : ∃ m, m = hx * x := ⟨_, rfl⟩; obtain ⟨m2, hm2⟩ : ∃ m, m = hy * y := ⟨_, rfl⟩; obtain ⟨m3, hm3⟩ : ∃ m, m = hx * y := ⟨_, rfl⟩; obtain ⟨m4, hm4⟩ : ∃ m, m = hy * x := ⟨_, rfl⟩; rw [← hm1] at a1 a2; rw [← hm2] at b1 b2; rw [← hm3] at c1 c2; rw [← hm4] at d1 d2; rw [← hm1, ← hm2, ← hm3, ← hm4]; obtain ⟨u, hu⟩ : ∃ u, u = m1 + m2 := ⟨_, rfl⟩; obtain ⟨v, hv⟩ : ∃ v, v = m3 - m4 := ⟨_, rfl⟩; have u1 : -2000000000000 ≤ u ∧ u ≤ 2000000000000 := by omega
  have v1 : -2000000000000 ≤ v ∧ v ≤ 2000000000000 := by omega
  have w1 : IntKind.i64.wrap (hx * x) = m1 := by rw [hm1]; exact IntWalk.i64_in _ (by omega)
  have w2 : IntKind.i64.wrap (hy * y) = m2 := by rw [hm2]; exact IntWalk.i64_in _ (by omega)
  have w3 : IntKind.i64.wrap (hx * y) = m3 := by rw [hm3]; exact IntWalk.i64_in _ (by omega)
  have w4 : IntKind.i64.wrap (hy * x) = m4 := by rw [hm4]; exact IntWalk.i64_in _ (by omega)
  have w5 : IntKind.i64.wrap (m1 + m2) = u := by rw [hu]; exact IntWalk.i64_in _ (by omega)
  have w6 : IntKind.i64.wrap (m3 - m4) = v := by rw [hv]; exact IntWalk.i64_in _ (by omega)
  rw [← hu, ← hv]; obtain ⟨S, hS⟩ : ∃ S, S = Bell.secOf u v := ⟨_, rfl⟩; rw [← hS]; have HS := Lib.hid hS; have HU := Lib.hid u1; have HV := Lib.hid v1; clear hS h1 h2 h3 h4 a1 a2 b1 b2 c1 c2 d1 d2 hm1 hm2 hm3 hm4 hu hv u1 v1
  go_enter Tryz.func29, Tryz.ntmps29
  go_upto_region 1 with fail
  obtain ⟨wn, hwn⟩ : ∃ W, W = ((w.alloc (.cells #[.int .i64 hx, .int .i64 hy] 30)).alloc (.cells #[.int .i64 x, .int .i64 y] 30)) := ⟨_, rfl⟩; rw [← hwn]; have B2 : Hid (Blk wn (w.heap.size) 30 #[.int .i64 hx, .int .i64 hy]) := by show Blk _ _ _ _; rw [hwn]; exact (Blk.new _ _ _).alloc _
  have B3 : Hid (Blk wn (w.heap.size + 1) 30 #[.int .i64 x, .int .i64 y]) := by show Blk _ _ _ _; rw [hwn]; exact Blk.at_size _ _ (by simp)
  have hb1 : Below w.heap.size w wn := by rw [hwn]; exact (((Below.refl _ _).alloc (Nat.le_refl _) _).alloc (by simp) _)
  obtain ⟨g2, hg2⟩ : ∃ g, g = w.heap.size := ⟨_, rfl⟩; obtain ⟨g3, hg3⟩ : ∃ g, g = w.heap.size + 1 := ⟨_, rfl⟩; have HGwn : Hid (g2 = w.heap.size ∧ g3 = w.heap.size + 1) := ⟨hg2, hg3⟩; rw [← hg3] at B3
  try rw [← hg3]
  rw [← hg2] at B2
  try rw [← hg2]
  clear hwn hg2 hg3; have HB : Hid (Below w.heap.size w wn) := hb1; clear hb1; have AA := B2.out; have BB := B3.out; have ac0 := AA.cell 0; have af0 := AA.frozen 0; have ac1 := AA.cell 1; have af1 := AA.frozen 1; simp only [List.getElem?_toArray, List.getElem?_cons_zero, List.getElem?_cons_succ] at ac0 ac1; clear AA; have bc0 := BB.cell 0; have bf0 := BB.frozen 0; have bc1 := BB.cell 1; have bf1 := BB.frozen 1; simp only [List.getElem?_toArray, List.getElem?_cons_zero, List.getElem?_cons_succ] at bc0 bc1; clear BB
  go_upto_region 1 with fail
  go_big_quiet (fail)
  clear w1 w2 w3 w4 w5 w6; obtain ⟨w9, hw9⟩ : ∃ W, W = wn.drewN nq := ⟨_, rfl⟩; rw [← hw9]; have hb9 : Below wn.heap.size wn w9 := by rw [hw9]; exact below_drewN' (Below.refl _ _) _
  replace HB := Lib.hid (HB.out.trans (hb9.mono HB.out.size)); clear hb9; clear hw9 B2 B3
  by_cases hz : u = 0 ∧ v = 0
  · obtain ⟨rfl, rfl⟩ := hz; have hs : S = 0 := by rw [HS.out]; rfl
    subst hs; go_wp2; go_ret; exact ⟨rfl, HB.out⟩
  have HN := Lib.hid hz
  by_cases hu0 : u = 0
  case pos =>
    have hv0 : ¬ v = 0 := fun h => hz ⟨hu0, h⟩
    clear hz; subst hu0; go_wp2
    go_loopw [5, 6, 7, 8] (fun a b n i wr => ∃ (p q : Int) (k : Nat), k ≤ 4 ∧ a = .int .i64 p ∧ b = .int .i64 q ∧ n = .int .i64 ((2 * k : Nat) : Int) ∧ i = .int .i64 k ∧ Hid ((-2000000000000 ≤ p ∧ p ≤ 2000000000000) ∧ (-2000000000000 ≤ q ∧ q ≤ 2000000000000) ∧ Bell.turnR 4 0 v 0 = Bell.turnR (4 - k) p q (2 * k)) ∧ wr = w9) (fun _ _ _ i _ => 4 - (intOf i).toNat)
    case atStart => exact ⟨0, v, 0, by omega, rfl, rfl, rfl, rfl, ⟨HU.out, HV.out, rfl⟩, rfl⟩
    case round =>
      obtain ⟨p, q, k, hk, rfl, rfl, rfl, rfl, hr, rfl⟩ := hrel; obtain ⟨⟨p1, p2⟩, ⟨q1, q2⟩, ht⟩ := hr.out; clear hr
      by_cases hlt : k < 4
      · have hkk : 4 - k = (4 - (k + 1)) + 1 := by omega
        by_cases hst : p > 0 ∧ q ≥ 0
        · rw [hkk, turn_stop hst] at ht; have he := sector_end (fun h => hv0 h.2) ht; rw [← HS.out] at he; have HE := Lib.hid he; clear ht he hkk; obtain ⟨s1, s2⟩ := hst
          by_cases hpq : p ≤ q
          · obtain rfl := HE.out.1 hpq; clear HE HS; go_wp2; go_ret; exact ⟨ret_int (by omega), HB.out⟩
          · obtain rfl := HE.out.2 hpq; clear HE HS; go_wp2; go_ret; exact ⟨rfl, HB.out⟩
        · rw [hkk, turn_go hst] at ht; have HT := Lib.hid ht; clear ht hkk
          by_cases hp0 : p > 0
          · have hq0 : ¬ q ≥ 0 := fun h => hst ⟨hp0, h⟩
            clear hst; go_wp2; go_roundw
            case rel => exact ⟨q, -p, k + 1, by omega, by go_num, by go_num, by go_num, by go_num, ⟨⟨q1, q2⟩, ⟨by omega, by omega⟩, HT.out⟩, by first | rfl | trivial⟩
            case measure => simp [intOf]; omega
          · clear hst; go_wp2; go_roundw
            case rel => exact ⟨q, -p, k + 1, by omega, by go_num, by go_num, by go_num, by go_num, ⟨⟨q1, q2⟩, ⟨by omega, by omega⟩, HT.out⟩, by first | rfl | trivial⟩
            case measure => simp [intOf]; omega
      · obtain rfl : k = 4 := by omega
        have he := sector_end (fun h => hv0 h.2) ht; rw [← HS.out] at he; have HE := Lib.hid he; clear ht he
        by_cases hpq : p ≤ q
        · obtain rfl := HE.out.1 hpq; clear HE HS; go_wp2; go_ret; exact ⟨ret_int (by omega), HB.out⟩
        · obtain rfl := HE.out.2 hpq; clear HE HS; go_wp2; go_ret; exact ⟨rfl, HB.out⟩
  clear hz; go_wp2
  go_loopw [5, 6, 7, 8] (fun a b n i wr => ∃ (p q : Int) (k : Nat), k ≤ 4 ∧ a = .int .i64 p ∧ b = .int .i64 q ∧ n = .int .i64 ((2 * k : Nat) : Int) ∧ i = .int .i64 k ∧ Hid ((-2000000000000 ≤ p ∧ p ≤ 2000000000000) ∧ (-2000000000000 ≤ q ∧ q ≤ 2000000000000) ∧ Bell.turnR 4 u v 0 = Bell.turnR (4 - k) p q (2 * k)) ∧ wr = w9) (fun _ _ _ i _ => 4 - (intOf i).toNat)
  case atStart => exact ⟨u, v, 0, by omega, rfl, rfl, rfl, rfl, ⟨HU.out, HV.out, rfl⟩, rfl⟩
  case round =>
    obtain ⟨p, q, k, hk, rfl, rfl, rfl, rfl, hr, rfl⟩ := hrel; obtain ⟨⟨p1, p2⟩, ⟨q1, q2⟩, ht⟩ := hr.out; clear hr
    by_cases hlt : k < 4
    · have hkk : 4 - k = (4 - (k + 1)) + 1 := by omega
      by_cases hst : p > 0 ∧ q ≥ 0
      · rw [hkk, turn_stop hst] at ht; have he := sector_end (fun h => hu0 h.1) ht; rw [← HS.out] at he; have HE := Lib.hid he; clear ht he hkk; obtain ⟨s1, s2⟩ := hst
        by_cases hpq : p ≤ q
        · obtain rfl := HE.out.1 hpq; clear HE HS; go_wp2; go_ret; exact ⟨ret_int (by omega), HB.out⟩
        · obtain rfl := HE.out.2 hpq; clear HE HS; go_wp2; go_ret; exact ⟨rfl, HB.out⟩
      · rw [hkk, turn_go hst] at ht; have HT := Lib.hid ht; clear ht hkk
        by_cases hp0 : p > 0
        · have hq0 : ¬ q ≥ 0 := fun h => hst ⟨hp0, h⟩
          clear hst; go_wp2; go_roundw
          case rel => exact ⟨q, -p, k + 1, by omega, by go_num, by go_num, by go_num, by go_num, ⟨⟨q1, q2⟩, ⟨by omega, by omega⟩, HT.out⟩, by first | rfl | trivial⟩
          case measure => simp [intOf]; omega
        · clear hst; go_wp2; go_roundw
          case rel => exact ⟨q, -p, k + 1, by omega, by go_num, by go_num, by go_num, by go_num, ⟨⟨q1, q2⟩, ⟨by omega, by omega⟩, HT.out⟩, by first | rfl | trivial⟩
          case measure => simp [intOf]; omega
    · obtain rfl : k = 4 := by omega
      have he := sector_end (fun h => hu0 h.1) ht; rw [← HS.out] at he; have HE := Lib.hid he; clear ht he
      by_cases hpq : p ≤ q
      · obtain rfl := HE.out.1 hpq; clear HE HS; go_wp2; go_ret; exact ⟨ret_int (by omega), HB.out⟩
      · obtain rfl := HE.out.2 hpq; clear HE HS; go_wp2; go_ret; exact ⟨rfl, HB.out⟩
end Go.Proofs.YtmafmebcgmegeaaGreatDoor

namespace Go.Proofs.YtmafmebcgmegeaaGreatDoor
open Go.RowKit Go.Sort
theorem quo_facts {x d : Int} (hd : 1 ≤ d) : (x.tdiv d).natAbs ≤ x.natAbs ∧ (x.tmod d).natAbs < d.natAbs ∧ x.tmod d + x.tdiv d * d = x := by
  refine ⟨by rw [Int.natAbs_tdiv]; exact Nat.div_le_self _ _, ?_, ?_⟩
  · rw [Int.natAbs_tmod]; exact Nat.mod_lt _ (by omega)
  · rw [Int.mul_comm]; exact Int.tmod_add_mul_tdiv x d
set_option maxHeartbeats 400000 in
set_option maxRecDepth 100000 in
theorem refFloor_gen (x d : Int) (w : World) (hx : -100000000000000000 ≤ x ∧ x ≤ 100000000000000000) (hd : 1 ≤ d ∧ d ≤ 10000000) :
    Calls Tryz.prog 170 #[.int .i64 x, .int .i64 d] w fun e w' => e = .returned (.int .i64 (x / d)) ∧ w' = w := by
  obtain ⟨f1, f2, f3⟩ := quo_facts (x := x) hd.1; have hf := Bell.floorR_is (n := x) (d := d) (by omega); obtain ⟨q, hq⟩ : ∃ q, x.tdiv d = q := ⟨_, rfl⟩; obtain ⟨r, hr⟩ : ∃ r, x.tmod d = r := ⟨_, rfl⟩; rw [hq] at f1 f3 hf; rw [hr] at f2 f3; obtain ⟨m, hm⟩ : ∃ m, q * d = m := ⟨_, rfl⟩; rw [hm] at f3 hf; have HF := Lib.hid hf; have hd0 : ¬ d = 0 := by omega
  have w1 : IntKind.i64.wrap q = q := IntWalk.i64_in _ (by omega); have w2 : IntKind.i64.wrap m = m := IntWalk.i64_in _ (by omega); have w3 : IntKind.i64.wrap (q - 1) = q - 1 := IntWalk.i64_in _ (by omega); have HQ := Lib.hid hq
  by_cases h : x < m
  · have HH := Lib.hid h; clear f1 f2 f3 hf hr
    go_enter Tryz.func170, Tryz.ntmps170
    go_wp2
    go_ret
    have h9 := HF.out; rw [if_pos HH.out] at h9; exact ⟨ret_int h9, rfl⟩
  · have HH := Lib.hid h; clear f1 f2 f3 hf hr
    go_enter Tryz.func170, Tryz.ntmps170
    go_wp2
    go_ret
    have h9 := HF.out; rw [if_neg (Int.not_lt.2 HH.out)] at h9; exact ⟨ret_int h9, rfl⟩
end Go.Proofs.YtmafmebcgmegeaaGreatDoor

namespace Go.Proofs.YtmafmebcgmegeaaGreatDoor
open Go.RowKit Go.Sort
def GR.ints (B : Nat) (zs : List Int) : GR := ⟨fun v W => OwnI W B v zs, fun h hE => h.below hE⟩
def GR.bare : GR := ⟨fun v _ => ∃ g, v = .slice (some ⟨g, 0, none⟩) 0 0, fun h _ => h⟩
def tyW (nm : ByteArray) (va : Value) (T : Bell.Ty) (vq vs : Value) : Array Value := #[.string nm, va, .int .i64 (T.direct.getD 0 0), .int .i64 (T.direct.getD 1 0), .int .i64 (T.direct.getD 2 0), .int .i64 (T.direct.getD 3 0), .int .i64 (T.direct.getD 4 0), .int .i64 (T.direct.getD 5 0), .int .i64 (T.direct.getD 6 0), .int .i64 (T.direct.getD 7 0), .int .i64 T.side, vq, vs]
def GR.ty (B : Nat) (nm : ByteArray) (sh : List Int) (T : Bell.Ty) : GR :=
  ⟨fun v W => ∃ va vq, v = .agg (tyW nm va T vq (.slice none 0 0)) ∧ OwnI W B va sh ∧ OwnI W B vq T.squares, fun ⟨va, vq, e, h1, h2⟩ hE => ⟨va, vq, e, h1.below hE, h2.below hE⟩⟩
def GR.set (B : Nat) (p : Int) (zs : List Int) : GR := ⟨fun v W => ∃ A m c, v = .agg #[.int .i64 p, .slice A m c] ∧ OwnI W B (.slice A m c) zs, fun ⟨A, m, c, e, h⟩ hE => ⟨A, m, c, e, h.below hE⟩⟩
def GR.one (B : Nat) (p : Int) (zs : List Int) : GR := ⟨fun v W => ∃ g A m c, v = .slice (some ⟨g, 0, none⟩) 1 1 ∧ Blk W g 172 #[.int .i64 p, .slice A m c] ∧ OwnI W B (.slice A m c) zs, fun ⟨g, A, m, c, e, h1, h2⟩ hE => ⟨g, A, m, c, e, h1.below hE, h2.below hE⟩⟩
theorem IntsAt.cellsAt {w : World} {g o n : Nat} {zs : List Int} (h : IntsAt w (some ⟨g, o, none⟩) n zs) : ∀ j u, (zs.map (Value.int .i64))[j]? = some u → w.cell? ((⟨g, o, none⟩ : Addr).add j) = some u := fun j u hu => by
  have hj : j < n := by
    have := (List.getElem?_eq_some_iff.1 hu).1; rw [List.length_map, h.1] at this; exact this
  obtain ⟨b, off, he, hh⟩ := h.2 (by omega)
  cases he
  rw [addAddr, hh j hj, ← hu]
  simp [List.getD_eq_getElem?_getD, List.getElem?_eq_getElem (show j < zs.length by rw [h.1]; exact hj)]
def stCells (P : List (Int × Value)) : List Value := P.flatMap fun p => [.int .i64 p.1, p.2]
theorem stCells_len (P : List (Int × Value)) : (stCells P).length = P.length * 2 := by
  induction P with
  | nil => rfl
  | cons p l ih => simp only [stCells, List.flatMap_cons, List.length_append, List.length_cons, List.length_nil] at *; omega
theorem stCells_snoc (P : List (Int × Value)) (p : Int × Value) : stCells (P ++ [p]) = stCells P ++ [.int .i64 p.1, p.2] := by simp [stCells]
theorem stCells_at (P : List (Int × Value)) (i : Nat) (hi : i < P.length) : (stCells P)[i * 2]? = some (.int .i64 (P.getD i (0, undef)).1) ∧ (stCells P)[i * 2 + 1]? = some (P.getD i (0, undef)).2 := by
  induction P generalizing i with
  | nil => simp at hi
  | cons p l ih =>
    cases i with
    | zero => exact ⟨rfl, rfl⟩
    | succ i =>
      have := ih i (by simpa using hi); have e : stCells (p :: l) = Value.int .i64 p.1 :: p.2 :: stCells l := rfl; rw [e, show (i + 1) * 2 = i * 2 + 1 + 1 by omega]
      simpa using this
theorem infoSet : (Tryz.prog.info? 172).map (fun i => (i.zero, i.size, i.bytes)) = some (some (.agg #[.int .i64 0, .slice none 0 0]), 2, 32) := by kernel_rfl
theorem row_ext {W W' : World} {base : Nat} {e : TypeId} {size n : Nat} {v : Value} {xs : List Value} (h : W.ownsRow base e size v n xs) (hE : Ext W W') : W'.ownsRow base e size v n xs := by
  refine World.ownsRow.kept h (row := none) ⟨hE.os, hE.tape, hE.output, hE.size, fun k hk _ => hE.block k hk⟩ ?_
  cases hv : v.ownBlock with
  | none => exact .inl rfl
  | some b => exact .inr (by simp)
theorem row_type {W : World} {base : Nat} {e : TypeId} {size n : Nat} {v : Value} {xs : List Value} (h : W.ownsRow base e size v n xs) {b : Nat} (hb : some b = v.ownBlock) : ∃ cur, W.heap[b]? = some (.cells cur e (0, 0)) := by
  rcases h.2 with ⟨rfl, _⟩ | ⟨g, cap, cur, rfl, _, h2, _⟩
  · simp [Value.ownBlock] at hb
  · obtain rfl : b = g := by simpa [Value.ownBlock] using hb
    exact ⟨cur, h2⟩
theorem row_blk {W W' : World} {base : Nat} {e : TypeId} {size n : Nat} {v : Value} {xs : List Value} (h : W.ownsRow base e size v n xs) (hg : W.grownBy W' v.ownBlock) {b : Nat} {t : TypeId} {cs : Array Value} (hb : Blk W b t cs) (ht : t ≠ e) : Blk W' b t cs := by
  refine (hg.block b (lt_of_block hb) (fun ej => ?_)).trans hb; obtain ⟨cur, h2⟩ := row_type h ej; have := (show W.heap[b]? = _ from hb).symm.trans h2; simp only [Option.some.injEq, Obj.cells.injEq] at this; exact ht this.2.1
theorem row_row {W W' : World} {base base' : Nat} {e t : TypeId} {size size' n m : Nat} {v u : Value} {xs ys : List Value} (h : W.ownsRow base e size v n xs) (hg : W.grownBy W' v.ownBlock) (ho : W.ownsRow base' t size' u m ys) (ht : t ≠ e) : W'.ownsRow base' t size' u m ys := by
  refine World.ownsRow.kept ho hg ?_
  cases hu : u.ownBlock with
  | none => exact .inl rfl
  | some b =>
    refine .inr fun ej => ?_
    obtain ⟨cur, h2⟩ := row_type h ej; obtain ⟨cur', h3⟩ := row_type ho hu.symm; have := h3.symm.trans h2; simp only [Option.some.injEq, Obj.cells.injEq] at this; exact ht this.2.1
theorem row_cell {W : World} {base : Nat} {t e : TypeId} {size n : Nat} {v : Value} {xs : List Value} (h : W.ownsRow base t size v n xs) {b : Nat} {cs : Array Value} (hb : Blk W b e cs) (ht : t ≠ e) (i : Nat) (u : Value) : (W.setCell ⟨b, i, none⟩ u).ownsRow base t size v n xs := by
  rcases h with ⟨h1, h2 | ⟨g, cap, cur, hv, hg, hc, r⟩⟩
  · exact ⟨h1, .inl h2⟩
  · refine ⟨h1, .inr ⟨g, cap, cur, hv, hg, ?_, r⟩⟩
    have hne : g ≠ b := fun e => by
      subst e; have := hc.symm.trans hb; simp only [Option.some.injEq, Obj.cells.injEq] at this; exact ht this.2.1
    exact (Below.heap_setCell W ⟨b, i, none⟩ u g hne).trans hc
theorem _root_.Go.RowKit.Below.ext {A B C : World} (h : Below A.heap.size A B) (k : Ext B C) : Ext A C := Ext.trans h k
theorem row_in_row {W : World} {base : Nat} {t e : TypeId} {size n : Nat} {v : Value} {xs : List Value} (h : W.ownsRow base t size v n xs) {b : Nat} {cs : Array Value} (hb : Blk W b e cs) (ht : t ≠ e) (new : Array Value) : (W.setRow b new).ownsRow base t size v n xs := by
  rcases h with ⟨h1, h2 | ⟨g, cap, cur, hv, hg, hc, r⟩⟩
  · exact ⟨h1, .inl h2⟩
  · refine ⟨h1, .inr ⟨g, cap, cur, hv, hg, ?_, r⟩⟩
    have hne : g ≠ b := fun e => by
      subst e; have := hc.symm.trans hb; simp only [Option.some.injEq, Obj.cells.injEq] at this; exact ht this.2.1
    exact (setRow_other W b g new hne).trans hc
theorem OwnI.room {W : World} {B : Nat} {A : Option Addr} {n c : Nat} {zs : List Int} (h : OwnI W B (.slice A n c) zs) (hn : 0 < n) : (∃ g, A = some ⟨g, 0, none⟩) ∧ n ≤ c ∧ c ≤ 9223372036854775807 := by
  rcases h.2 with ⟨hv, _⟩ | ⟨g, cap, cur, hv, _, _, h1, h2, _⟩
  · simp at hv; omega
  · simp only [Value.slice.injEq] at hv; obtain ⟨rfl, e, rfl⟩ := hv; unfold maxLen at h2; exact ⟨⟨g, rfl⟩, by omega, by omega⟩
theorem gs_copy {o : Oper} {a : Act} {W : World} {Q : Exit → Act → World → Prop} {B n c b off : Nat} {zs : List Int} (s x : Operand) (ho : o.op = .call { callee := .builtin .append, args := #[s, x], argTypes := #[22, 22] })
    (hs : ∃ g, a.eval s = .slice (some ⟨g, 0, none⟩) 0 0) (hx : a.eval x = .slice (some ⟨b, off, none⟩) n c) (hz : IntsAt W (some ⟨b, off, none⟩) n zs) (hn : 0 < n) (hn2 : n ≤ 100000) (hB : B ≤ W.heap.size) :
    Oper.wp Tryz.prog o a W (fun a' W' => ∃ v, a' = a.put o.dst v ∧ Ext W W' ∧ (GR.ints B zs).r v W') Q := by
  obtain ⟨i0, hi, hz0, hz1, hz2⟩ := info_parts infoInt; obtain ⟨g, hg⟩ := hs
  obtain ⟨v', w', hrun, r1, r2⟩ := run_append_arg_grows (P := Tryz.prog) W 22 o.type 3 i0 (.int .i64 0) 1 8 Tryz.underlying22 hi hz0 hz1 hz2 rfl (by decide) ⟨g, 0, none⟩ 0 0 [] rfl (fun j u h => by simp at h)
    ⟨b, off, none⟩ n c (zs.map (Value.int .i64)) (by rw [List.length_map, hz.1, Nat.mul_one]) hz.cellsAt (by omega) (by unfold maxLen; omega) (by omega)
  obtain ⟨g1, g2, g3, g4, g5⟩ := r2; have hE : Ext W w' := ⟨g1, g2, g3, g4, fun k hk => g5 k hk (by simp)⟩; refine gs_val (v := v') (W' := w') ?_ hE ?_
  · simp [execOp, ho, resolve, invoke, builtin, hg, hx, hrun, Result.andThen]
  · have h2 : OwnI w' W.heap.size v' zs := by
      unfold OwnI; rw [hz.1]
      simpa using r1
    exact h2.mono hB
end Go.Proofs.YtmafmebcgmegeaaGreatDoor

namespace Go.Proofs.YtmafmebcgmegeaaGreatDoor
open Go.RowKit Go.Sort
theorem cell_kept {W W' : World} (hE : Ext W W') {p : Addr} {v : Value} (h : W.cell? p = some v) : W'.cell? p = some v := by
  rw [hE.below.cell (World.block_lt_of_cell? _ _ h)]; exact h
theorem Blk.cell_far {w : World} {g b i : Nat} {t : TypeId} {cs : Array Value} (h : Blk w g t cs) (hne : g ≠ b) (u : Value) : Blk (w.setCell ⟨b, i, none⟩ u) g t cs :=
  (Below.heap_setCell w ⟨b, i, none⟩ u g hne).trans h
def GR.oneR (B : Nat) (p : Int) (zs : List Int) : GR := ⟨fun v W => ∃ g A m c, v = .slice (some ⟨g, 0, none⟩) 1 1 ∧ Blk W g 145 #[.int .i64 p, .slice A m c] ∧ OwnI W B (.slice A m c) zs, fun ⟨g, A, m, c, e, h1, h2⟩ hE => ⟨g, A, m, c, e, h1.below hE, h2.below hE⟩⟩
theorem infoSetR : (Tryz.prog.info? 145).map (fun i => (i.zero, i.size, i.bytes)) = some (some (.agg #[.int .i64 0, .slice none 0 0]), 2, 32) := by kernel_rfl
theorem row_high {w W : World} {base : Nat} {t : TypeId} {size n : Nat} {v : Value} {xs : List Value} (h : w.ownsRow base t size v n xs) (k : ∀ b, base ≤ b → b < w.heap.size → W.heap[b]? = w.heap[b]?) : W.ownsRow base t size v n xs := by
  rcases h with ⟨h1, h2 | ⟨g, cap, cur, hv, hg, hc, r⟩⟩
  · exact ⟨h1, .inl h2⟩
  · refine ⟨h1, .inr ⟨g, cap, cur, hv, hg, ?_, r⟩⟩; exact (k g hg (Array.getElem?_eq_some_iff.1 hc).1).trans hc
end Go.Proofs.YtmafmebcgmegeaaGreatDoor
