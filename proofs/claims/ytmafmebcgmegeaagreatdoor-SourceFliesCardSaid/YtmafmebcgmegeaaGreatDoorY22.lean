/- Texts Is Q2 Q3 of the proof. -/
import Derived.RangeFuncBox
import Derived.WalkMore
import Derived.Test.YtmafmebcgmegeaaGreatDoorY21
import Derived.Deep.MidRow
import Derived.Laws.CopyOwn
import Derived.OwnWalk
namespace Go.Proofs.YtmafmebcgmegeaaGreatDoor
open Go.RowKit
def fxCells (l : List Bell.Fx) : List Value := l.flatMap fun p => [.int .i64 p.t, .int .i64 p.x, .int .i64 p.y, .int .i64 p.z, .int .i64 p.p]
theorem fxCells_len (l : List Bell.Fx) : (fxCells l).length = l.length * 5 := by
  induction l with
  | nil => rfl
  | cons p l ih => simp only [fxCells, List.flatMap_cons, List.length_append, List.length_cons, List.length_nil] at *; omega
theorem fxCells_snoc (l : List Bell.Fx) (p : Bell.Fx) : fxCells (l ++ [p]) = fxCells l ++ [.int .i64 p.t, .int .i64 p.x, .int .i64 p.y, .int .i64 p.z, .int .i64 p.p] := by simp [fxCells]
theorem fxCells_at (l : List Bell.Fx) (i : Nat) (hi : i < l.length) : (fxCells l)[i * 5]? = some (.int .i64 (Bell.fxAt l i).t) ∧ (fxCells l)[i * 5 + 1]? = some (.int .i64 (Bell.fxAt l i).x) ∧ (fxCells l)[i * 5 + 2]? = some (.int .i64 (Bell.fxAt l i).y) ∧ (fxCells l)[i * 5 + 3]? = some (.int .i64 (Bell.fxAt l i).z) ∧ (fxCells l)[i * 5 + 4]? = some (.int .i64 (Bell.fxAt l i).p) := by
  induction l generalizing i with
  | nil => simp at hi
  | cons p l ih =>
    cases i with
    | zero => exact ⟨rfl, rfl, rfl, rfl, rfl⟩
    | succ i =>
      have := ih i (by simpa using hi)
      have e : fxCells (p :: l) = Value.int .i64 p.t :: Value.int .i64 p.x :: Value.int .i64 p.y :: Value.int .i64 p.z :: Value.int .i64 p.p :: fxCells l := rfl
      have ef : Bell.fxAt (p :: l) (i + 1) = Bell.fxAt l i := rfl
      rw [e, ef, show (i + 1) * 5 = i * 5 + 1 + 1 + 1 + 1 + 1 by omega]
      simpa using this
/-- A track of the call's own. -/
def OwnT (w : World) (base : Nat) (v : Value) (l : List Bell.Fx) : Prop := w.ownsRow base 152 5 v l.length (fxCells l)
theorem OwnT.at_ {w : World} {base : Nat} {v : Value} {l : List Bell.Fx} (h : OwnT w base v l) : ∃ A c, v = .slice A l.length c ∧ TrAt w A l.length l ∧ l.length ≤ c ∧ c ≤ 9223372036854775807 := by
  have h0 := h
  rcases h.2 with ⟨hv, hn⟩ | ⟨g, cap, cur, hv, hb, hg, hnc, hm, hs', ht⟩
  · exact ⟨none, 0, by rw [hv, hn], ⟨rfl, fun h => by omega⟩, by omega, by omega⟩
  · subst hv
    refine ⟨_, _, rfl, ⟨rfl, fun _ => ⟨g, 0, rfl, rfl, fun i hi => ?_⟩⟩, hnc, by unfold maxLen at hm; omega⟩
    obtain ⟨p0, p1, p2, p3, p4⟩ := fxCells_at l i hi
    unfold FixAt
    simp only [Nat.zero_add]
    refine ⟨?_, ?_, ?_, ?_, ?_⟩
    · rw [World.ownsRow.cellAt h0 (i * 5) (by omega)]; exact p0
    · rw [World.ownsRow.cellAt h0 (i * 5 + 1) (by omega)]; exact p1
    · rw [World.ownsRow.cellAt h0 (i * 5 + 2) (by omega)]; exact p2
    · rw [World.ownsRow.cellAt h0 (i * 5 + 3) (by omega)]; exact p3
    · rw [World.ownsRow.cellAt h0 (i * 5 + 4) (by omega)]; exact p4
theorem infoFix : (Tryz.prog.info? 152).map (fun i => (i.zero, i.size, i.bytes)) = some (some (.agg #[.int .i64 0, .int .i64 0, .int .i64 0, .int .i64 0, .int .i64 0]), 5, 40) := by kernel_rfl
theorem addAddr (b off j : Nat) : (⟨b, off, none⟩ : Addr).add j = ⟨b, off + j, none⟩ := by unfold Addr.add; split <;> simp_all
theorem cells_five_at (w : World) (t : TypeId) (a b c d e : Value) : ∀ (j : Nat) (u : Value), [a, b, c, d, e][j]? = some u → (w.alloc (.cells #[a, b, c, d, e] t)).cell? ((⟨w.heap.size, 0, none⟩ : Addr).add j) = some u := fun j u h => by
  rw [addAddr, Nat.zero_add, (Blk.new w t #[a, b, c, d, e]).cell j]
  simpa using h
end Go.Proofs.YtmafmebcgmegeaaGreatDoor

namespace Go.Proofs.YtmafmebcgmegeaaGreatDoor
open Go.RowKit Go.Sort
theorem run_copy_rows {P : Program} (w : World) (dT sT ty elem : TypeId) (g o n dCap : Nat) (a : Addr) (sCap s : Nat) (cur : Array Value) (t : TypeId) (cs : List Value)
    (hu : P.underlying dT = some (.slice elem)) (hs : (P.info? elem).map (·.size) = some s)
    (hg : w.heap[g]? = some (.cells cur t (0, 0))) (hn : cs.length = n * s)
    (hsrc : ∀ j v, cs[j]? = some v → w.cell? (a.add j) = some v) (hfit : o + cs.length ≤ cur.size) (h1 : ∀ v ∈ cs, v.oneCell' = true) :
    (Builtin.copy_ #[dT, sT] ty #[.slice (some ⟨g, o, none⟩) n dCap, .slice (some a) n sCap]).run P w =
      .ok (goInt n) (w.setRow g (cur.toList.take o ++ cs ++ cur.toList.drop (o + cs.length)).toArray) := by
  have hl := run_loadCells_list (P := P) w a cs hsrc
  have hst := run_storeCells_at P g o t cs 0 cur w hg (by simpa using hfit) h1
  have hmin : Nat.min n n = n := Nat.min_self n
  cases hq : P.info? elem with
  | none => simp [hq] at hs
  | some i =>
    have hi : i.size = s := by simpa [hq] using hs
    simp [Builtin.copy_, run_underlying hu, Builtin.lenOf, Builtin.firstCells, sizeOf, typeInfo, hq, hi, hmin, ← hn, hl, hst]
theorem own_full {w : World} {base size g n : Nat} {e : TypeId} {xs : List Value} (h : w.ownsRow base e size (.slice (some ⟨g, 0, none⟩) n n) n xs) : ∃ cur : Array Value, Blk w g e cur ∧ cur.size = n * size ∧ base ≤ g ∧ cur.toList = xs := by
  obtain ⟨hx, h⟩ := h
  rcases h with ⟨h, _⟩ | ⟨g', cap, cur, hv, hb, hg, hn, hm, hs, ht⟩
  · cases h
  · injection hv with h1 h2 h3
    injection h1 with h1
    injection h1 with h1
    subst h1 h3
    refine ⟨cur, hg, hs, hb, ?_⟩
    rw [← ht, List.take_of_length_le (by simp [hs])]
theorem firstE_02 (x : Int) : firstE [0, x] = x := by
  unfold firstE
  rw [if_pos rfl]
  unfold firstE
  split
  · rename_i h; rw [h]; rfl
  · rfl
set_option maxHeartbeats 1000000 in
set_option maxRecDepth 100000 in
theorem flyable_any (a b : Bell.Fx) (v : Int) (w : World) (ha : Bell.GoodFx a) (hb : Bell.GoodFx b) (h0 : 0 ≤ b.t - a.t) (h1 : b.t - a.t ≤ 1000) (v0 : 1 ≤ v) (v1 : v ≤ 1000) :
    Calls Tryz.prog 119 #[.agg (fxV a), .agg (fxV b), .int .i64 v] w fun e w' => e = .returned (.bool (decide (Bell.flies v a b))) ∧ Below w.heap.size w w' := by
  obtain ⟨at0, at1, ax0, ax1, ay0, ay1, az0, az1, ap0, ap1⟩ := ha
  obtain ⟨bt0, bt1, bx0, bx1, by0, by1, bz0, bz1, bp0, bp1⟩ := hb
  have m1 := mul_in (a := v) (b := b.t - a.t) (m := 1000) (n := 1000) (by omega) (by omega) (by omega) (by omega)
  have w1' : IntKind.i64.wrap (b.t - a.t) = b.t - a.t := IntWalk.i64_in _ (by omega)
  have w2' : IntKind.i64.wrap (v * (b.t - a.t)) = v * (b.t - a.t) := IntWalk.i64_in _ (by omega)
  obtain ⟨W, hW⟩ : ∃ W, W = v * (b.t - a.t) := ⟨_, rfl⟩
  have m2 := sq_in (a := W) (m := 1000000) (by omega) (by omega)
  have w3' : IntKind.i64.wrap (W * W) = W * W := IntWalk.i64_in _ (by omega)
  have HR : Hid (decide (Bell.flies v a b) = decide ((b.x - a.x) * (b.x - a.x) + (b.y - a.y) * (b.y - a.y) + (b.z - a.z) * (b.z - a.z) ≤ W * W)) := by show _ = _; rw [hW]; rfl
  rw [← hW] at w2'
  have w4' : v * (b.t - a.t) = W := hW.symm
  have HM := Lib.hid (fun X => minus_any b.x b.y b.z a.x a.y a.z X (by omega) (by omega) (by omega) (by omega) (by omega) (by omega))
  have HS := Lib.hid (fun X => square_any (b.x - a.x) (b.y - a.y) (b.z - a.z) X (by omega) (by omega) (by omega))
  clear hW m1 m2
  unfold fxV
  go_enter Tryz.func119, Tryz.ntmps119
  go_upto_region 1 with fail
  have HB : Hid (Below w.heap.size w w) := Below.refl _ _
  obtain ⟨wa, hwa⟩ : ∃ W, W = ((w.alloc (.cells #[.int .i64 a.t, .int .i64 a.x, .int .i64 a.y, .int .i64 a.z, .int .i64 a.p] 152)).alloc (.cells #[.int .i64 b.t, .int .i64 b.x, .int .i64 b.y, .int .i64 b.z, .int .i64 b.p] 152)) := ⟨_, rfl⟩
  rw [← hwa]
  have A : Hid (Blk wa (w.heap.size) 152 #[.int .i64 a.t, .int .i64 a.x, .int .i64 a.y, .int .i64 a.z, .int .i64 a.p]) := by show Blk _ _ _ _; rw [hwa]; exact (Blk.new _ _ _).alloc _
  have B : Hid (Blk wa (w.heap.size + 1) 152 #[.int .i64 b.t, .int .i64 b.x, .int .i64 b.y, .int .i64 b.z, .int .i64 b.p]) := by show Blk _ _ _ _; rw [hwa]; exact Blk.at_size _ _ (by simp)
  have hb1 : Below w.heap.size w wa := by rw [hwa]; exact (((Below.refl _ _).alloc (Nat.le_refl _) _).alloc (by simp) _)
  obtain ⟨g1, hg1⟩ : ∃ g, g = w.heap.size := ⟨_, rfl⟩
  obtain ⟨g2, hg2⟩ : ∃ g, g = w.heap.size + 1 := ⟨_, rfl⟩
  have HGwa : Hid (g1 = w.heap.size ∧ g2 = w.heap.size + 1) := ⟨hg1, hg2⟩
  rw [← hg2] at B
  try rw [← hg2]
  rw [← hg1] at A
  try rw [← hg1]
  clear hwa hg1 hg2
  replace HB := Lib.hid (HB.out.trans (hb1.mono HB.out.size))
  clear hb1
  have AA := A.out
  have BB := B.out
  have ac0 := AA.cell 0; have af0 := AA.frozen 0; have ac1 := AA.cell 1; have af1 := AA.frozen 1; have ac2 := AA.cell 2; have af2 := AA.frozen 2; have ac3 := AA.cell 3; have af3 := AA.frozen 3; have ac4 := AA.cell 4; have af4 := AA.frozen 4
  simp only [List.getElem?_toArray, List.getElem?_cons_zero, List.getElem?_cons_succ] at ac0 ac1 ac2 ac3 ac4
  clear AA
  have bc0 := BB.cell 0; have bf0 := BB.frozen 0; have bc1 := BB.cell 1; have bf1 := BB.frozen 1; have bc2 := BB.cell 2; have bf2 := BB.frozen 2; have bc3 := BB.cell 3; have bf3 := BB.frozen 3; have bc4 := BB.cell 4; have bf4 := BB.frozen 4
  simp only [List.getElem?_toArray, List.getElem?_cons_zero, List.getElem?_cons_succ] at bc0 bc1 bc2 bc3 bc4
  clear BB
  clear A B
  go_wp2_with fail
  refine (HM.out _).mono ?_
  rintro e wb ⟨rfl, hb2⟩
  replace HB := Lib.hid (HB.out.trans (hb2.mono HB.out.size))
  clear hb2
  go_wp2_with fail
  refine (HS.out _).mono ?_
  rintro e wc ⟨rfl, hb3⟩
  replace HB := Lib.hid (HB.out.trans (hb3.mono HB.out.size))
  clear hb3
  go_wp2_with fail
  refine (ascending_any _ _ _).mono ?_
  rintro e wd ⟨rfl, hb4⟩
  replace HB := Lib.hid (HB.out.trans (hb4.mono HB.out.size))
  clear hb4
  go_wp2
  go_ret
  exact ⟨ret_bool HR.out.symm, HB.out⟩
/-! The points that are kept, one after the other. -/
theorem keep_snoc (v : Int) (p : Bell.Fx) : ∀ (l : List Bell.Fx) (a : Bell.Fx), Bell.keep v a (l ++ [p]) = if Bell.flies v (Bell.fxAt (a :: Bell.keep v a l) (Bell.keep v a l).length) p then Bell.keep v a l ++ [p] else Bell.keep v a l
  | [], a => by simp [Bell.keep, Bell.fxAt]
  | b :: l, a => by
    by_cases h : Bell.flies v a b
    · have ih := keep_snoc v p l b
      simp only [List.cons_append, Bell.keep, if_pos h, ih]
      have e : Bell.fxAt (a :: b :: Bell.keep v b l) (b :: Bell.keep v b l).length = Bell.fxAt (b :: Bell.keep v b l) (Bell.keep v b l).length := rfl
      rw [e]
      split <;> rfl
    · simp only [List.cons_append, Bell.keep, if_neg h, keep_snoc v p l a]
theorem repair_step {v : Int} {l : List Bell.Fx} {j : Nat} (h : j + 1 < l.length) : Bell.repair v (l.take (j + 2)) = if Bell.flies v (Bell.fxAt (Bell.repair v (l.take (j + 1))) ((Bell.repair v (l.take (j + 1))).length - 1)) (Bell.fxAt l (j + 1)) then Bell.repair v (l.take (j + 1)) ++ [Bell.fxAt l (j + 1)] else Bell.repair v (l.take (j + 1)) := by
  cases l with
  | nil => simp at h
  | cons a t =>
    have ht : j < t.length := by simpa using h
    have e1 : (a :: t).take (j + 1) = a :: t.take j := rfl
    have e2 : (a :: t).take (j + 2) = a :: (t.take j ++ [Bell.fxAt t j]) := by
      show a :: t.take (j + 1) = _
      have : t[j]? = some (Bell.fxAt t j) := by simp [Bell.fxAt, ht]
      rw [List.take_add_one, this]
      rfl
    have e3 : Bell.fxAt (a :: t) (j + 1) = Bell.fxAt t j := rfl
    have e4 : (Bell.repair v (a :: t.take j)).length - 1 = (Bell.keep v a (t.take j)).length := by simp [Bell.repair]
    rw [e1, e2, e3, e4]
    have e5 : Bell.repair v (a :: (t.take j ++ [Bell.fxAt t j])) = a :: Bell.keep v a (t.take j ++ [Bell.fxAt t j]) := rfl
    have e6 : Bell.repair v (a :: t.take j) = a :: Bell.keep v a (t.take j) := rfl
    rw [e5, e6, keep_snoc]
    split <;> rfl
theorem fxAt_mem {l : List Bell.Fx} {i : Nat} (h : i < l.length) : Bell.fxAt l i ∈ l := by simp [Bell.fxAt, h]
theorem mem_fxAt {l : List Bell.Fx} {p : Bell.Fx} (h : p ∈ l) : ∃ i, i < l.length ∧ Bell.fxAt l i = p := by
  obtain ⟨i, hi, e⟩ := List.getElem_of_mem h
  exact ⟨i, hi, by simp [Bell.fxAt, hi, e]⟩
theorem mem_take_fxAt {l : List Bell.Fx} {k : Nat} {p : Bell.Fx} (h : p ∈ l.take k) : ∃ i, i < k ∧ i < l.length ∧ Bell.fxAt l i = p := by
  obtain ⟨i, hi, e⟩ := mem_fxAt h
  have h1 : i < k ∧ i < l.length := by simpa [Nat.lt_min] using hi
  refine ⟨i, h1.1, h1.2, ?_⟩
  rw [← e]
  simp [Bell.fxAt, List.getElem?_take, h1.1]
theorem repair_len (v : Int) (l : List Bell.Fx) : (Bell.repair v l).length ≤ l.length := (Bell.repair_sub v l).length_le
theorem repair_pos (v : Int) {l : List Bell.Fx} (h : 0 < l.length) : 0 < (Bell.repair v l).length := by
  cases l with
  | nil => simp at h
  | cons a l => simp [Bell.repair]
theorem fxAt_app1 {l : List Bell.Fx} {p : Bell.Fx} {i : Nat} (h : i < l.length) : Bell.fxAt (l ++ [p]) i = Bell.fxAt l i := by simp [Bell.fxAt, List.getElem?_append_left h]
theorem fxAt_app2 {l : List Bell.Fx} {p : Bell.Fx} : Bell.fxAt (l ++ [p]) l.length = p := by simp [Bell.fxAt]
/-- What Repaired answers for a track without a fault. -/
def RepPost (l : List Bell.Fx) (v : Int) (e : Ending) (w' : World) : Prop :=
  (withinE v 1 1000 ≠ 0 → e = .returned (.tuple #[.slice none 0 0, .int .i64 (withinE v 1 1000)])) ∧
  (withinE v 1 1000 = 0 → ((Bell.repair v l).length < 2 → e = .returned (.tuple #[.slice none 0 0, .int .i64 16])) ∧
    (2 ≤ (Bell.repair v l).length → ∃ g, e = .returned (.tuple #[.slice (some ⟨g, 0, none⟩) (Bell.repair v l).length (Bell.repair v l).length, .int .i64 0]) ∧ FixesAt w' g 0 (Bell.repair v l).length (Bell.repair v l)))
theorem fixes_keepB {w w' : World} {b off n : Nat} {l : List Bell.Fx} (h : FixesAt w b off n l) (hb : w'.heap[b]? = w.heap[b]?) : FixesAt w' b off n l := by
  have k : ∀ j, w'.cell? ⟨b, j, none⟩ = w.cell? ⟨b, j, none⟩ := fun j => cell_same (p := ⟨b, j, none⟩) hb
  refine ⟨h.1, fun i hi => ?_⟩
  obtain ⟨h0, h1, h2, h3, h4⟩ := h.2 i hi
  exact ⟨(k _).trans h0, (k _).trans h1, (k _).trans h2, (k _).trans h3, (k _).trans h4⟩
theorem fixes_snoc {w : World} {g : Nat} {cs : Array Value} {l : List Bell.Fx} {p : Bell.Fx} (hB : Blk w g 152 cs) (h1 : ∀ i, i < l.length → ∀ k, k < 5 → cs[i * 5 + k]? = (fxV (Bell.fxAt l i))[k]?) (h2 : ∀ k, k < 5 → cs[l.length * 5 + k]? = (fxV p)[k]?) : FixesAt w g 0 (l.length + 1) (l ++ [p]) := by
  refine ⟨by simp, fun i hi => ?_⟩
  have hk : ∀ k, k < 5 → w.cell? ⟨g, i * 5 + k, none⟩ = (fxV (Bell.fxAt (l ++ [p]) i))[k]? := fun k hk => by
    rw [hB.cell]
    by_cases h : i < l.length
    · rw [fxAt_app1 h]; exact h1 i h k hk
    · obtain rfl : i = l.length := by omega
      rw [fxAt_app2]; exact h2 k hk
  rw [Nat.zero_add]
  exact ⟨hk 0 (by omega), hk 1 (by omega), hk 2 (by omega), hk 3 (by omega), hk 4 (by omega)⟩
theorem fixes_cells {w : World} {g : Nat} {cs : Array Value} {n : Nat} {l : List Bell.Fx} (hB : Blk w g 152 cs) (h : FixesAt w g 0 n l) : ∀ i, i < l.length → ∀ k, k < 5 → cs[i * 5 + k]? = (fxV (Bell.fxAt l i))[k]? := fun i hi k hk => by
  obtain ⟨h0, h1, h2, h3, h4⟩ := h.2 i (by rw [← h.1]; exact hi)
  rw [Nat.zero_add] at h0 h1 h2 h3 h4
  rw [hB.cell] at h0 h1 h2 h3 h4
  match k, hk with
  | 0, _ => exact h0
  | 1, _ => exact h1
  | 2, _ => exact h2
  | 3, _ => exact h3
  | 4, _ => exact h4
end Go.Proofs.YtmafmebcgmegeaaGreatDoor

namespace Go.Proofs.YtmafmebcgmegeaaGreatDoor
open Go.RowKit Go.Sort
/-- The first fault of what has an index below `n`. -/
def firstR (f : Nat → Int) (n : Nat) : Int := firstE ((List.range n).map f)
theorem firstR_hit {f : Nat → Int} {n k : Nat} (hk : k < n) (h : ∀ i, i < k → f i = 0) (h1 : f k ≠ 0) : firstR f n = f k := by
  have e : ∀ i, i < n → ((List.range n).map f).getD i 0 = f i := fun i hi => by simp [hi]
  unfold firstR
  rw [firstE_hit _ k (by simpa using hk) (fun i hi => by rw [e i (by omega)]; exact h i hi) (by rw [e k hk]; exact h1), e k hk]
theorem firstR_miss {f : Nat → Int} {n : Nat} (h : ∀ i, i < n → f i = 0) : firstR f n = 0 := by
  unfold firstR
  refine firstE_miss _ fun i hi => ?_
  have hi' : i < n := by simpa using hi
  simp [hi', h i hi']
theorem firstR_zero {f : Nat → Int} {n : Nat} (h : firstR f n = 0) : ∀ i, i < n → f i = 0 := fun i hi => firstE_zero h (f i) (List.mem_map.2 ⟨i, List.mem_range.2 hi, rfl⟩)
def andE (a b : Int) : Int := if a = 0 then b else a
theorem andE_0 {a b : Int} (h : a = 0) : andE a b = b := by rw [andE, if_pos h]
theorem andE_n {a b : Int} (h : a ≠ 0) : andE a b = a := by rw [andE, if_neg h]
theorem andE_zero {a b : Int} (h : andE a b = 0) : a = 0 ∧ b = 0 := by
  by_cases h1 : a = 0
  · rw [andE_0 h1] at h; exact ⟨h1, h⟩
  · rw [andE_n h1] at h; exact absurd h h1
theorem lengthE_zero2 {n : Nat} {k : Nat} (h : lengthE n (k : Int) = 0) : 2 ≤ n ∧ n ≤ k := by
  unfold lengthE atMostE at h
  split at h
  · cases h
  · split at h
    · cases h
    · omega
/-- A slice of points of the plane. -/
def PtsAt (w : World) (A : Option Addr) (n : Nat) (l : List Bell.Pt) : Prop :=
  l.length = n ∧ (0 < n → ∃ b o, A = some ⟨b, o, none⟩ ∧ ∀ i, i < n → w.cell? ⟨b, o + i * 2, none⟩ = some (.int .i64 (Bell.ptAt l i).x) ∧ w.cell? ⟨b, o + i * 2 + 1, none⟩ = some (.int .i64 (Bell.ptAt l i).y))
theorem PtsAt.keep {w w' : World} {A : Option Addr} {n : Nat} {l : List Bell.Pt} (h : PtsAt w A n l) (hb : Below w.heap.size w w') : PtsAt w' A n l :=
  ⟨h.1, fun hn => by
    obtain ⟨b, o, e, hc⟩ := h.2 hn
    have k : ∀ {j : Nat} {v : Value}, w.cell? ⟨b, j, none⟩ = some v → w'.cell? ⟨b, j, none⟩ = some v := fun {j v} hc => by
      rw [hb.cell (p := ⟨b, j, none⟩) (World.block_lt_of_cell? _ _ hc)]; exact hc
    exact ⟨b, o, e, fun i hi => ⟨k (hc i hi).1, k (hc i hi).2⟩⟩⟩
/-- A slice of steps of a procedure. -/
def SpsAt (w : World) (A : Option Addr) (n : Nat) (l : List Bell.Sp) : Prop :=
  l.length = n ∧ (0 < n → ∃ b o, A = some ⟨b, o, none⟩ ∧ ∀ i, i < n → w.cell? ⟨b, o + i * 3, none⟩ = some (.int .i64 (Bell.spAt l i).d) ∧ w.cell? ⟨b, o + i * 3 + 1, none⟩ = some (.int .i64 (Bell.spAt l i).h) ∧ w.cell? ⟨b, o + i * 3 + 2, none⟩ = some (.int .i64 (Bell.spAt l i).p))
theorem SpsAt.keep {w w' : World} {A : Option Addr} {n : Nat} {l : List Bell.Sp} (h : SpsAt w A n l) (hb : Below w.heap.size w w') : SpsAt w' A n l :=
  ⟨h.1, fun hn => by
    obtain ⟨b, o, e, hc⟩ := h.2 hn
    have k : ∀ {j : Nat} {v : Value}, w.cell? ⟨b, j, none⟩ = some v → w'.cell? ⟨b, j, none⟩ = some v := fun {j v} hc => by
      rw [hb.cell (p := ⟨b, j, none⟩) (World.block_lt_of_cell? _ _ hc)]; exact hc
    exact ⟨b, o, e, fun i hi => ⟨k (hc i hi).1, k (hc i hi).2.1, k (hc i hi).2.2⟩⟩⟩
def ptAtE (l : List Bell.Pt) (i : Nat) : Int := andE (firstE [withinE (Bell.ptAt l i).x (-100000) 100000, withinE (Bell.ptAt l i).y (-100000) 100000]) (if 0 < i ∧ (Bell.ptAt l i).x = (Bell.ptAt l (i - 1)).x ∧ (Bell.ptAt l i).y = (Bell.ptAt l (i - 1)).y then 9 else 0)
/-- The fault of a path. -/
def pathE (l : List Bell.Pt) : Int := andE (lengthE l.length 16) (firstR (ptAtE l) l.length)
def spAtE (l : List Bell.Sp) (i : Nat) : Int := andE (stepE (Bell.spAt l i)) (if (i = 0 ∧ (Bell.spAt l i).d ≠ 0) ∨ (0 < i ∧ (Bell.spAt l i).d ≤ (Bell.spAt l (i - 1)).d) then 11 else 0)
/-- The fault of a procedure. -/
def procE (l : List Bell.Sp) : Int := andE (lengthE l.length 8) (firstR (spAtE l) l.length)
theorem eqField_step2 {P : Program} {w : World} {d : Nat} {xs ys : Array Value} {f : Field} {fs : List Field} {t : TypeId} {o : Nat} {a b : Value} {r r' : Bool} (h : (f.type, f.offset, f.name == "_") = (t, o, false))
    (p1 : (part t xs o).run P w = .ok a w) (p2 : (part t ys o).run P w = .ok b w) (p3 : (Op.equalIn d t a b).run P w = .ok r w) (p4 : (Op.eqFields d xs ys fs).run P w = .ok r' w) :
    (Op.eqFields d xs ys (f :: fs)).run P w = .ok (r && r') w := by
  simp only [Prod.mk.injEq, beq_eq_false_iff_ne, ne_eq] at h
  obtain ⟨rfl, rfl, n⟩ := h
  simp only [Op.eqFields, n, ne_eq, not_false_eq_true, if_true, Sem.run_bind, p1, p2, p3, Result.andThen_ok]
  cases r <;> simp [p4]
theorem eqFields_two (w : World) (d : Nat) (a b x y : Int) (fs : List Field) (h : fs.map (fun f => (f.type, f.offset, f.name == "_")) = [(3, 0, false), (3, 1, false)]) :
    (Op.eqFields (d + 2) #[.int .i64 a, .int .i64 b] #[.int .i64 x, .int .i64 y] fs).run Tryz.prog w = .ok (a == x && b == y) w := by
  have hp : Tryz.prog.plainKey 3 = true := by kernel_rfl
  have hu : Tryz.prog.underlying 3 = some (.int .i64) := by kernel_rfl
  obtain ⟨f0, fs, rfl, e0, h⟩ := List.map_eq_cons_iff.1 h
  obtain ⟨f1, fs, rfl, e1, h⟩ := List.map_eq_cons_iff.1 h
  obtain rfl := List.map_eq_nil_iff.1 h
  have e : (a == x && b == y) = (a == x && (b == y && true)) := by rw [Bool.and_true]
  rw [e]
  refine eqField_step2 e0 (run_part_plain w hp rfl) (run_part_plain w hp rfl) (Go.run_equalIn_int w (d + 1) 3 .i64 .i64 _ _ hu) ?_
  exact eqField_step2 e1 (run_part_plain w hp rfl) (run_part_plain w hp rfl) (Go.run_equalIn_int w (d + 1) 3 .i64 .i64 _ _ hu) (by simp [Op.eqFields])
theorem pt_fields : (Tryz.prog.fieldsOf 30).toList.map (fun f => (f.type, f.offset, f.name == "_")) = [(3, 0, false), (3, 1, false)] := by kernel_rfl
theorem eq_pt (a b c d : Int) (w : World) :
    (Op.equalIn 10000 30 (.agg #[.int .i64 a, .int .i64 b]) (.agg #[.int .i64 c, .int .i64 d])).run Tryz.prog w = .ok (a == c && b == d) w := by
  rw [run_equalIn_struct w 9999 30 _ _ (by kernel_rfl) (by kernel_rfl)]
  exact eqFields_two w 9997 a b c d _ pt_fields
end Go.Proofs.YtmafmebcgmegeaaGreatDoor
