/- Texts Qr Qw of the proof. -/
import Derived.Test.YtmafmebcgmegeaaGreatDoorY45
import Derived.Test.YtmafmebcgmegeaaGreatDoorY42
import Derived.Test.YtmafmebcgmegeaaGreatDoorY31
namespace Go.Proofs.YtmafmebcgmegeaaGreatDoor
open Go.RowKit Go.Sort
theorem infoPt : (Tryz.prog.info? 30).map (fun i => (i.zero, i.size, i.bytes)) = some (some (.agg #[.int .i64 0, .int .i64 0]), 2, 16) := by kernel_rfl
theorem app_none {P : Program} (W : World) (t ty e : TypeId) (i : TypeInfo) (hi : P.info? e = some i) (ht : P.underlying t = some (.slice e)) (b0 : Addr) (p : Option Addr) (c : Nat) :
    (Builtin.append_ #[t, t] ty #[.slice (some b0) 0 0, .slice p 0 c]).run P W = .ok (.slice (some b0) 0 0) W := by
  cases p <;> simp [Builtin.append_, run_underlying ht, sizeOf, typeInfo, hi, Builtin.lenOf, Builtin.firstCells, loadCells, loadCellsFrom, storeCells]
def ptCells (l : List Bell.Pt) : List Value := l.flatMap fun p => [.int .i64 p.x, .int .i64 p.y]
theorem ptCells_len (l : List Bell.Pt) : (ptCells l).length = l.length * 2 := by
  induction l with
  | nil => rfl
  | cons p l ih => simp only [ptCells, List.flatMap_cons, List.length_append, List.length_cons, List.length_nil] at *; omega
theorem ptCells_at (l : List Bell.Pt) (i : Nat) (hi : i < l.length) : (ptCells l)[i * 2]? = some (.int .i64 (Bell.ptAt l i).x) ∧ (ptCells l)[i * 2 + 1]? = some (.int .i64 (Bell.ptAt l i).y) := by
  induction l generalizing i with
  | nil => simp at hi
  | cons p l ih =>
    cases i with
    | zero => exact ⟨rfl, rfl⟩
    | succ i =>
      have := ih i (by simpa using hi)
      have e : ptCells (p :: l) = Value.int .i64 p.x :: Value.int .i64 p.y :: ptCells l := rfl
      have ef : Bell.ptAt (p :: l) (i + 1) = Bell.ptAt l i := rfl
      rw [e, ef, show (i + 1) * 2 = i * 2 + 1 + 1 by omega]
      simpa using this
theorem PtsAt.cellsAt {w : World} {g o n : Nat} {l : List Bell.Pt} (h : PtsAt w (some ⟨g, o, none⟩) n l) : ∀ j u, (ptCells l)[j]? = some u → w.cell? ((⟨g, o, none⟩ : Addr).add j) = some u := fun j u hu => by
  have hj : j < n * 2 := by
    have := (List.getElem?_eq_some_iff.1 hu).1
    rw [ptCells_len, h.1] at this
    exact this
  obtain ⟨b, off, he, hh⟩ := h.2 (by omega)
  cases he
  obtain ⟨c0, c1⟩ := hh (j / 2) (by omega)
  obtain ⟨d0, d1⟩ := ptCells_at l (j / 2) (by rw [h.1]; omega)
  rw [addAddr]
  rcases Nat.mod_two_eq_zero_or_one j with hm | hm
  · have e : j = j / 2 * 2 := by omega
    rw [e] at hu ⊢
    rw [d0] at hu
    rw [c0, ← hu]
  · have e : j = j / 2 * 2 + 1 := by omega
    rw [e] at hu ⊢
    rw [d1] at hu
    rw [← Nat.add_assoc, c1, ← hu]
/-- A copy of points. -/
def GR.pts (n : Nat) (l : List Bell.Pt) : GR := ⟨fun v W => ∃ g c, v = .slice (some ⟨g, 0, none⟩) n c ∧ PtsAt W (some ⟨g, 0, none⟩) n l ∧ n ≤ c ∧ c ≤ 9223372036854775807, fun ⟨g, c, e, h1, h2⟩ hE => ⟨g, c, e, h1.keep hE, h2⟩⟩
theorem gs_points {o : Oper} {a : Act} {W : World} {Q : Exit → Act → World → Prop} {n c : Nat} {A : Option Addr} {l : List Bell.Pt} (s x : Operand) (ho : o.op = .call { callee := .builtin .append, args := #[s, x], argTypes := #[82, 82] })
    (hs : ∃ g, a.eval s = .slice (some ⟨g, 0, none⟩) 0 0) (hx : a.eval x = .slice A n c) (hz : PtsAt W A n l) (hn2 : n ≤ 100000) :
    Oper.wp Tryz.prog o a W (fun a' W' => ∃ v, a' = a.put o.dst v ∧ Ext W W' ∧ (GR.pts n l).r v W') Q := by
  obtain ⟨i0, hi, hz0, hz1, hz2⟩ := info_parts infoPt
  obtain ⟨g, hg⟩ := hs
  rcases Nat.eq_zero_or_pos n with rfl | hn
  · refine gs_val (v := .slice (some ⟨g, 0, none⟩) 0 0) (W' := W) ?_ (Ext.refl _) ⟨g, 0, rfl, ⟨hz.1, fun h => by omega⟩, by omega, by omega⟩
    simp [execOp, ho, resolve, invoke, builtin, hg, hx, app_none W 82 o.type 30 i0 hi Tryz.underlying82, Result.andThen]
  · obtain ⟨b, off, rfl, _⟩ := hz.2 hn
    obtain ⟨v', w', hrun, r1, r2⟩ := run_append_arg_grows (P := Tryz.prog) W 82 o.type 30 i0 (.agg #[.int .i64 0, .int .i64 0]) 2 16 Tryz.underlying82 hi hz0 hz1 hz2 rfl (by decide) ⟨g, 0, none⟩ 0 0 [] rfl (fun j u h => by simp at h)
      ⟨b, off, none⟩ n c (ptCells l) (by rw [ptCells_len, hz.1]) hz.cellsAt (by omega) (by unfold maxLen; omega) (by omega)
    obtain ⟨g1, g2, g3, g4, g5⟩ := r2
    have hE : Ext W w' := ⟨g1, g2, g3, g4, fun k hk => g5 k hk (by simp)⟩
    have h2 : w'.ownsRow W.heap.size 30 2 v' n (ptCells l) := by simpa using r1
    obtain ⟨gq, cq, hv, hnc, hm⟩ : ∃ gq cq, v' = .slice (some ⟨gq, 0, none⟩) n cq ∧ n ≤ cq ∧ cq ≤ 9223372036854775807 := by
      rcases h2.2 with ⟨_, h0⟩ | ⟨gq, cap, cur, hv, _, _, h3, h4, _⟩
      · omega
      · exact ⟨gq, cap, hv, h3, by unfold maxLen at h4; omega⟩
    subst hv
    refine gs_val (v := .slice (some ⟨gq, 0, none⟩) n cq) (W' := w') ?_ hE ⟨gq, cq, rfl, ⟨hz.1, fun _ => ⟨gq, 0, rfl, fun i hi => ?_⟩⟩, hnc, hm⟩
    · simp [execOp, ho, resolve, invoke, builtin, hg, hx, hrun, Result.andThen]
    · obtain ⟨d0, d1⟩ := ptCells_at l i (by rw [hz.1]; exact hi)
      have hl := ptCells_len l
      rw [hz.1] at hl
      refine ⟨?_, ?_⟩
      · rw [Nat.zero_add, World.ownsRow.cellAt h2 (i * 2) (by omega)]; exact d0
      · rw [Nat.zero_add, World.ownsRow.cellAt h2 (i * 2 + 1) (by omega)]; exact d1
/-- What both sides find: the fault, and the track. -/
def pathsE (l : List Bell.Pt) (p : List Bell.Sp) (v t : Int) : Int := if flownE l p v t = 0 then flownF l p v t else flownE l p v t
def pathsL (l : List Bell.Pt) (p : List Bell.Sp) (v t : Int) : List Bell.Fx := if pathsE l p v t = 0 then Bell.flown l p v t else []
theorem nil_trk (w : World) : TrAt w none 0 [] := ⟨rfl, fun h => by omega⟩
def GR.fl (E : Int) (k : List Bell.Fx) : GR := ⟨fun v W => ∃ A m c, v = .tuple #[.slice A m c, .int .i64 E] ∧ TrAt W A m k, fun ⟨A, m, c, e, h1⟩ hE => ⟨A, m, c, e, h1.keep hE⟩⟩
def GR.fls (k : List Bell.Fx) : GR := ⟨fun v W => ∃ A m c, v = .slice A m c ∧ TrAt W A m k, fun ⟨A, m, c, e, h1⟩ hE => ⟨A, m, c, e, h1.keep hE⟩⟩
theorem flown_fl {l : List Bell.Pt} {p : List Bell.Sp} {v t : Int} {e : Ending} {w' : World} (h : FlownPost l p v t e w') : ∃ x, e = .returned x ∧ (GR.fl (pathsE l p v t) (pathsL l p v t)).r x w' := by
  by_cases h0 : flownE l p v t = 0
  · have e1 : pathsE l p v t = flownF l p v t := if_pos h0
    by_cases h1 : flownF l p v t = 0
    · obtain ⟨g, he, hf⟩ := (h.2 h0).2 h1
      refine ⟨_, he, some ⟨g, 0, none⟩, l.length, l.length, by rw [e1, h1], ?_⟩
      unfold pathsL
      rw [if_pos (by rw [e1, h1])]
      exact ⟨by rw [Bell.flown_len], fun _ => ⟨g, 0, rfl, hf⟩⟩
    · refine ⟨_, (h.2 h0).1 h1, none, 0, 0, by rw [e1], ?_⟩
      unfold pathsL
      rw [if_neg (by rw [e1]; exact h1)]
      exact nil_trk _
  · have e1 : pathsE l p v t = flownE l p v t := if_neg h0
    refine ⟨_, h.1 h0, none, 0, 0, by rw [e1], ?_⟩
    unfold pathsL
    rw [if_neg (by rw [e1]; exact h0)]
    exact nil_trk _
def GR.row (n : Nat) (T : TypeId) (cs : Array Value) : GR := ⟨fun v W => ∃ g, v = .slice (some ⟨g, 0, none⟩) n n ∧ Blk W g T cs, fun ⟨g, e, h⟩ hE => ⟨g, e, h.below hE⟩⟩
end Go.Proofs.YtmafmebcgmegeaaGreatDoor

namespace Go.Proofs.YtmafmebcgmegeaaGreatDoor
open Go.RowKit Go.Sort
/-- A procedure whose first k heights are H. -/
def levK (H : Int) (p : List Bell.Sp) (k : Nat) : List Bell.Sp := (p.take k).map (fun s => { s with h := H }) ++ p.drop k
theorem levK_len (H : Int) (p : List Bell.Sp) (k : Nat) : (levK H p k).length = p.length := by
  simp only [levK, List.length_append, List.length_map, List.length_take, List.length_drop]; omega
theorem levK_0 (H : Int) (p : List Bell.Sp) : levK H p 0 = p := by simp [levK]
theorem levK_at {H : Int} {p : List Bell.Sp} {k i : Nat} (hi : i < p.length) : Bell.spAt (levK H p k) i = if i < k then { Bell.spAt p i with h := H } else Bell.spAt p i := by
  have hl : i < ((p.take k).map (fun s : Bell.Sp => ({ s with h := H } : Bell.Sp)) ++ p.drop k).length := by
    have := levK_len H p k
    unfold levK at this
    omega
  show Bell.spAt ((p.take k).map (fun s : Bell.Sp => ({ s with h := H } : Bell.Sp)) ++ p.drop k) i = _
  rw [Bell.spAt_get hl, Bell.spAt_get hi]
  split
  · rename_i h
    rw [List.getElem_append_left (by simp; omega)]
    simp
  · rename_i h
    rw [List.getElem_append_right (by simp; omega)]
    simp only [List.length_map, List.length_take, List.getElem_drop]
    congr 1
    omega
theorem sp_ext {a b : List Bell.Sp} (hl : a.length = b.length) (h : ∀ i, i < a.length → Bell.spAt a i = Bell.spAt b i) : a = b :=
  List.ext_getElem hl fun i h1 h2 => by rw [← Bell.spAt_get h1, ← Bell.spAt_get h2]; exact h i h1
theorem spAt_set {l : List Bell.Sp} {k i : Nat} {x : Bell.Sp} (hi : i < l.length) : Bell.spAt (l.set k x) i = if k = i then x else Bell.spAt l i := by
  rw [Bell.spAt_get (by simpa using hi), Bell.spAt_get hi, List.getElem_set]
theorem levK_succ {H : Int} {p : List Bell.Sp} {k : Nat} (hk : k < p.length) : (levK H p k).set k { Bell.spAt (levK H p k) k with h := H } = levK H p (k + 1) := by
  refine sp_ext (by simp [levK_len]) fun i hi => ?_
  have hi' : i < p.length := by simpa [levK_len] using hi
  rw [spAt_set (by rw [levK_len]; exact hi'), levK_at hi', levK_at hi', levK_at hk]
  rcases Nat.lt_trichotomy i k with h | h | h
  · rw [if_neg (by omega), if_pos h, if_pos (by omega)]
  · subst h; rw [if_pos rfl, if_neg (by omega), if_pos (by omega)]
  · rw [if_neg (by omega), if_neg (by omega), if_neg (by omega)]
theorem spCells_set {l : List Bell.Sp} {k : Nat} (hk : k < l.length) (H : Int) : (spCells l).set (k * 3 + 1) (.int .i64 H) = spCells (l.set k { Bell.spAt l k with h := H }) := by
  induction l generalizing k with
  | nil => simp at hk
  | cons p l ih =>
    have e : spCells (p :: l) = Value.int .i64 p.d :: Value.int .i64 p.h :: Value.int .i64 p.p :: spCells l := rfl
    cases k with
    | zero => simp [e, Bell.spAt, spCells]
    | succ k =>
      have := ih (k := k) (by simpa using hk)
      have ef : Bell.spAt (p :: l) (k + 1) = Bell.spAt l k := rfl
      rw [e, ef, show (k + 1) * 3 + 1 = k * 3 + 1 + 1 + 1 + 1 by omega]
      simp only [List.set_cons_succ, this]
      rfl
/-- All heights are H. -/
def lev (H : Int) (p : List Bell.Sp) : List Bell.Sp := levK H p p.length
theorem lev_len (H : Int) (p : List Bell.Sp) : (lev H p).length = p.length := levK_len H p _
theorem lev_at {H : Int} {p : List Bell.Sp} {i : Nat} (hi : i < p.length) : Bell.spAt (lev H p) i = { Bell.spAt p i with h := H } := by
  unfold lev; rw [levK_at hi, if_pos hi]
theorem lev_d (H : Int) (p : List Bell.Sp) (i : Nat) : (Bell.spAt (lev H p) i).d = (Bell.spAt p i).d := by
  rcases Nat.lt_or_ge i p.length with h | h
  · rw [lev_at h]
  · simp [Bell.spAt, List.getD, List.getElem?_eq_none h, List.getElem?_eq_none (show (lev H p).length ≤ i by rw [lev_len]; exact h)]
theorem lev_p (H : Int) (p : List Bell.Sp) (i : Nat) : (Bell.spAt (lev H p) i).p = (Bell.spAt p i).p := by
  rcases Nat.lt_or_ge i p.length with h | h
  · rw [lev_at h]
  · simp [Bell.spAt, List.getD, List.getElem?_eq_none h, List.getElem?_eq_none (show (lev H p).length ≤ i by rw [lev_len]; exact h)]
theorem lev_next (H : Int) (p : List Bell.Sp) (d : Int) : Bell.nextSp (lev H p) d = Bell.nextSp p d := by
  unfold Bell.nextSp lev levK
  rw [List.take_length, List.drop_length, List.append_nil, List.findIdx_map]
  rfl
theorem lev_power (H : Int) (p : List Bell.Sp) (d : Int) : Bell.powerAt (lev H p) d = Bell.powerAt p d := by
  unfold Bell.powerAt
  rw [lev_next, lev_len, lev_p, lev_p, lev_p, lev_d, lev_d]
theorem lev_good {H : Int} {p : List Bell.Sp} (g : Bell.GoodSp p) (h0 : 0 ≤ H) (h1 : H ≤ 20000) : Bell.GoodSp (lev H p) := by
  refine ⟨by rw [lev_len]; exact g.lo, by rw [lev_d]; exact g.zero, fun i j hij hj => ?_, fun i hi => ?_, fun i hi => ?_⟩
  · rw [lev_d, lev_d]; exact g.up i j hij (by rwa [lev_len] at hj)
  · rw [lev_len] at hi; rw [lev_at hi]; exact ⟨h0, h1⟩
  · rw [lev_len] at hi; rw [lev_p]; exact g.p0 i hi
theorem lev_height {H : Int} {p : List Bell.Sp} (g : Bell.GoodSp p) (h0 : 0 ≤ H) (h1 : H ≤ 20000) {d : Int} (hd : 0 ≤ d) : Bell.heightAt (lev H p) d = H := by
  have := Bell.height_bounds (lev_good g h0 h1) hd (lo := H) (hi := H) (fun i hi => by rw [lev_len] at hi; rw [lev_at hi]; exact ⟨Int.le_refl _, Int.le_refl _⟩)
  omega
theorem lev_proc {H : Int} {p : List Bell.Sp} (h : procE p = 0) (h0 : 0 ≤ H) (h1 : H ≤ 20000) : procE (lev H p) = 0 := by
  obtain ⟨a, b⟩ := andE_zero h
  have hz := firstR_zero b
  unfold procE
  rw [lev_len, andE_0 a]
  refine firstR_miss fun i hi => ?_
  have hs := andE_zero (hz i hi)
  obtain ⟨s1, s2, s3⟩ := firstE3_z hs.1
  have h2 := hs.2
  unfold spAtE
  rw [lev_d, lev_d, h2, andE_0]
  unfold stepE
  rw [lev_d, lev_p, lev_at hi, s1, s3]
  rw [show withinE ({ Bell.spAt p i with h := H } : Bell.Sp).h 0 20000 = 0 from withinE_in h0 h1]
  rfl
theorem lev_flown {H : Int} {p : List Bell.Sp} (g : Bell.GoodSp p) (h0 : 0 ≤ H) (h1 : H ≤ 20000) (l : List Bell.Pt) (v t : Int) (i : Nat) :
    Bell.flownAt l (lev H p) v t i = { Bell.flownAt l p v t i with z := H } := by
  unfold Bell.flownAt
  rw [lev_power, lev_height g h0 h1 (Bell.lenTo_nonneg l i)]
/-- The ticks of a way from its begin. -/
def wayT (l : List Bell.Pt) (v : Int) (i : Nat) : Int := (Bell.lenTo l i + v - 1) / v
/-- The fault of a flight. -/
def flyE (l : List Bell.Pt) (v : Int) : Int :=
  if 400000 < Bell.lenTo l (l.length - 1) then 4 else
    andE (firstR (fun i => if 0 < i ∧ wayT l v i ≤ wayT l v (i - 1) then 11 else 0) l.length) (if 1000 < wayT l v (l.length - 1) - wayT l v 0 then 14 else 0)
theorem firstR_cases (f : Nat → Int) (n : Nat) : firstR f n = 0 ∨ ∃ k, k < n ∧ firstR f n = f k := by
  have h : ∀ m, m ≤ n → (∀ i, i < m → f i = 0) ∨ ∃ k, k < m ∧ (∀ i, i < k → f i = 0) ∧ f k ≠ 0 := by
    intro m
    induction m with
    | zero => intro _; exact .inl fun i hi => by omega
    | succ m ih =>
      intro hm
      rcases ih (by omega) with h | ⟨k, hk, h1, h2⟩
      · by_cases hf : f m = 0
        · refine .inl fun i hi => ?_
          rcases Nat.lt_or_ge i m with q | q
          · exact h i q
          · obtain rfl : i = m := by omega
            exact hf
        · exact .inr ⟨m, by omega, h, hf⟩
      · exact .inr ⟨k, by omega, h1, h2⟩
  rcases h n (Nat.le_refl _) with h | ⟨k, hk, h1, h2⟩
  · exact .inl (firstR_miss h)
  · exact .inr ⟨k, hk, firstR_hit hk h1 h2⟩
theorem flyE_which (l : List Bell.Pt) (v : Int) : flyE l v = 0 ∨ flyE l v = 4 ∨ flyE l v = 11 ∨ flyE l v = 14 := by
  unfold flyE
  split
  · exact .inr (.inl rfl)
  · rcases firstR_cases (fun i => if 0 < i ∧ wayT l v i ≤ wayT l v (i - 1) then 11 else 0) l.length with h | ⟨k, _, h⟩
    · rw [andE_0 h]
      split
      · exact .inr (.inr (.inr rfl))
      · exact .inl rfl
    · by_cases hz : firstR (fun i => if 0 < i ∧ wayT l v i ≤ wayT l v (i - 1) then (11 : Int) else 0) l.length = 0
      · rw [andE_0 hz]
        split
        · exact .inr (.inr (.inr rfl))
        · exact .inl rfl
      · rw [andE_n hz, h]
        rw [h] at hz
        split at hz
        · rename_i q
          rw [if_pos q]; exact .inr (.inr (.inl rfl))
        · exact absurd rfl hz
theorem ptAtE_good {l : List Bell.Pt} (h : pathE l = 0) {i : Nat} (hi : i < l.length) : withinE (Bell.ptAt l i).x (-100000) 100000 = 0 ∧ withinE (Bell.ptAt l i).y (-100000) 100000 = 0 := by
  have hz := firstR_zero (andE_zero h).2 i hi
  have := (andE_zero hz).1
  exact ⟨firstE_zero this _ (by simp), firstE_zero this _ (by simp)⟩
theorem flownF_fly {l : List Bell.Pt} {p : List Bell.Sp} {v t : Int} (hl : pathE l = 0) (hp : procE p = 0) (hv : 1 ≤ v) (ht : 0 ≤ t) (ht2 : t ≤ 100007) : flownF l p v t = flyE l v := by
  obtain ⟨g, _, _⟩ := goodSp_of hp
  unfold flownF flyE
  split
  · rfl
  · rename_i hle
    obtain ⟨l1, l2⟩ := lengthE_zero2 (k := 16) (andE_zero hl).1
    have hlen : (Bell.flown l p v t).length = l.length := Bell.flown_len _ _ _ _
    unfold trackE
    rw [hlen, andE_0 (andE_zero hl).1]
    have hT : ∀ i, i < l.length → (Bell.fxAt (Bell.flown l p v t) i).t = t + wayT l v i := fun i hi => by rw [Bell.flown_at p v t hi]; rfl
    have hr : firstR (fxAtE (Bell.flown l p v t)) l.length = firstR (fun i => if 0 < i ∧ wayT l v i ≤ wayT l v (i - 1) then 11 else 0) l.length := by
      unfold firstR
      refine congrArg _ (List.map_congr_left fun i hi => ?_)
      have hi : i < l.length := by simpa using hi
      have hfx : fixE (Bell.fxAt (Bell.flown l p v t) i).t (Bell.fxAt (Bell.flown l p v t) i).x (Bell.fxAt (Bell.flown l p v t) i).y (Bell.fxAt (Bell.flown l p v t) i).z (Bell.fxAt (Bell.flown l p v t) i).p = 0 := by
        have hd := Bell.lenTo_nonneg l i
        have hd2 : Bell.lenTo l i ≤ 400000 := by have := Bell.lenTo_mono l (show i ≤ l.length - 1 by omega); omega
        have hw0 : 0 ≤ wayT l v i := Int.ediv_nonneg (by omega) (by omega)
        have hw1 : wayT l v i ≤ 400000 := by
          unfold wayT
          have q1 := Int.mul_ediv_add_emod (Bell.lenTo l i + v - 1) v
          have m2 := Int.emod_nonneg (Bell.lenTo l i + v - 1) (by omega : v ≠ 0)
          obtain ⟨D, hD⟩ : ∃ D, D = (Bell.lenTo l i + v - 1) / v := ⟨_, rfl⟩
          rw [← hD] at q1 ⊢
          rcases Int.lt_or_le 400000 D with hh | hh
          · have : v * 400001 ≤ v * D := Int.mul_le_mul_of_nonneg_left (by omega) (by omega)
            omega
          · exact hh
        obtain ⟨hx, hy⟩ := ptAtE_good hl hi
        have hh := Bell.height_bounds g hd (lo := 0) (hi := 20000) (fun i hi => g.h0 i hi)
        have hpw := Bell.power_bounds g hd (lo := 1) (hi := 100) (fun i hi => g.p0 i hi)
        unfold fixE placeE
        rw [hT i hi, Bell.flown_at p v t hi]
        rw [withinE_in (n := t + wayT l v i) (by omega) (by omega)]
        show firstE [0, firstE [withinE (Bell.ptAt l i).x (-100000) 100000, withinE (Bell.ptAt l i).y (-100000) 100000, withinE (Bell.heightAt p (Bell.lenTo l i)) 0 20000], withinE (Bell.powerAt p (Bell.lenTo l i)) 1 100] = 0
        rw [hx, hy, withinE_in hh.1 hh.2, withinE_in hpw.1 hpw.2]
        rfl
      unfold fxAtE
      rw [andE_0 hfx, hT i hi]
      by_cases h0 : 0 < i
      · rw [hT (i - 1) (by omega)]
        by_cases hw : wayT l v i ≤ wayT l v (i - 1)
        · rw [if_pos ⟨h0, by omega⟩, if_pos ⟨h0, hw⟩]
        · rw [if_neg (fun q => by have := q.2; omega), if_neg (fun q => hw q.2)]
      · rw [if_neg (fun q => h0 q.1), if_neg (fun q => h0 q.1)]
    rw [hr]
    unfold lastE
    rw [hlen, hT _ (by omega), hT 0 (by omega)]
    have e : t + wayT l v (l.length - 1) - (t + wayT l v 0) = wayT l v (l.length - 1) - wayT l v 0 := by omega
    rw [e]
/-- The least and the greatest of the first ones. -/
def loK (f : Nat → Int) : Nat → Int
  | 0 => f 0
  | k + 1 => min (loK f k) (f k)
def hiK (f : Nat → Int) : Nat → Int
  | 0 => f 0
  | k + 1 => max (hiK f k) (f k)
theorem loK_le (f : Nat → Int) {i k : Nat} (h : i < k) : loK f k ≤ f i := by
  induction k with
  | zero => omega
  | succ k ih =>
    have e : loK f (k + 1) = min (loK f k) (f k) := rfl
    rcases Nat.lt_or_ge i k with q | q
    · have := ih q; omega
    · obtain rfl : i = k := by omega
      omega
theorem le_hiK (f : Nat → Int) {i k : Nat} (h : i < k) : f i ≤ hiK f k := by
  induction k with
  | zero => omega
  | succ k ih =>
    have e : hiK f (k + 1) = max (hiK f k) (f k) := rfl
    rcases Nat.lt_or_ge i k with q | q
    · have := ih q; omega
    · obtain rfl : i = k := by omega
      omega
/-- A flight over a procedure at one height is no track to be repaired at twice the speed. -/
theorem lev_flies {H : Int} {p : List Bell.Sp} (g : Bell.GoodSp p) (h0 : 0 ≤ H) (h1 : H ≤ 20000) {l : List Bell.Pt} {v t : Int} (hv : 0 < v) {i : Nat}
    (hT : wayT l v i < wayT l v (i + 1)) : Bell.flies (2 * v) (Bell.flownAt l (lev H p) v t i) (Bell.flownAt l (lev H p) v t (i + 1)) :=
  Bell.flown_flies hv t (by rw [lev_flown g h0 h1, lev_flown g h0 h1]) (by show t + wayT l v i < t + wayT l v (i + 1); omega)
theorem flyE_up {l : List Bell.Pt} {v : Int} (h : flyE l v = 0) {i : Nat} (hi : i + 1 < l.length) : wayT l v i < wayT l v (i + 1) := by
  unfold flyE at h
  split at h
  · exact absurd h (by decide)
  · have hz := firstR_zero (andE_zero h).1 (i + 1) hi
    simp only [Nat.add_sub_cancel] at hz
    split at hz
    · exact absurd hz (by decide)
    · rename_i q
      rcases Int.lt_or_le (wayT l v i) (wayT l v (i + 1)) with h | h
      · exact h
      · exact absurd ⟨by omega, h⟩ q
theorem allFly_of {v : Int} {a : Bell.Fx} {l : List Bell.Fx} (h : ∀ i, i + 1 < (a :: l).length → Bell.flies v (Bell.fxAt (a :: l) i) (Bell.fxAt (a :: l) (i + 1))) : Bell.allFly v a l := by
  induction l generalizing a with
  | nil => trivial
  | cons b l ih => exact ⟨h 0 (by simp), ih fun i hi => h (i + 1) (by simp at hi ⊢; omega)⟩
/-- Nothing is put into it, and nothing is left out. -/
theorem fly_repair {H : Int} {p : List Bell.Sp} (g : Bell.GoodSp p) (h0 : 0 ≤ H) (h1 : H ≤ 20000) {l : List Bell.Pt} {v t : Int} (hv : 0 < v) (h : flyE l v = 0) :
    Bell.repair (2 * v) (Bell.flown l (lev H p) v t) = Bell.flown l (lev H p) v t := by
  have hl : (Bell.flown l (lev H p) v t).length = l.length := Bell.flown_len _ _ _ _
  have hf : ∀ i, i + 1 < (Bell.flown l (lev H p) v t).length → Bell.flies (2 * v) (Bell.fxAt (Bell.flown l (lev H p) v t) i) (Bell.fxAt (Bell.flown l (lev H p) v t) (i + 1)) := fun i hi => by
    rw [Bell.flown_at _ _ _ (by omega), Bell.flown_at _ _ _ (by omega)]
    exact lev_flies g h0 h1 hv (flyE_up h (by omega))
  obtain ⟨k, hk⟩ : ∃ k, k = Bell.flown l (lev H p) v t := ⟨_, rfl⟩
  rw [← hk] at hf ⊢
  cases k with
  | nil => rfl
  | cons a k => show a :: Bell.keep (2 * v) a k = a :: k; rw [Bell.keep_all (allFly_of hf)]
end Go.Proofs.YtmafmebcgmegeaaGreatDoor
