/- Packets: their checks. Boxes that a walk has just made. -/
import Derived.Test.YtnbionhahifacaaDoorQF
import Derived.Laws.Rows
import Derived.Laws.Tables
import Derived.Deep.DeepCutAuto
namespace Go.Proofs.YtnbionhahifacaaDoor
open Go.RowKit

theorem Blk.setRow {w : World} {g : Nat} {t : TypeId} {cs : Array Value} (h : Blk w g t cs) (new : Array Value) : Blk (w.setRow g new) g t new := setRow_heap w g cs new t (0, 0) h
theorem Blk.setRow_far {w : World} {g k : Nat} {t : TypeId} {cs : Array Value} (h : Blk w g t cs) (hne : g ≠ k) (new : Array Value) : Blk (w.setRow k new) g t cs := (setRow_other w k g new hne).trans h
theorem _root_.Go.RowKit.Below.setRow' {B g : Nat} {w0 w : World} (hb : Below B w0 w) (hBg : B ≤ g) (cs : Array Value) : Below B w0 (w.setRow g cs) := below_setRow hb hBg cs

def followE (n : Int) : Int := (n + 1) % 65536
/-- The cells of a packet. -/
def pkA (st kd ct ln : Int) (ps : List Int) : Array Value := (Value.int .i64 st :: Value.int .i64 kd :: Value.int .i64 ct :: Value.int .i64 ln :: ps.map (Value.int .u8)).toArray
theorem pkA_0 (st kd ct ln : Int) (ps : List Int) : (pkA st kd ct ln ps)[0]? = some (.int .i64 st) := by simp [pkA]
theorem pkA_1 (st kd ct ln : Int) (ps : List Int) : (pkA st kd ct ln ps)[1]? = some (.int .i64 kd) := by simp [pkA]
theorem pkA_2 (st kd ct ln : Int) (ps : List Int) : (pkA st kd ct ln ps)[2]? = some (.int .i64 ct) := by simp [pkA]
theorem pkA_3 (st kd ct ln : Int) (ps : List Int) : (pkA st kd ct ln ps)[3]? = some (.int .i64 ln) := by simp [pkA]
theorem pkA_4 (st kd ct ln : Int) (ps : List Int) (i : Nat) (h : i < ps.length) : (pkA st kd ct ln ps)[4 + i]? = some (.int .u8 (ps.getD i 0)) := by
  rw [show 4 + i = i + 1 + 1 + 1 + 1 by omega]
  simp [pkA, List.getD_eq_getElem?_getD, h]
theorem pkA_size (st kd ct ln : Int) (ps : List Int) : (pkA st kd ct ln ps).size = 4 + ps.length := by simp [pkA]; omega
theorem pkA_one (st kd ct ln : Int) (ps : List Int) : (pkA st kd ct ln ps).all (·.oneCell') = true := by
  simp [pkA, Value.oneCell']

def eqPk (s1 k1 c1 l1 : Int) (p1 : List Int) (s2 k2 c2 l2 : Int) (p2 : List Int) : Bool := s1 == s2 && (k1 == k2 && (c1 == c2 && (l1 == l2 && eqB (List.range 18) (fun i => p1.getD i 0) (fun i => p2.getD i 0))))

theorem pkA_piece (st kd ct ln : Int) (ps : List Int) (h : ps.length = 18) : (pkA st kd ct ln ps).extract 4 22 = (ps.map (Value.int .u8)).toArray := by
  unfold pkA
  apply Array.ext
  · simp [h]
  · intro i h1 h2
    simp only [List.size_toArray, List.length_map] at h2
    simp
theorem bytes_at (ps : List Int) (i : Nat) (h : i < ps.length) : ((ps.map (Value.int .u8)).toArray)[i]? = some (.int .u8 (ps.getD i 0)) := by
  simp [List.getD_eq_getElem?_getD, h]

theorem eqField_step {P : Program} {w : World} {d : Nat} {xs ys : Array Value} {f : Field} {fs : List Field} {t : TypeId} {o : Nat} {a b : Value} {r r' : Bool} (h : (f.type, f.offset, f.name == "_") = (t, o, false))
    (p1 : (part t xs o).run P w = .ok a w) (p2 : (part t ys o).run P w = .ok b w) (p3 : (Op.equalIn d t a b).run P w = .ok r w) (p4 : (Op.eqFields d xs ys fs).run P w = .ok r' w) :
    (Op.eqFields d xs ys (f :: fs)).run P w = .ok (r && r') w := by
  simp only [Prod.mk.injEq, beq_eq_false_iff_ne, ne_eq] at h
  obtain ⟨rfl, rfl, n⟩ := h
  simp only [Op.eqFields, n, ne_eq, not_false_eq_true, if_true, Sem.run_bind, p1, p2, p3, Result.andThen_ok]
  cases r <;> simp [p4]

theorem wpList_neq_agg {P : Program} {ops : Array Oper} {rest : List Oper} {o : Oper} {a : Act} {w : World} {Q : Exit → Act → World → Prop} (hgd : o.guard = none) (t t' : TypeId) (x y : Operand) (ho : o.op = .binOp .neq t x y t')
    (xs ys : Array Value) (hx : a.eval x = .agg xs) (hy : a.eval y = .agg ys) (hm : P.eqGuardType P.depth t = false) (b : Bool) (hr : (binOp .neq t (.agg xs) (.agg ys)).run P w = .ok (.bool b) w)
    (h : wpList P ops Q rest (a.put o.dst (.bool b)) w) : wpList P ops Q (o :: rest) a w :=
  wpList_plain hgd fun _ hK => by
    have h1 := hK _ _ h
    unfold Oper.wp execOp
    simp only [ho, hx, hy, Sem.run_bind, run_eqGuard_agg w .neq t x y xs ys hm, hr, Result.andThen_ok, Sem.run_pure]
    exact h1

theorem Blk.setCells {g : Nat} {t : TypeId} : ∀ (vs : List Value) (o : Nat) {w : World} {cs : Array Value}, Blk w g t cs → ∃ cs' : Array Value, Blk (w.setCells g o vs) g t cs' ∧ cs'.size = cs.size ∧ (∀ i, i < o → cs'[i]? = cs[i]?) ∧ (∀ i, o + vs.length ≤ i → cs'[i]? = cs[i]?) ∧ (∀ j, j < vs.length → o + j < cs.size → cs'[o + j]? = vs[j]?)
  | [], _, _, cs, h => ⟨cs, h, rfl, fun _ _ => rfl, fun _ _ => rfl, fun j hj => absurd hj (by simp)⟩
  | v :: r, o, w, cs, h => by
    obtain ⟨cs', hb, hs, h1, h2, h3⟩ := Blk.setCells r (o + 1) (h.set_ o v)
    refine ⟨cs', hb, by simpa using hs, fun i hi => ?_, fun i hi => ?_, fun j hj hjc => ?_⟩
    · rw [h1 i (by omega), Array.getElem?_setIfInBounds_ne (by omega)]
    · simp only [List.length_cons] at hi
      rw [h2 i (by omega), Array.getElem?_setIfInBounds_ne (by omega)]
    · cases j with
      | zero =>
        rw [Nat.add_zero, h1 o (by omega), Array.getElem?_setIfInBounds]
        simp at hjc
        simp [hjc]
      | succ j =>
        simp only [List.length_cons] at hj
        have := h3 j (by omega) (by simp; omega)
        rw [show o + (j + 1) = o + 1 + j by omega, this]
        simp
theorem _root_.Go.RowKit.Below.setCells' {B g : Nat} {w0 : World} (hg : B ≤ g) : ∀ (vs : List Value) (o : Nat) {w : World}, Below B w0 w → Below B w0 (w.setCells g o vs)
  | [], _, _, h => h
  | v :: r, o, _, h => Go.RowKit.Below.setCells' hg r (o + 1) (h.setCell (p := ⟨g, o, none⟩) hg v)

/-- A piece whose end is cleared. -/
def cutTo (m : Nat) (ps : List Int) : List Int := (List.range 18).map fun i => if i < m then ps.getD i 0 else 0
theorem cutTo_len (m : Nat) (ps : List Int) : (cutTo m ps).length = 18 := by simp [cutTo]
theorem cutTo_at (m : Nat) (ps : List Int) (i : Nat) (h : i < 18) : (cutTo m ps).getD i 0 = if i < m then ps.getD i 0 else 0 := by
  simp [cutTo, List.getD_eq_getElem?_getD, h]
theorem pkA_cut {g : Nat} {t : TypeId} {w : World} (st kd ct ln : Int) (ps : List Int) (hps : ps.length = 18) (m : Nat) (hm : m ≤ 18) (h : Blk w g t (pkA st kd ct ln ps)) :
    Blk (w.setCells g (4 + m) (List.replicate (18 - m) (.int .u8 0))) g t (pkA st kd ct ln (cutTo m ps)) := by
  obtain ⟨cs', hb, hs, h1, h2, h3⟩ := Blk.setCells (List.replicate (18 - m) (Value.int .u8 0)) (4 + m) h
  have e : cs' = pkA st kd ct ln (cutTo m ps) := by
    rw [pkA_size, hps] at hs
    apply Array.ext_getElem?
    intro i
    by_cases hi : i < 22
    · by_cases h4 : i < 4
      · rw [h1 i (by omega)]
        match i, h4 with
        | 0, _ => rw [pkA_0, pkA_0]
        | 1, _ => rw [pkA_1, pkA_1]
        | 2, _ => rw [pkA_2, pkA_2]
        | 3, _ => rw [pkA_3, pkA_3]
      · obtain ⟨j, rfl⟩ : ∃ j, i = 4 + j := ⟨i - 4, by omega⟩
        rw [pkA_4 _ _ _ _ _ j (by rw [cutTo_len]; omega), cutTo_at m ps j (by omega)]
        by_cases hj : j < m
        · rw [h1 _ (by omega), pkA_4 _ _ _ _ _ j (by omega), if_pos hj]
        · obtain ⟨l, rfl⟩ : ∃ l, j = m + l := ⟨j - m, by omega⟩
          rw [if_neg hj, show 4 + (m + l) = 4 + m + l by omega, h3 l (by simp; omega) (by rw [pkA_size, hps]; omega)]
          rw [List.getElem?_replicate, if_pos (by omega)]
    · rw [Array.getElem?_eq_none (by omega), Array.getElem?_eq_none (by rw [pkA_size, cutTo_len]; omega)]
  rw [← e]; exact hb

def packetE (st kd ct ln : Int) (ps : List Int) : Int :=
  let e := firstE [withinE st 0 255, withinE kd 0 255, withinE ct 0 65535, withinE ln 0 18]
  if e = 0 then (if eqB (List.range 18) (fun i => (cutTo ln.toNat ps).getD i 0) (fun i => ps.getD i 0) then 0 else 1) else e
theorem eqPk_cut (st kd ct ln : Int) (ps qs : List Int) : eqPk st kd ct ln ps st kd ct ln qs = eqB (List.range 18) (fun i => ps.getD i 0) (fun i => qs.getD i 0) := by
  simp [eqPk]
theorem firstE_within {st kd ct ln : Int} (h : firstE [withinE st 0 255, withinE kd 0 255, withinE ct 0 65535, withinE ln 0 18] = 0) : (0 ≤ st ∧ st ≤ 255) ∧ (0 ≤ kd ∧ kd ≤ 255) ∧ (0 ≤ ct ∧ ct ≤ 65535) ∧ (0 ≤ ln ∧ ln ≤ 18) := by
  simp only [firstE] at h
  by_cases h1 : withinE st 0 255 = 0
  · by_cases h2 : withinE kd 0 255 = 0
    · by_cases h3 : withinE ct 0 65535 = 0
      · by_cases h4 : withinE ln 0 18 = 0
        · unfold withinE at h1 h2 h3 h4
          refine ⟨?_, ?_, ?_, ?_⟩
          · split at h1 <;> omega
          · split at h2 <;> omega
          · split at h3 <;> omega
          · split at h4 <;> omega
        · simp [h1, h2, h3, h4] at h
      · simp [h1, h2, h3] at h
    · simp [h1, h2] at h
  · simp [h1] at h
end Go.Proofs.YtnbionhahifacaaDoor
namespace Go.Proofs.YtnbionhahifacaaDoor
open Go.RowKit

theorem Blk.at_size {w : World} {g : Nat} (t : TypeId) (cs : Array Value) (h : g = w.heap.size) : Blk (w.alloc (.cells cs t)) g t cs := by
  subst h; exact Blk.new w t cs
/-- A box that the walk has just made: what is in it, what is below it. -/
theorem box_facts {W : World} (cs : Array Value) (t : TypeId) : ∀ W', W' = W.alloc (.cells cs t) → Blk W' W.heap.size t cs ∧ Below W.heap.size W W' := by
  rintro W' rfl
  exact ⟨Blk.new W t cs, (Below.refl _ _).alloc (Nat.le_refl _) _⟩
/-- The same of a box that is made and then stored to as a whole. -/
theorem box_facts_row {W : World} (z cs : Array Value) (t : TypeId) {g : Nat} (hg : g = W.heap.size) : ∀ W', W' = (W.alloc (.cells z t)).setRow g cs → Blk W' g t cs ∧ Below W.heap.size W W' := by
  subst hg
  rintro W' rfl
  exact ⟨(Blk.new W t z).setRow cs, ((Below.refl _ _).alloc (Nat.le_refl _) _).setRow' (Nat.le_refl _) cs⟩
end Go.Proofs.YtnbionhahifacaaDoor
