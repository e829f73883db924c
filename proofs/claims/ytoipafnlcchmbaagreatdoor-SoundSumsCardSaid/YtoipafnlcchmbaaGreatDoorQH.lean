/- Packets: their checks. A packet's check. Lists of packets. Encode. Decode. Decode: behind the mark. Boxes that a walk has just made. -/
import Derived.Test.YtoipafnlcchmbaaGreatDoorQF
import Derived.Laws.Rows
import Derived.Laws.Tables
import Derived.Deep.DeepCutAuto
import Derived.Deep.MidRow
import Derived.Laws.CopyOwn
namespace Go.Proofs.YtoipafnlcchmbaaGreatDoor
open Go.RowKit

theorem Blk.setRow {w : World} {g : Nat} {t : TypeId} {cs : Array Value} (h : Blk w g t cs) (new : Array Value) : Blk (w.setRow g new) g t new := setRow_heap w g cs new t (0, 0) h
theorem Blk.setRow_far {w : World} {g k : Nat} {t : TypeId} {cs : Array Value} (h : Blk w g t cs) (hne : g ≠ k) (new : Array Value) : Blk (w.setRow k new) g t cs := (setRow_other w k g new hne).trans h
theorem _root_.Go.RowKit.Below.setRow' {B g : Nat} {w0 w : World} (hb : Below B w0 w) (hBg : B ≤ g) (cs : Array Value) : Below B w0 (w.setRow g cs) := below_setRow hb hBg cs

theorem checkStation_any (n : Int) (w : World) :
    Calls Tryz.prog 143 #[.int .i64 n] w fun e w' => e = .returned (.int .i64 (withinE n 0 255)) ∧ w' = w := by
  go_enter Tryz.func143, Tryz.ntmps143
  go_wp2_with (go_at_call 104; refine (within_any n 0 255 _).mono ?_; rintro e w1 ⟨rfl, rfl⟩)
  go_ret
  exact ⟨rfl, rfl⟩

def followE (n : Int) : Int := (n + 1) % 65536
theorem following_any (n : Int) (w : World) (h0 : 0 ≤ n) (h1 : n ≤ 65535) :
    Calls Tryz.prog 144 #[.int .i64 n] w fun e w' => e = .returned (.int .i64 (followE n)) ∧ w = w' := by
  go_enter Tryz.func144, Tryz.ntmps144
  go_wp2
  go_ret
  exact ⟨ret_int (by unfold followE; omega), rfl⟩

/-- The cells of a packet. -/
def pkA (st kd ct ln : Int) (ps : List Int) : Array Value := (Value.int .i64 st :: Value.int .i64 kd :: Value.int .i64 ct :: Value.int .i64 ln :: ps.map (Value.int .u8)).toArray
theorem pkA_0 (st kd ct ln : Int) (ps : List Int) : (pkA st kd ct ln ps)[0]? = some (.int .i64 st) := by simp [pkA]
theorem pkA_1 (st kd ct ln : Int) (ps : List Int) : (pkA st kd ct ln ps)[1]? = some (.int .i64 kd) := by simp [pkA]
theorem pkA_2 (st kd ct ln : Int) (ps : List Int) : (pkA st kd ct ln ps)[2]? = some (.int .i64 ct) := by simp [pkA]
theorem pkA_3 (st kd ct ln : Int) (ps : List Int) : (pkA st kd ct ln ps)[3]? = some (.int .i64 ln) := by simp [pkA]
theorem pkA_4 (st kd ct ln : Int) (ps : List Int) (i : Nat) (h : i < ps.length) : (pkA st kd ct ln ps)[4 + i]? = some (.int .u8 (ps.getD i 0)) := by
  rw [show 4 + i = i + 1 + 1 + 1 + 1 by omega]
  simp [pkA, List.getD_eq_getElem?_getD, h]
theorem pkA_size (st kd ct ln : Int) (ps : List Int) : (pkA st kd ct ln ps).size = 4 + ps.length := by simp [pkA]; omega
theorem pkA_one (st kd ct ln : Int) (ps : List Int) : (pkA st kd ct ln ps).all (·.oneCell') = true := by
  simp [pkA, Value.oneCell']

def eqPk (s1 k1 c1 l1 : Int) (p1 : List Int) (s2 k2 c2 l2 : Int) (p2 : List Int) : Bool := s1 == s2 && (k1 == k2 && (c1 == c2 && (l1 == l2 && eqB (List.range 18) (fun i => p1.getD i 0) (fun i => p2.getD i 0))))

theorem pk_fields : (Tryz.prog.fieldsOf 101).toList.map (fun f => (f.type, f.offset, f.name == "_")) = [(3, 0, false), (3, 1, false), (3, 2, false), (3, 3, false), (95, 4, false)] := by kernel_rfl

theorem pkA_piece (st kd ct ln : Int) (ps : List Int) (h : ps.length = 18) : (pkA st kd ct ln ps).extract 4 22 = (ps.map (Value.int .u8)).toArray := by
  unfold pkA
  apply Array.ext
  · simp [h]
  · intro i h1 h2
    simp only [List.size_toArray, List.length_map] at h2
    simp
theorem bytes_at (ps : List Int) (i : Nat) (h : i < ps.length) : ((ps.map (Value.int .u8)).toArray)[i]? = some (.int .u8 (ps.getD i 0)) := by
  simp [List.getD_eq_getElem?_getD, h]

theorem run_eq18 (w : World) (d : Nat) (p1 p2 : List Int) (h1 : p1.length = 18) (h2 : p2.length = 18) :
    (Op.equalIn (d + 2) 95 (.agg (p1.map (Value.int .u8)).toArray) (.agg (p2.map (Value.int .u8)).toArray)).run Tryz.prog w = .ok (eqB (List.range 18) (fun i => p1.getD i 0) (fun i => p2.getD i 0)) w := by
  obtain ⟨i, hi⟩ : ∃ i, Tryz.prog.info? 5 = some i := Option.isSome_iff_exists.1 (by kernel_rfl)
  rw [run_equalIn_array w (d + 1) (n := 18) (e := 5) (i := i) _ _ (by kernel_rfl) hi]
  rw [show Tryz.prog.cellsOf 5 = 1 by kernel_rfl]
  exact run_eqItems_int w d (by kernel_rfl) _ _ _ _ _ fun i hi => by
    have : i < 18 := by simpa using hi
    exact ⟨bytes_at p1 i (by omega), bytes_at p2 i (by omega)⟩

theorem run_part_18 (w : World) (st kd ct ln : Int) (ps : List Int) (h : ps.length = 18) : (part 95 (pkA st kd ct ln ps) 4).run Tryz.prog w = .ok (.agg (ps.map (Value.int .u8)).toArray) w := by
  rw [← pkA_piece st kd ct ln ps h]
  have h1 : Tryz.prog.underlying 95 = some (.array 18 5) := by kernel_rfl
  simp [part, isAgg, run_underlying h1]

theorem eqField_step {P : Program} {w : World} {d : Nat} {xs ys : Array Value} {f : Field} {fs : List Field} {t : TypeId} {o : Nat} {a b : Value} {r r' : Bool} (h : (f.type, f.offset, f.name == "_") = (t, o, false))
    (p1 : (part t xs o).run P w = .ok a w) (p2 : (part t ys o).run P w = .ok b w) (p3 : (Op.equalIn d t a b).run P w = .ok r w) (p4 : (Op.eqFields d xs ys fs).run P w = .ok r' w) :
    (Op.eqFields d xs ys (f :: fs)).run P w = .ok (r && r') w := by
  simp only [Prod.mk.injEq, beq_eq_false_iff_ne, ne_eq] at h
  obtain ⟨rfl, rfl, n⟩ := h
  simp only [Op.eqFields, n, ne_eq, not_false_eq_true, if_true, Sem.run_bind, p1, p2, p3, Result.andThen_ok]
  cases r <;> simp [p4]

theorem eqFields_pk (w : World) (d : Nat) (s1 k1 c1 l1 : Int) (p1 : List Int) (s2 k2 c2 l2 : Int) (p2 : List Int) (h1 : p1.length = 18) (h2 : p2.length = 18) (fs : List Field)
    (h : fs.map (fun f => (f.type, f.offset, f.name == "_")) = [(3, 0, false), (3, 1, false), (3, 2, false), (3, 3, false), (95, 4, false)]) :
    (Op.eqFields (d + 2) (pkA s1 k1 c1 l1 p1) (pkA s2 k2 c2 l2 p2) fs).run Tryz.prog w = .ok (eqPk s1 k1 c1 l1 p1 s2 k2 c2 l2 p2) w := by
  have hp : Tryz.prog.plainKey 3 = true := by kernel_rfl
  have hu : Tryz.prog.underlying 3 = some (.int .i64) := by kernel_rfl
  obtain ⟨f0, fs, rfl, e0, h⟩ := List.map_eq_cons_iff.1 h
  obtain ⟨f1, fs, rfl, e1, h⟩ := List.map_eq_cons_iff.1 h
  obtain ⟨f2, fs, rfl, e2, h⟩ := List.map_eq_cons_iff.1 h
  obtain ⟨f3, fs, rfl, e3, h⟩ := List.map_eq_cons_iff.1 h
  obtain ⟨f4, fs, rfl, e4, h⟩ := List.map_eq_cons_iff.1 h
  obtain rfl := List.map_eq_nil_iff.1 h
  have e : eqPk s1 k1 c1 l1 p1 s2 k2 c2 l2 p2 = (s1 == s2 && (k1 == k2 && (c1 == c2 && (l1 == l2 && (eqB (List.range 18) (fun i => p1.getD i 0) (fun i => p2.getD i 0) && true))))) := by unfold eqPk; rw [Bool.and_true]
  rw [e]
  refine eqField_step e0 (run_part_plain w hp (pkA_0 ..)) (run_part_plain w hp (pkA_0 ..)) (Go.run_equalIn_int w (d + 1) 3 .i64 .i64 _ _ hu) ?_
  refine eqField_step e1 (run_part_plain w hp (pkA_1 ..)) (run_part_plain w hp (pkA_1 ..)) (Go.run_equalIn_int w (d + 1) 3 .i64 .i64 _ _ hu) ?_
  refine eqField_step e2 (run_part_plain w hp (pkA_2 ..)) (run_part_plain w hp (pkA_2 ..)) (Go.run_equalIn_int w (d + 1) 3 .i64 .i64 _ _ hu) ?_
  refine eqField_step e3 (run_part_plain w hp (pkA_3 ..)) (run_part_plain w hp (pkA_3 ..)) (Go.run_equalIn_int w (d + 1) 3 .i64 .i64 _ _ hu) ?_
  exact eqField_step e4 (run_part_18 w _ _ _ _ p1 h1) (run_part_18 w _ _ _ _ p2 h2) (run_eq18 w d p1 p2 h1 h2) (by simp [Op.eqFields])

theorem wpList_neq_agg {P : Program} {ops : Array Oper} {rest : List Oper} {o : Oper} {a : Act} {w : World} {Q : Exit → Act → World → Prop} (hgd : o.guard = none) (t t' : TypeId) (x y : Operand) (ho : o.op = .binOp .neq t x y t')
    (xs ys : Array Value) (hx : a.eval x = .agg xs) (hy : a.eval y = .agg ys) (hm : P.eqGuardType P.depth t = false) (b : Bool) (hr : (binOp .neq t (.agg xs) (.agg ys)).run P w = .ok (.bool b) w)
    (h : wpList P ops Q rest (a.put o.dst (.bool b)) w) : wpList P ops Q (o :: rest) a w :=
  wpList_plain hgd fun _ hK => by
    have h1 := hK _ _ h
    unfold Oper.wp execOp
    simp only [ho, hx, hy, Sem.run_bind, run_eqGuard_agg w .neq t x y xs ys hm, hr, Result.andThen_ok, Sem.run_pure]
    exact h1

theorem run_neq_pk (w : World) (s1 k1 c1 l1 : Int) (p1 : List Int) (s2 k2 c2 l2 : Int) (p2 : List Int) (h1 : p1.length = 18) (h2 : p2.length = 18) :
    (binOp .neq 101 (.agg (pkA s1 k1 c1 l1 p1)) (.agg (pkA s2 k2 c2 l2 p2))).run Tryz.prog w = .ok (.bool (!(eqPk s1 k1 c1 l1 p1 s2 k2 c2 l2 p2))) w := by
  rw [run_neq_struct, run_equalIn_struct w 9999 101 _ _ (by kernel_rfl) (by kernel_rfl), eqFields_pk w 9997 s1 k1 c1 l1 p1 s2 k2 c2 l2 p2 h1 h2 _ pk_fields]
  rfl

theorem Blk.setCells {g : Nat} {t : TypeId} : ∀ (vs : List Value) (o : Nat) {w : World} {cs : Array Value}, Blk w g t cs → ∃ cs' : Array Value, Blk (w.setCells g o vs) g t cs' ∧ cs'.size = cs.size ∧ (∀ i, i < o → cs'[i]? = cs[i]?) ∧ (∀ i, o + vs.length ≤ i → cs'[i]? = cs[i]?) ∧ (∀ j, j < vs.length → o + j < cs.size → cs'[o + j]? = vs[j]?)
  | [], _, _, cs, h => ⟨cs, h, rfl, fun _ _ => rfl, fun _ _ => rfl, fun j hj => absurd hj (by simp)⟩
  | v :: r, o, w, cs, h => by
    obtain ⟨cs', hb, hs, h1, h2, h3⟩ := Blk.setCells r (o + 1) (h.set_ o v)
    refine ⟨cs', hb, by simpa using hs, fun i hi => ?_, fun i hi => ?_, fun j hj hjc => ?_⟩
    · rw [h1 i (by omega), Array.getElem?_setIfInBounds_ne (by omega)]
    · simp only [List.length_cons] at hi
      rw [h2 i (by omega), Array.getElem?_setIfInBounds_ne (by omega)]
    · cases j with
      | zero =>
        rw [Nat.add_zero, h1 o (by omega), Array.getElem?_setIfInBounds]
        simp at hjc
        simp [hjc]
      | succ j =>
        simp only [List.length_cons] at hj
        have := h3 j (by omega) (by simp; omega)
        rw [show o + (j + 1) = o + 1 + j by omega, this]
        simp
theorem _root_.Go.RowKit.Below.setCells' {B g : Nat} {w0 : World} (hg : B ≤ g) : ∀ (vs : List Value) (o : Nat) {w : World}, Below B w0 w → Below B w0 (w.setCells g o vs)
  | [], _, _, h => h
  | v :: r, o, _, h => Go.RowKit.Below.setCells' hg r (o + 1) (h.setCell (p := ⟨g, o, none⟩) hg v)

/-- A piece whose end is cleared. -/
def cutTo (m : Nat) (ps : List Int) : List Int := (List.range 18).map fun i => if i < m then ps.getD i 0 else 0
theorem cutTo_len (m : Nat) (ps : List Int) : (cutTo m ps).length = 18 := by simp [cutTo]
theorem cutTo_at (m : Nat) (ps : List Int) (i : Nat) (h : i < 18) : (cutTo m ps).getD i 0 = if i < m then ps.getD i 0 else 0 := by
  simp [cutTo, List.getD_eq_getElem?_getD, h]
theorem pkA_cut {g : Nat} {t : TypeId} {w : World} (st kd ct ln : Int) (ps : List Int) (hps : ps.length = 18) (m : Nat) (hm : m ≤ 18) (h : Blk w g t (pkA st kd ct ln ps)) :
    Blk (w.setCells g (4 + m) (List.replicate (18 - m) (.int .u8 0))) g t (pkA st kd ct ln (cutTo m ps)) := by
  obtain ⟨cs', hb, hs, h1, h2, h3⟩ := Blk.setCells (List.replicate (18 - m) (Value.int .u8 0)) (4 + m) h
  have e : cs' = pkA st kd ct ln (cutTo m ps) := by
    rw [pkA_size, hps] at hs
    apply Array.ext_getElem?
    intro i
    by_cases hi : i < 22
    · by_cases h4 : i < 4
      · rw [h1 i (by omega)]
        match i, h4 with
        | 0, _ => rw [pkA_0, pkA_0]
        | 1, _ => rw [pkA_1, pkA_1]
        | 2, _ => rw [pkA_2, pkA_2]
        | 3, _ => rw [pkA_3, pkA_3]
      · obtain ⟨j, rfl⟩ : ∃ j, i = 4 + j := ⟨i - 4, by omega⟩
        rw [pkA_4 _ _ _ _ _ j (by rw [cutTo_len]; omega), cutTo_at m ps j (by omega)]
        by_cases hj : j < m
        · rw [h1 _ (by omega), pkA_4 _ _ _ _ _ j (by omega), if_pos hj]
        · obtain ⟨l, rfl⟩ : ∃ l, j = m + l := ⟨j - m, by omega⟩
          rw [if_neg hj, show 4 + (m + l) = 4 + m + l by omega, h3 l (by simp; omega) (by rw [pkA_size, hps]; omega)]
          rw [List.getElem?_replicate, if_pos (by omega)]
    · rw [Array.getElem?_eq_none (by omega), Array.getElem?_eq_none (by rw [pkA_size, cutTo_len]; omega)]
  rw [← e]; exact hb

def packetE (st kd ct ln : Int) (ps : List Int) : Int :=
  let e := firstE [withinE st 0 255, withinE kd 0 255, withinE ct 0 65535, withinE ln 0 18]
  if e = 0 then (if eqB (List.range 18) (fun i => (cutTo ln.toNat ps).getD i 0) (fun i => ps.getD i 0) then 0 else 1) else e
theorem eqPk_cut (st kd ct ln : Int) (ps qs : List Int) : eqPk st kd ct ln ps st kd ct ln qs = eqB (List.range 18) (fun i => ps.getD i 0) (fun i => qs.getD i 0) := by
  simp [eqPk]
theorem firstE_within {st kd ct ln : Int} (h : firstE [withinE st 0 255, withinE kd 0 255, withinE ct 0 65535, withinE ln 0 18] = 0) : (0 ≤ st ∧ st ≤ 255) ∧ (0 ≤ kd ∧ kd ≤ 255) ∧ (0 ≤ ct ∧ ct ≤ 65535) ∧ (0 ≤ ln ∧ ln ≤ 18) := by
  simp only [firstE] at h
  by_cases h1 : withinE st 0 255 = 0
  · by_cases h2 : withinE kd 0 255 = 0
    · by_cases h3 : withinE ct 0 65535 = 0
      · by_cases h4 : withinE ln 0 18 = 0
        · unfold withinE at h1 h2 h3 h4
          refine ⟨?_, ?_, ?_, ?_⟩
          · split at h1 <;> omega
          · split at h2 <;> omega
          · split at h3 <;> omega
          · split at h4 <;> omega
        · simp [h1, h2, h3, h4] at h
      · simp [h1, h2, h3] at h
    · simp [h1, h2] at h
  · simp [h1] at h
end Go.Proofs.YtoipafnlcchmbaaGreatDoor
namespace Go.Proofs.YtoipafnlcchmbaaGreatDoor
open Go.RowKit

theorem within_st' (n low high : Int) (w : World) :
    Calls Tryz.prog 104 #[.int .i64 n, .int .i64 low, .int .i64 high] w fun e w' => e = .returned (.int .i64 (withinE n low high)) ∧ w' = w := within_st n low high w

theorem Blk.setCells_far {g k : Nat} {t : TypeId} {cs : Array Value} (hne : g ≠ k) : ∀ (vs : List Value) (o : Nat) {w : World}, Blk w g t cs → Blk (w.setCells k o vs) g t cs
  | [], _, _, h => h
  | v :: r, o, _, h => Blk.setCells_far hne r (o + 1) (h.far (p := ⟨k, o, none⟩) hne v)
theorem clear_piece {W : World} {g m : Nat} {st kd ct ln : Int} {ps : List Int} (h : Blk W g 101 (pkA st kd ct ln ps)) (hps : ps.length = 18) (hm : m < 18) :
    ∀ ty, (Builtin.clear_ #[106] ty #[.slice (some ⟨g, 4 + m, none⟩) (18 - m) (18 - m)]).run Tryz.prog W = .ok (.tuple #[]) (W.setCells g (4 + m) (List.replicate (18 - m) (.int .u8 0))) := fun ty => by
  exact Lib.run_clear_slice W 106 5 ty (.int .u8 0) Tryz.underlying106 (fun _ => by kernel_rfl) rfl rfl g (4 + m) (18 - m) (18 - m) (by omega)
      (fun j hj => by rw [h.cell, show 4 + m + j = 4 + (m + j) by omega, pkA_4 _ _ _ _ _ _ (by omega)]; rfl) (fun j hj => h.frozen _)

/-- A block known whole is read at once. -/
theorem Blk.loads {P : Program} {w : World} {g : Nat} {t : TypeId} {cs : Array Value} (h : Blk w g t cs) (n : Nat) (hn : cs.size = n) : (loadCellsFrom ⟨g, 0, none⟩ 0 n #[]).run P w = .ok cs w := by
  subst hn
  have := run_loadCells_list (P := P) w ⟨g, 0, none⟩ cs.toList (fun j v hv => by
    have hadd : (⟨g, 0, none⟩ : Addr).add j = ⟨g, j, none⟩ := by unfold Addr.add; split <;> simp_all
    rw [hadd, cell_of_row _ _ j cs t (0, 0) h]
    simpa using hv)
  simpa [loadCells] using this
theorem Blk.stores {P : Program} {w : World} {g : Nat} {t : TypeId} {old cs : Array Value} (h : Blk w g t old) (hs : old.size = cs.size) (h1 : cs.all (·.oneCell') = true) : (storeCells ⟨g, 0, none⟩ cs.toList 0).run P w = .ok () (w.setRow g cs) :=
  run_storeCells_from (P := P) g t cs.toList 0 old w h (by simp; omega) (fun v hv => (Array.all_eq_true_iff_forall_mem.1 h1) v (by simpa using hv))
def pkZero : Array Value := #[Value.int .i64 0, Value.int .i64 0, Value.int .i64 0, Value.int .i64 0, Value.int .u8 0, Value.int .u8 0, Value.int .u8 0, Value.int .u8 0, Value.int .u8 0, Value.int .u8 0, Value.int .u8 0, Value.int .u8 0, Value.int .u8 0, Value.int .u8 0, Value.int .u8 0, Value.int .u8 0, Value.int .u8 0, Value.int .u8 0, Value.int .u8 0, Value.int .u8 0, Value.int .u8 0, Value.int .u8 0]

set_option maxHeartbeats 1000000 in
set_option maxRecDepth 100000 in
theorem packetCheck_any (st kd ct ln : Int) (ps : List Int) (w : World) (hps : ps.length = 18) :
    Calls Tryz.prog 137 #[.agg (pkA st kd ct ln ps)] w fun e w' => e = .returned (.int .i64 (packetE st kd ct ln ps)) ∧ Below w.heap.size w w' := by
  obtain ⟨cs, hcs⟩ : ∃ cs, cs = pkA st kd ct ln ps := ⟨_, rfl⟩
  rw [← hcs]
  have HC := Lib.hid hcs
  clear hcs
  go_enter Tryz.func137, Tryz.ntmps137
  go_wp2_with fail
  obtain ⟨W0, hW0⟩ : ∃ W0, W0 = w.alloc (.cells cs 101) := ⟨_, rfl⟩
  rw [← hW0]
  have B0 : Blk W0 w.heap.size 101 cs := by rw [hW0]; exact Blk.new w _ _
  have hB : Hid (Below w.heap.size w W0) := by rw [hW0]; exact (Below.refl _ w).alloc (Nat.le_refl _) _
  have HB0 := Lib.hid B0
  have c0 := (B0.cell 0).trans (HC.out ▸ pkA_0 st kd ct ln ps)
  have c1 := (B0.cell 1).trans (HC.out ▸ pkA_1 st kd ct ln ps)
  have c2 := (B0.cell 2).trans (HC.out ▸ pkA_2 st kd ct ln ps)
  have c3 := (B0.cell 3).trans (HC.out ▸ pkA_3 st kd ct ln ps)
  clear hW0 B0
  refine wp_region_still_tail 12 (by kernel_rfl) (by kernel_rfl) ?_
  simp only [List.take_succ_cons, List.take_zero, List.drop_succ_cons, List.drop_zero]
  change wpStill _ _ (World.drew _) _ _ _
  repeat still_step
  still_call (checkStation_any _ _)
  repeat still_step
  still_call (within_st _ _ _ _)
  repeat still_step
  still_call (within_st _ _ _ _)
  repeat still_step
  still_call (within_st _ _ _ _)
  repeat still_step
  refine wpStill_nil ?_
  change wpList _ _ _ _ _ (World.drew _)
  go_wp2_with fail
  refine (first4 _ _ (withinE st 0 255) (withinE kd 0 255) (withinE ct 0 65535) (withinE ln 0 18) _ (by go_simp) (by go_simp) (by go_simp) (by go_simp)).mono ?_
  rintro e w1 ⟨rfl, rfl⟩
  obtain ⟨W1, hW1⟩ : ∃ W1, W1 = (W0.alloc (Obj.cells #[Value.int IntKind.i64 (withinE st 0 255), Value.int IntKind.i64 (withinE kd 0 255), Value.int IntKind.i64 (withinE ct 0 65535), Value.int IntKind.i64 (withinE ln 0 18)] 27)).drew := ⟨_, rfl⟩
  have B1 : Blk W1 w.heap.size 101 cs := by rw [hW1]; exact (HB0.out.alloc _).drew
  have hB1 : Hid (Below w.heap.size w W1) := by rw [hW1]; exact (hB.out.alloc hB.out.size _).drew
  rw [← hW1]
  have HB1 := Lib.hid B1
  clear hW1 B1 c0 c1 c2 c3
  obtain ⟨E, hE⟩ : ∃ E, E = firstE [withinE st 0 255, withinE kd 0 255, withinE ct 0 65535, withinE ln 0 18] := ⟨_, rfl⟩
  rw [← hE]
  have HE := Lib.hid hE
  clear hE
  by_cases he : E = 0
  · have h1 : (E != 0) = false := by simp [he]
    have HE0 := Lib.hid he
    clear he
    have hsz : cs.size = 22 := by rw [HC.out, pkA_size, hps]
    have hone : cs.all (·.oneCell') = true := by rw [HC.out]; exact pkA_one ..
    have hl := HB1.out.loads (P := Tryz.prog) 22 hsz
    have BZ : Blk (W1.alloc (.cells #[Value.int .i64 0, Value.int .i64 0, Value.int .i64 0, Value.int .i64 0, Value.int .u8 0, Value.int .u8 0, Value.int .u8 0, Value.int .u8 0, Value.int .u8 0, Value.int .u8 0, Value.int .u8 0, Value.int .u8 0, Value.int .u8 0, Value.int .u8 0, Value.int .u8 0, Value.int .u8 0, Value.int .u8 0, Value.int .u8 0, Value.int .u8 0, Value.int .u8 0, Value.int .u8 0, Value.int .u8 0] 101)) W1.heap.size 101 #[Value.int .i64 0, Value.int .i64 0, Value.int .i64 0, Value.int .i64 0, Value.int .u8 0, Value.int .u8 0, Value.int .u8 0, Value.int .u8 0, Value.int .u8 0, Value.int .u8 0, Value.int .u8 0, Value.int .u8 0, Value.int .u8 0, Value.int .u8 0, Value.int .u8 0, Value.int .u8 0, Value.int .u8 0, Value.int .u8 0, Value.int .u8 0, Value.int .u8 0, Value.int .u8 0, Value.int .u8 0] := Blk.new W1 _ _
    have hst := BZ.stores (P := Tryz.prog) (cs := cs) (by rw [hsz]; rfl) hone
    have HBZ := Lib.hid BZ
    clear BZ
    have hi : (Tryz.prog.info? 101).map (·.size) = some cs.size := by rw [hsz]; kernel_rfl
    have HI := Lib.hid hi
    have heq : Tryz.prog.eqGuardType Tryz.prog.depth 101 = false := by kernel_rfl
    clear hi
    have hl0 := hl
    clear hl
    go_upto_region 5 with (refine wpList_load_row rfl 101 _ rfl w.heap.size rfl 101 cs (0, 0) _ HB1.out Tryz.underlying101 rfl HI.out ?_)
    clear hst
    obtain ⟨W2, hW2⟩ : ∃ W2, W2 = (W1.alloc (.cells #[Value.int .i64 0, Value.int .i64 0, Value.int .i64 0, Value.int .i64 0, Value.int .u8 0, Value.int .u8 0, Value.int .u8 0, Value.int .u8 0, Value.int .u8 0, Value.int .u8 0, Value.int .u8 0, Value.int .u8 0, Value.int .u8 0, Value.int .u8 0, Value.int .u8 0, Value.int .u8 0, Value.int .u8 0, Value.int .u8 0, Value.int .u8 0, Value.int .u8 0, Value.int .u8 0, Value.int .u8 0] 101)).setRow W1.heap.size cs := ⟨_, rfl⟩
    rw [← hW2]
    have B2 : Blk W2 w.heap.size 101 cs := by rw [hW2]; exact (HB1.out.alloc _).setRow_far (by have := lt_of_block HB1.out; omega) _
    have B3 : Blk W2 W1.heap.size 101 cs := by rw [hW2]; exact HBZ.out.setRow _
    have hB2 : Hid (Below w.heap.size w W2) := by rw [hW2]; exact (hB1.out.alloc hB1.out.size _).setRow' hB1.out.size _
    clear hW2
    obtain ⟨⟨s1, s2⟩, ⟨k1, k2⟩, ⟨d1, d2⟩, ⟨l1, l2⟩⟩ := firstE_within (HE.out.symm.trans HE0.out)
    obtain ⟨m, rfl⟩ : ∃ m : Nat, ln = m := ⟨ln.toNat, by omega⟩
    have hm : m ≤ 18 := by omega
    have c3 := (B2.cell 3).trans (HC.out ▸ pkA_3 st kd ct m ps)
    obtain ⟨g, hg⟩ : ∃ g, g = W1.heap.size := ⟨_, rfl⟩
    rw [← hg] at B3 ⊢
    have hgw : w.heap.size < g := by rw [hg]; exact lt_of_block HB1.out
    have HB2 := Lib.hid B2
    have HB3 := Lib.hid B3
    clear B2 B3 hg HBZ s1 s2 k1 k2 d1 d2 l1
    rcases Nat.lt_or_ge m 18 with h18 | h18
    focus
      have hcl := clear_piece (HC.out ▸ HB3.out) hps h18
      go_upto_region 6 with (simp only [hcl])
      clear hcl
      obtain ⟨W3, hW3⟩ : ∃ W3, W3 = W2.setCells g (4 + m) (List.replicate (18 - m) (.int .u8 0)) := ⟨_, rfl⟩
      rw [← hW3]
      have B4 : Hid (Blk W3 g 101 (pkA st kd ct m (cutTo m ps))) := by rw [hW3]; exact pkA_cut st kd ct m ps hps m hm (HC.out ▸ HB3.out)
      have B5 : Hid (Blk W3 w.heap.size 101 cs) := by rw [hW3]; exact Blk.setCells_far (by omega) _ _ HB2.out
      have hB3 : Hid (Below w.heap.size w W3) := by rw [hW3]; exact Below.setCells' (by omega) _ _ hB2.out
      clear hW3
    rotate_left
    focus
      have hm18 : m = 18 := by omega
      have hcl : ∀ ty, (Builtin.clear_ #[106] ty #[.slice (some ⟨g, 4, none⟩) 0 0]).run Tryz.prog W2 = .ok (.tuple #[]) W2 := fun ty => by simp [Builtin.clear_, run_underlying Tryz.underlying106]
      go_upto_region 6 with (simp only [hcl])
      clear hcl
      obtain ⟨W3, hW3⟩ : ∃ W3, W3 = W2 := ⟨_, rfl⟩
      rw [← hW3]
      have B4 : Hid (Blk W3 g 101 (pkA st kd ct m (cutTo m ps))) := by
        have := pkA_cut st kd ct m ps hps m hm (HC.out ▸ HB3.out)
        rw [show 18 - m = 0 by omega] at this
        rw [hW3]; exact this
      have B5 : Hid (Blk W3 w.heap.size 101 cs) := by rw [hW3]; exact HB2.out
      have hB3 : Hid (Below w.heap.size w W3) := by rw [hW3]; exact hB2.out
      clear hW3 hm18
    all_goals
      have hj : Hid ((Tryz.prog.info? 101).map (·.size) = some (pkA st kd ct m (cutTo m ps)).size) := by show _ = _; rw [pkA_size, cutTo_len]; kernel_rfl
      have hnq := run_neq_pk W3 st kd ct m (cutTo m ps) st kd ct m ps (cutTo_len m ps) hps
      rw [eqPk_cut, ← HC.out] at hnq
      have HQ : Hid (packetE st kd ct m ps = if eqB (List.range 18) (fun i => (cutTo m ps).getD i 0) (fun i => ps.getD i 0) then 0 else 1) := by
        show packetE st kd ct m ps = _
        unfold packetE
        rw [← HE.out, HE0.out]; simp
      obtain ⟨q, hq⟩ : ∃ q, q = eqB (List.range 18) (fun i => (cutTo m ps).getD i 0) (fun i => ps.getD i 0) := ⟨_, rfl⟩
      obtain ⟨ds, hds⟩ : ∃ ds, ds = pkA st kd ct m (cutTo m ps) := ⟨_, rfl⟩
      rw [← hq] at hnq HQ
      rw [← hds] at hnq hj B4
      have hnq := Lib.hid hnq
      clear hq hds
      go_upto_if 29 with (first
        | (refine wpList_load_row rfl 101 _ rfl g rfl 101 ds (0, 0) _ B4.out Tryz.underlying101 rfl hj.out ?_)
        | (refine wpList_load_row rfl 101 _ rfl w.heap.size rfl 101 cs (0, 0) _ B5.out Tryz.underlying101 rfl HI.out ?_)
        | (refine wpList_neq_agg rfl 101 101 _ _ rfl ds cs rfl rfl heq (!q) hnq.out ?_))
      cases q
      · go_wp2
        go_ret
        exact ⟨ret_int (by rw [HQ.out]; rfl), hB3.out⟩
      · go_wp2
        go_ret
        exact ⟨ret_int (by rw [HQ.out]; rfl), hB3.out⟩
  · have h1 : (E != 0) = true := by simp [he]
    have HE0 := Lib.hid he
    clear he
    go_wp2
    go_ret
    exact ⟨ret_int (by unfold packetE; rw [← HE.out]; simp [HE0.out]), hB1.out⟩
end Go.Proofs.YtoipafnlcchmbaaGreatDoor
namespace Go.Proofs.YtoipafnlcchmbaaGreatDoor
open Go.RowKit

structure Pk where
  st : Int
  kd : Int
  ct : Int
  ln : Int
  ps : List Int
def Pk.none : Pk := ⟨0, 0, 0, 0, []⟩
def Pk.cells (p : Pk) : Array Value := pkA p.st p.kd p.ct p.ln p.ps
def Pk.err (p : Pk) : Int := packetE p.st p.kd p.ct p.ln p.ps

theorem wpList_load_midA {P : Program} {ops : Array Oper} {rest : List Oper} {op : Oper} {a : Act} {w : World} {Q : Exit → Act → World → Prop} (hgd : op.guard = none) (ty : TypeId) (x : Operand) (ho : op.op = .load ty x)
    (b o : Nat) (hx : a.eval x = .pointer (some ⟨b, o, none⟩)) (cs : Array Value) (d : TypeDesc) (hc : ∀ j, j < cs.size → w.cell? ⟨b, o + j, none⟩ = cs[j]?)
    (hu : P.underlying ty = some d) (hd : d.isRow = true) (hi : (P.info? ty).map (·.size) = some cs.size)
    (h : wpList P ops Q rest (a.put op.dst (.agg cs)) w) : wpList P ops Q (op :: rest) a w :=
  wpList_load_mid hgd ty x ho b o hx cs.toList d (fun j v hv => by
    have hj : j < cs.size := by have := (List.getElem?_eq_some_iff.1 hv).1; simpa using this
    rw [hc j hj, ← hv]; simp) hu hd (by simpa using hi) (by simpa using h)

/-- A slice of packets reads as a list. -/
def PksAt (w : World) (A : Option Addr) (n : Nat) (l : List Pk) : Prop :=
  l.length = n ∧ (∀ i, i < n → (l.getD i Pk.none).ps.length = 18) ∧ (0 < n → ∃ b off, A = some ⟨b, off, none⟩ ∧ ∀ i, i < n → ∀ j, j < 22 → w.cell? ⟨b, off + i * 22 + j, none⟩ = (l.getD i Pk.none).cells[j]?)
theorem Pk.size {p : Pk} (h : p.ps.length = 18) : p.cells.size = 22 := by unfold Pk.cells; rw [pkA_size, h]
theorem PksAt.keep {w w' : World} {A : Option Addr} {n : Nat} {l : List Pk} (h : PksAt w A n l) (hb : Below w.heap.size w w') : PksAt w' A n l := by
  refine ⟨h.1, h.2.1, fun hn => ?_⟩
  obtain ⟨b, off, rfl, hc⟩ := h.2.2 hn
  refine ⟨b, off, rfl, fun i hi j hj => ?_⟩
  have h1 := hc i hi j hj
  have h2 : (l.getD i Pk.none).cells[j]? = some ((l.getD i Pk.none).cells[j]'(by rw [Pk.size (h.2.1 i hi)]; exact hj)) := Array.getElem?_eq_getElem _
  rw [hb.cell (p := ⟨b, off + i * 22 + j, none⟩) (World.block_lt_of_cell? _ _ (h1.trans h2))]
  exact h1

theorem packetCheck_pk (p : Pk) (cs : Array Value) (w : World) (hcs : cs = p.cells) (hps : p.ps.length = 18) :
    Calls Tryz.prog 137 #[.agg cs] w fun e w' => e = .returned (.int .i64 p.err) ∧ Below w.heap.size w w' := by
  rw [hcs]; exact packetCheck_any p.st p.kd p.ct p.ln p.ps w hps

def firstInP (l : List Pk) : Int := firstE (l.map Pk.err)
theorem getD_mapP (f : Pk → Int) (zs : List Pk) (i : Nat) (h : i < zs.length) : (zs.map f).getD i 0 = f (zs.getD i Pk.none) := by
  simp [List.getD_eq_getElem?_getD, List.getElem?_eq_getElem h]
theorem firstInP_hit (zs : List Pk) (k : Nat) (hk : k < zs.length) (hz : ∀ i, i < k → (zs.getD i Pk.none).err = 0) (h : (zs.getD k Pk.none).err ≠ 0) : firstInP zs = (zs.getD k Pk.none).err := by
  unfold firstInP
  rw [firstE_hit (zs.map Pk.err) k (by simpa using hk) (fun i hi => by rw [getD_mapP Pk.err zs i (by omega)]; exact hz i hi) (by rw [getD_mapP Pk.err zs k hk]; exact h), getD_mapP Pk.err zs k hk]
theorem firstInP_miss (zs : List Pk) (hz : ∀ i, i < zs.length → (zs.getD i Pk.none).err = 0) : firstInP zs = 0 := by
  unfold firstInP
  refine firstE_miss _ (fun i hi => ?_)
  rw [List.length_map] at hi
  rw [getD_mapP Pk.err zs i hi]; exact hz i hi
theorem firstInP_zero (zs : List Pk) (h : firstInP zs = 0) : ∀ i, i < zs.length → (zs.getD i Pk.none).err = 0 := by
  intro i hi
  induction zs generalizing i with
  | nil => simp at hi
  | cons z l ih =>
    have hz : z.err = 0 := by
      by_cases hz : z.err = 0
      · exact hz
      · simp [firstInP, firstE, hz] at h
    have hl : firstInP l = 0 := by simpa [firstInP, firstE, hz] using h
    cases i with
    | zero => simpa using hz
    | succ i => simpa using ih hl i (by simpa using hi)

set_option maxHeartbeats 1000000 in
set_option maxRecDepth 100000 in
theorem firstIn_packet (A : Option Addr) (n c : Nat) (hs : List Pk) (w : World) (hn : n ≤ 1000000000000) (hz : PksAt w A n hs) :
    Calls Tryz.prog 142 #[.slice A n c, .func (.func 137) #[] #[]] w fun e w' => e = .returned (.int .i64 (firstInP hs)) ∧ Below w.heap.size w w' := by
  have HZ := Lib.hid hz
  clear hz
  go_enter Tryz.func142, Tryz.ntmps142
  go_wp2
  go_loopw [7, 10] (fun _ i wr => ∃ k : Nat, k ≤ n ∧ i = .int .i64 k ∧ Hid (∀ i, i < k → (hs.getD i Pk.none).err = 0) ∧ Below w.heap.size w wr) (fun _ i _ => n - (intOf i).toNat)
  case atStart => exact ⟨0, Nat.zero_le _, rfl, fun i hi => by omega, Below.refl _ _⟩
  case round =>
    obtain ⟨k, hk, rfl, hz, hb⟩ := hrel
    have HB := Lib.hid hb
    by_cases hlt : k < n
    · obtain ⟨b, off, rfl, hcc⟩ := (HZ.out.keep hb).2.2 (by omega)
      clear hb
      obtain ⟨p, hp⟩ : ∃ p, p = hs.getD k Pk.none := ⟨_, rfl⟩
      have hps := HZ.out.2.1 k hlt
      have c1 := hcc k hlt
      rw [← hp] at c1 hps
      have HP := Lib.hid hp
      obtain ⟨cs, hcs⟩ : ∃ cs, cs = p.cells := ⟨_, rfl⟩
      have hsz : Hid (cs.size = 22) := by rw [hcs]; exact Pk.size hps
      have hone : Hid (cs.all (·.oneCell') = true) := by rw [hcs]; exact pkA_one ..
      have C1 : Hid (∀ j, j < cs.size → wr.cell? ⟨b, off + k * 22 + j, none⟩ = cs[j]?) := by
        show ∀ j, _ → _
        rw [hsz.out, hcs]; exact c1
      have HCS := Lib.hid hcs
      have hi : Hid ((Tryz.prog.info? 101).map (·.size) = some cs.size) := by show _ = _; rw [hsz.out]; kernel_rfl
      have BZ : Hid (Blk (wr.alloc (.cells #[Value.int .i64 0, Value.int .i64 0, Value.int .i64 0, Value.int .i64 0, Value.int .u8 0, Value.int .u8 0, Value.int .u8 0, Value.int .u8 0, Value.int .u8 0, Value.int .u8 0, Value.int .u8 0, Value.int .u8 0, Value.int .u8 0, Value.int .u8 0, Value.int .u8 0, Value.int .u8 0, Value.int .u8 0, Value.int .u8 0, Value.int .u8 0, Value.int .u8 0, Value.int .u8 0, Value.int .u8 0] 101)) wr.heap.size 101 #[Value.int .i64 0, Value.int .i64 0, Value.int .i64 0, Value.int .i64 0, Value.int .u8 0, Value.int .u8 0, Value.int .u8 0, Value.int .u8 0, Value.int .u8 0, Value.int .u8 0, Value.int .u8 0, Value.int .u8 0, Value.int .u8 0, Value.int .u8 0, Value.int .u8 0, Value.int .u8 0, Value.int .u8 0, Value.int .u8 0, Value.int .u8 0, Value.int .u8 0, Value.int .u8 0, Value.int .u8 0]) := Blk.new wr _ _
      have B3 : Hid (Blk ((wr.alloc (.cells #[Value.int .i64 0, Value.int .i64 0, Value.int .i64 0, Value.int .i64 0, Value.int .u8 0, Value.int .u8 0, Value.int .u8 0, Value.int .u8 0, Value.int .u8 0, Value.int .u8 0, Value.int .u8 0, Value.int .u8 0, Value.int .u8 0, Value.int .u8 0, Value.int .u8 0, Value.int .u8 0, Value.int .u8 0, Value.int .u8 0, Value.int .u8 0, Value.int .u8 0, Value.int .u8 0, Value.int .u8 0] 101)).setRow wr.heap.size cs) wr.heap.size 101 cs) := BZ.out.setRow _
      have ho : Hid ((#[Value.int .i64 0, Value.int .i64 0, Value.int .i64 0, Value.int .i64 0, Value.int .u8 0, Value.int .u8 0, Value.int .u8 0, Value.int .u8 0, Value.int .u8 0, Value.int .u8 0, Value.int .u8 0, Value.int .u8 0, Value.int .u8 0, Value.int .u8 0, Value.int .u8 0, Value.int .u8 0, Value.int .u8 0, Value.int .u8 0, Value.int .u8 0, Value.int .u8 0, Value.int .u8 0, Value.int .u8 0] : Array Value).size = cs.size) := by show _ = _; rw [hsz.out]; rfl
      have hBB : Hid (Below w.heap.size w ((wr.alloc (.cells #[Value.int .i64 0, Value.int .i64 0, Value.int .i64 0, Value.int .i64 0, Value.int .u8 0, Value.int .u8 0, Value.int .u8 0, Value.int .u8 0, Value.int .u8 0, Value.int .u8 0, Value.int .u8 0, Value.int .u8 0, Value.int .u8 0, Value.int .u8 0, Value.int .u8 0, Value.int .u8 0, Value.int .u8 0, Value.int .u8 0, Value.int .u8 0, Value.int .u8 0, Value.int .u8 0, Value.int .u8 0] 101)).setRow wr.heap.size cs)) := (HB.out.alloc HB.out.size _).setRow' HB.out.size _
      clear hcc hp c1 hcs
      go_wp2_with (first
        | (refine wpList_load_midA rfl 101 _ rfl b (off + k * 22) rfl cs _ C1.out Tryz.underlying101 rfl hi.out ?_)
        | (refine wpList_store_row rfl 101 _ _ rfl wr.heap.size cs rfl rfl 101 _ BZ.out hi.out ho.out hone.out ?_)
        | (refine wpList_load_row rfl 101 _ rfl wr.heap.size rfl 101 cs (0, 0) _ B3.out Tryz.underlying101 rfl hi.out ?_))
      refine (packetCheck_pk p cs _ HCS.out hps).mono ?_
      rintro x w1 ⟨rfl, hb1⟩
      have HB1 : Hid (Below w.heap.size w w1) := hBB.out.trans (hb1.mono hBB.out.size)
      clear hb1 BZ B3 C1
      obtain ⟨y, hy⟩ : ∃ y, y = p.err := ⟨_, rfl⟩
      rw [← hy]
      have HY := Lib.hid hy
      clear hy
      by_cases he : y = 0
      · have h1 : (y != 0) = false := by simp [he]
        have HE := Lib.hid he
        clear he
        go_wp2
        go_roundw
        case rel =>
          refine ⟨k + 1, by omega, by go_num, fun i hi => ?_, HB1.out⟩
          by_cases hik : i < k
          · exact hz.out i hik
          · obtain rfl : i = k := by omega
            rw [← HP.out, ← HY.out]; exact HE.out
        case measure => simp [intOf]; omega
      · have h1 : (y != 0) = true := by simp [he]
        have HE := Lib.hid he
        clear he
        go_wp2
        go_ret
        exact ⟨ret_int (by rw [firstInP_hit hs k (by rw [HZ.out.1]; exact hlt) hz.out (by rw [← HP.out, ← HY.out]; exact HE.out), ← HP.out]; exact HY.out), HB1.out⟩
    · clear hb
      go_wp2
      go_ret
      exact ⟨ret_int (firstInP_miss hs (fun i hi => hz.out i (by rw [HZ.out.1] at hi; omega))).symm, HB.out⟩

theorem atMost_packet (A : Option Addr) (n c : Nat) (limit : Int) (w : World) :
    Calls Tryz.prog 141 #[.slice A n c, .int .i64 limit] w fun e w' => e = .returned (.int .i64 (atMostE n limit)) ∧ w = w' := by
  by_cases h : limit < (n : Int)
  · have hr : atMostE n limit = 5 := by simp [atMostE, h]
    rw [hr]; clear hr
    go_enter Tryz.func141, Tryz.ntmps141
    go_wp2
    go_ret
    exact ⟨rfl, rfl⟩
  · have hr : atMostE n limit = 0 := by simp [atMostE, h]
    rw [hr]; clear hr
    go_enter Tryz.func141, Tryz.ntmps141
    go_wp2
    go_ret
    exact ⟨rfl, rfl⟩
end Go.Proofs.YtoipafnlcchmbaaGreatDoor
namespace Go.Proofs.YtoipafnlcchmbaaGreatDoor
open Go.RowKit

theorem size_alloc1 (w : World) (o : Obj) : (w.alloc o).heap.size = w.heap.size + 1 := by simp

def bytesA (bs : List Int) : Array Value := (bs.map (Value.int .u8)).toArray
theorem bytesA_at (bs : List Int) (i : Nat) (h : i < bs.length) : (bytesA bs)[i]? = some (.int .u8 (bs.getD i 0)) := by
  simp [bytesA, List.getD_eq_getElem?_getD, h]
theorem bytesA_size (bs : List Int) : (bytesA bs).size = bs.length := by simp [bytesA]
theorem bytesA_one (bs : List Int) : (bytesA bs).all (·.oneCell') = true := by simp [bytesA, Value.oneCell']
def AllB (bs : List Int) : Prop := ∀ i, i < bs.length → 0 ≤ bs.getD i 0 ∧ bs.getD i 0 ≤ 255
def sealL (ks bs : List Int) : List Int := (List.range 8).map fun i => sealAt i (ks.getD i 0) bs
theorem sealL_len (ks bs : List Int) : (sealL ks bs).length = 8 := by simp [sealL]
theorem seal_list (ks : List Int) (A : Option Addr) (n c : Nat) (bs : List Int) (w : World) (hn : n ≤ 140737488351232) (hk : ks.length = 8) (hb : AllB ks) (hz : BytesAt w A n bs) :
    Calls Tryz.prog 138 #[.agg (bytesA ks), .slice A n c] w fun e w' => e = .returned (.agg (bytesA (sealL ks bs))) ∧ Below w.heap.size w w' := by
  match ks, hk with
  | [k0, k1, k2, k3, k4, k5, k6, k7], _ => exact seal_any k0 k1 k2 k3 k4 k5 k6 k7 A n c bs w hn (fun i hi => hb i (by simpa using hi)) hz
theorem sealL_all (ks bs : List Int) (hk : ks.length = 8) (hb : AllB ks) : AllB (sealL ks bs) := by
  intro i hi
  rw [sealL_len] at hi
  have : (sealL ks bs).getD i 0 = sealAt i (ks.getD i 0) bs := by simp [sealL, List.getD_eq_getElem?_getD, hi]
  rw [this]
  exact sealTo_bd _ _ _ (hb i (by omega)) bs

/-- The bytes of a frame before its seal. -/
def bodyL (p : Pk) : List Int := [93, p.st, p.kd, p.ct % 256, p.ct / 256, p.ln] ++ p.ps
def frameL (ks : List Int) (p : Pk) : List Int := bodyL p ++ sealL ks (bodyL p)
def encodeA (ks : List Int) (p : Pk) : Array Value := bytesA (if p.err = 0 then frameL ks p else List.replicate 32 0)
theorem encodeA_ok (ks : List Int) (p : Pk) (h : p.err = 0) : encodeA ks p = bytesA (frameL ks p) := by unfold encodeA; rw [if_pos h]
theorem encodeA_bad (ks : List Int) (p : Pk) (h : p.err ≠ 0) : encodeA ks p = bytesA (List.replicate 32 0) := by unfold encodeA; rw [if_neg h]
theorem ret_agg2 {a b : Array Value} {x y : Int} (h : a = b) (h2 : x = y) : Ending.returned (.tuple #[.agg a, .int .i64 x]) = .returned (.tuple #[.agg b, .int .i64 y]) := by rw [h, h2]

theorem splice_body (a b c d e : Int) (ps : List Int) (h : ps.length = 18) :
    (splice (([93, a, b, c, d, e] ++ List.replicate 26 0).map (Value.int .u8)) 6 (ps.map (Value.int .u8))).toArray = bytesA ([93, a, b, c, d, e] ++ ps ++ List.replicate 8 0) := by
  unfold splice bytesA
  rw [List.length_map, h]
  simp [List.replicate]
theorem splice_seal (b s : List Int) (h : b.length = 24) (hs : s.length = 8) :
    (splice ((b ++ List.replicate 8 0).map (Value.int .u8)) 24 (s.map (Value.int .u8))).toArray = bytesA (b ++ s) := by
  unfold splice bytesA
  rw [List.length_map, hs]
  simp [List.drop_append, h]
theorem packetE_bd (p : Pk) (h : p.err = 0) : (0 ≤ p.st ∧ p.st ≤ 255) ∧ (0 ≤ p.kd ∧ p.kd ≤ 255) ∧ (0 ≤ p.ct ∧ p.ct ≤ 65535) ∧ (0 ≤ p.ln ∧ p.ln ≤ 18) := by
  unfold Pk.err packetE at h
  by_cases h0 : firstE [withinE p.st 0 255, withinE p.kd 0 255, withinE p.ct 0 65535, withinE p.ln 0 18] = 0
  · exact firstE_within h0
  · simp [h0] at h

theorem bodyL_bd (p : Pk) (hps : p.ps.length = 18) (hpb : AllB p.ps) (h : p.err = 0) : ∀ i, i < 24 → 0 ≤ (bodyL p).getD i 0 ∧ (bodyL p).getD i 0 ≤ 255 := by
  obtain ⟨⟨s1, s2⟩, ⟨k1, k2⟩, ⟨d1, d2⟩, ⟨l1, l2⟩⟩ := packetE_bd p h
  intro i hi
  match i, hi with
  | 0, _ => exact ⟨show (0:Int) ≤ 93 by decide, show (93:Int) ≤ 255 by decide⟩
  | 1, _ => exact ⟨s1, s2⟩
  | 2, _ => exact ⟨k1, k2⟩
  | 3, _ => exact ⟨show 0 ≤ p.ct % 256 by omega, show p.ct % 256 ≤ 255 by omega⟩
  | 4, _ => exact ⟨show 0 ≤ p.ct / 256 by omega, show p.ct / 256 ≤ 255 by omega⟩
  | 5, _ => exact ⟨l1, show p.ln ≤ 255 by omega⟩
  | j + 6, hj =>
    have := hpb j (by omega)
    have e : (bodyL p).getD (j + 6) 0 = p.ps.getD j 0 := by simp [bodyL, List.getD_eq_getElem?_getD]
    rw [e]; exact this

theorem encode_end1 {w w3 w4 : World} {g r : Nat} {X Y : Array Value} (hgs : g < w3.heap.size) (D7 : Blk w3 g 98 X) (E2 : Blk w3 r 98 Y) (hE : Below w.heap.size w w3) (G4 : Below w3.drew.heap.size w3.drew w4) (S : Array Value) :
    Blk (w4.alloc (.cells S 94)) w4.heap.size 94 S ∧ Blk (w4.alloc (.cells S 94)) g 98 X ∧ Blk (w4.alloc (.cells S 94)) r 98 Y ∧ Below w.heap.size w (w4.alloc (.cells S 94)) ∧ g < w4.heap.size := by
  have s1 : w3.heap.size ≤ w4.heap.size := G4.size
  have b : Below w.heap.size w w4 := hE.drew.trans (G4.mono hE.size)
  exact ⟨Blk.new w4 _ _, (D7.drew.below G4).alloc _, (E2.drew.below G4).alloc _, b.alloc b.size _, by omega⟩
theorem encode_end2 {w w3 w4 : World} {g r : Nat} {X Y : Array Value} (hgs : g < w3.heap.size) (D7 : Blk w3 g 98 X) (E2 : Blk w3 r 98 Y) (hE : Below w.heap.size w w3)
    {z : Array Value} (G4 : Below (w3.alloc (.cells z 94)).drew.heap.size (w3.alloc (.cells z 94)).drew w4) {z0 z1 z2 z3 z4 z5 z6 z7 : Value} (hz : Blk w4 w3.heap.size 94 #[z0, z1, z2, z3, z4, z5, z6, z7]) (a0 a1 a2 a3 a4 a5 a6 a7 : Value) :
    Blk ((((((((w4.setCell ⟨w3.heap.size, 0, none⟩ a0).setCell ⟨w3.heap.size, 1, none⟩ a1).setCell ⟨w3.heap.size, 2, none⟩ a2).setCell ⟨w3.heap.size, 3, none⟩ a3).setCell ⟨w3.heap.size, 4, none⟩ a4).setCell ⟨w3.heap.size, 5, none⟩ a5).setCell ⟨w3.heap.size, 6, none⟩ a6).setCell ⟨w3.heap.size, 7, none⟩ a7) w3.heap.size 94 #[a0, a1, a2, a3, a4, a5, a6, a7] ∧
    Blk ((((((((w4.setCell ⟨w3.heap.size, 0, none⟩ a0).setCell ⟨w3.heap.size, 1, none⟩ a1).setCell ⟨w3.heap.size, 2, none⟩ a2).setCell ⟨w3.heap.size, 3, none⟩ a3).setCell ⟨w3.heap.size, 4, none⟩ a4).setCell ⟨w3.heap.size, 5, none⟩ a5).setCell ⟨w3.heap.size, 6, none⟩ a6).setCell ⟨w3.heap.size, 7, none⟩ a7) g 98 X ∧
    Blk ((((((((w4.setCell ⟨w3.heap.size, 0, none⟩ a0).setCell ⟨w3.heap.size, 1, none⟩ a1).setCell ⟨w3.heap.size, 2, none⟩ a2).setCell ⟨w3.heap.size, 3, none⟩ a3).setCell ⟨w3.heap.size, 4, none⟩ a4).setCell ⟨w3.heap.size, 5, none⟩ a5).setCell ⟨w3.heap.size, 6, none⟩ a6).setCell ⟨w3.heap.size, 7, none⟩ a7) r 98 Y ∧
    Below w.heap.size w ((((((((w4.setCell ⟨w3.heap.size, 0, none⟩ a0).setCell ⟨w3.heap.size, 1, none⟩ a1).setCell ⟨w3.heap.size, 2, none⟩ a2).setCell ⟨w3.heap.size, 3, none⟩ a3).setCell ⟨w3.heap.size, 4, none⟩ a4).setCell ⟨w3.heap.size, 5, none⟩ a5).setCell ⟨w3.heap.size, 6, none⟩ a6).setCell ⟨w3.heap.size, 7, none⟩ a7) ∧ g < w3.heap.size := by
  have hr : r < w3.heap.size := lt_of_block E2
  have b : Below w.heap.size w w4 := ((hE.alloc hE.size _).drew).trans (G4.mono (by have := hE.size; simp; omega))
  have d7 := (D7.alloc (.cells z 94)).drew.below G4
  have e2 := (E2.alloc (.cells z 94)).drew.below G4
  have hg : g ≠ w3.heap.size := by omega
  have hr' : r ≠ w3.heap.size := by omega
  exact ⟨hz.set8 a0 a1 a2 a3 a4 a5 a6 a7, (((((((d7.far (p := ⟨w3.heap.size, 0, none⟩) hg _).far (p := ⟨w3.heap.size, 1, none⟩) hg _).far (p := ⟨w3.heap.size, 2, none⟩) hg _).far (p := ⟨w3.heap.size, 3, none⟩) hg _).far (p := ⟨w3.heap.size, 4, none⟩) hg _).far (p := ⟨w3.heap.size, 5, none⟩) hg _).far (p := ⟨w3.heap.size, 6, none⟩) hg _).far (p := ⟨w3.heap.size, 7, none⟩) hg _,
    (((((((e2.far (p := ⟨w3.heap.size, 0, none⟩) hr' _).far (p := ⟨w3.heap.size, 1, none⟩) hr' _).far (p := ⟨w3.heap.size, 2, none⟩) hr' _).far (p := ⟨w3.heap.size, 3, none⟩) hr' _).far (p := ⟨w3.heap.size, 4, none⟩) hr' _).far (p := ⟨w3.heap.size, 5, none⟩) hr' _).far (p := ⟨w3.heap.size, 6, none⟩) hr' _).far (p := ⟨w3.heap.size, 7, none⟩) hr' _,
    below_set8 b hE.size a0 a1 a2 a3 a4 a5 a6 a7, hgs⟩

set_option maxHeartbeats 6000000 in
set_option maxRecDepth 100000 in
theorem Encode_any (ks : List Int) (p : Pk) (w : World) (hk : ks.length = 8) (hb : AllB ks) (hps : p.ps.length = 18) (hpb : AllB p.ps) :
    Calls Tryz.prog 67 #[.agg (bytesA ks), .agg p.cells] w fun e w' => e = .returned (.tuple #[.agg (encodeA ks p), .int .i64 p.err]) ∧ Below w.heap.size w w' := by
  obtain ⟨ka, hka⟩ : ∃ ka, ka = bytesA ks := ⟨_, rfl⟩
  obtain ⟨pa, hpa⟩ : ∃ pa, pa = p.cells := ⟨_, rfl⟩
  rw [← hka, ← hpa]
  have HKA := Lib.hid hka
  have HPA := Lib.hid hpa
  clear hka hpa
  go_enter Tryz.func67, Tryz.ntmps67
  go_upto_region 1 with fail
  obtain ⟨W0, hW0⟩ : ∃ W0, W0 = ((w.alloc (.cells ka 94)).alloc (.cells pa 101)).alloc (.cells #[Value.int .u8 0, Value.int .u8 0, Value.int .u8 0, Value.int .u8 0, Value.int .u8 0, Value.int .u8 0, Value.int .u8 0, Value.int .u8 0, Value.int .u8 0, Value.int .u8 0, Value.int .u8 0, Value.int .u8 0, Value.int .u8 0, Value.int .u8 0, Value.int .u8 0, Value.int .u8 0, Value.int .u8 0, Value.int .u8 0, Value.int .u8 0, Value.int .u8 0, Value.int .u8 0, Value.int .u8 0, Value.int .u8 0, Value.int .u8 0, Value.int .u8 0, Value.int .u8 0, Value.int .u8 0, Value.int .u8 0, Value.int .u8 0, Value.int .u8 0, Value.int .u8 0, Value.int .u8 0] 98) := ⟨_, rfl⟩
  rw [← hW0]
  have B0 : Hid (Blk W0 w.heap.size 94 ka) := by rw [hW0]; exact ((Blk.new w _ _).alloc _).alloc _
  have B1 : Hid (Blk W0 (w.heap.size + 1) 101 pa) := by rw [hW0]; have := (Blk.new (w.alloc (.cells ka 94)) 101 pa).alloc (.cells #[Value.int .u8 0, Value.int .u8 0, Value.int .u8 0, Value.int .u8 0, Value.int .u8 0, Value.int .u8 0, Value.int .u8 0, Value.int .u8 0, Value.int .u8 0, Value.int .u8 0, Value.int .u8 0, Value.int .u8 0, Value.int .u8 0, Value.int .u8 0, Value.int .u8 0, Value.int .u8 0, Value.int .u8 0, Value.int .u8 0, Value.int .u8 0, Value.int .u8 0, Value.int .u8 0, Value.int .u8 0, Value.int .u8 0, Value.int .u8 0, Value.int .u8 0, Value.int .u8 0, Value.int .u8 0, Value.int .u8 0, Value.int .u8 0, Value.int .u8 0, Value.int .u8 0, Value.int .u8 0] 98); rw [size_alloc1] at this; exact this
  have B2 : Hid (Blk W0 (w.heap.size + 1 + 1) 98 #[Value.int .u8 0, Value.int .u8 0, Value.int .u8 0, Value.int .u8 0, Value.int .u8 0, Value.int .u8 0, Value.int .u8 0, Value.int .u8 0, Value.int .u8 0, Value.int .u8 0, Value.int .u8 0, Value.int .u8 0, Value.int .u8 0, Value.int .u8 0, Value.int .u8 0, Value.int .u8 0, Value.int .u8 0, Value.int .u8 0, Value.int .u8 0, Value.int .u8 0, Value.int .u8 0, Value.int .u8 0, Value.int .u8 0, Value.int .u8 0, Value.int .u8 0, Value.int .u8 0, Value.int .u8 0, Value.int .u8 0, Value.int .u8 0, Value.int .u8 0, Value.int .u8 0, Value.int .u8 0]) := by rw [hW0]; have := Blk.new ((w.alloc (.cells ka 94)).alloc (.cells pa 101)) 98 #[Value.int .u8 0, Value.int .u8 0, Value.int .u8 0, Value.int .u8 0, Value.int .u8 0, Value.int .u8 0, Value.int .u8 0, Value.int .u8 0, Value.int .u8 0, Value.int .u8 0, Value.int .u8 0, Value.int .u8 0, Value.int .u8 0, Value.int .u8 0, Value.int .u8 0, Value.int .u8 0, Value.int .u8 0, Value.int .u8 0, Value.int .u8 0, Value.int .u8 0, Value.int .u8 0, Value.int .u8 0, Value.int .u8 0, Value.int .u8 0, Value.int .u8 0, Value.int .u8 0, Value.int .u8 0, Value.int .u8 0, Value.int .u8 0, Value.int .u8 0, Value.int .u8 0, Value.int .u8 0]; rw [size_alloc1, size_alloc1] at this; exact this
  have hB : Hid (Below w.heap.size w W0) := by rw [hW0]; exact (((Below.refl _ w).alloc (Nat.le_refl _) _).alloc (by rw [size_alloc1]; omega) _).alloc (by rw [size_alloc1, size_alloc1]; omega) _
  clear hW0
  have psz : Hid (pa.size = 22) := by rw [HPA.out]; exact Pk.size hps
  have ip : Hid ((Tryz.prog.info? 101).map (·.size) = some pa.size) := by show _ = _; rw [psz.out]; kernel_rfl
  go_wp2_with (refine wpList_load_row rfl 101 _ rfl (w.heap.size + 1) rfl 101 pa (0, 0) _ B1.out Tryz.underlying101 rfl ip.out ?_)
  refine (packetCheck_pk p pa _ HPA.out hps).mono ?_
  rintro e w1 ⟨rfl, hb1⟩
  have C0 : Hid (Blk w1 w.heap.size 94 ka) := B0.out.below hb1
  have C1 : Hid (Blk w1 (w.heap.size + 1) 101 pa) := B1.out.below hb1
  have C2 : Hid (Blk w1 (w.heap.size + 1 + 1) 98 #[Value.int .u8 0, Value.int .u8 0, Value.int .u8 0, Value.int .u8 0, Value.int .u8 0, Value.int .u8 0, Value.int .u8 0, Value.int .u8 0, Value.int .u8 0, Value.int .u8 0, Value.int .u8 0, Value.int .u8 0, Value.int .u8 0, Value.int .u8 0, Value.int .u8 0, Value.int .u8 0, Value.int .u8 0, Value.int .u8 0, Value.int .u8 0, Value.int .u8 0, Value.int .u8 0, Value.int .u8 0, Value.int .u8 0, Value.int .u8 0, Value.int .u8 0, Value.int .u8 0, Value.int .u8 0, Value.int .u8 0, Value.int .u8 0, Value.int .u8 0, Value.int .u8 0, Value.int .u8 0]) := B2.out.below hb1
  have hC : Hid (Below w.heap.size w w1) := hB.out.trans (hb1.mono hB.out.size)
  clear hb1 B0 B1 B2
  obtain ⟨e, he⟩ : ∃ e, e = p.err := ⟨_, rfl⟩
  rw [← he]
  have HE := Lib.hid he
  clear he
  by_cases he : e = 0
  · have h1 : (e != 0) = false := by simp [he]
    have HE0 := Lib.hid he
    clear he
    go_upto_region 4 with fail
    obtain ⟨⟨s1, s2⟩, ⟨k1, k2⟩, ⟨d1, d2⟩, ⟨l1, l2⟩⟩ := packetE_bd p (HE.out.symm.trans HE0.out)
    obtain ⟨st, hst⟩ : ∃ st, st = p.st := ⟨_, rfl⟩
    obtain ⟨kd, hkd⟩ : ∃ kd, kd = p.kd := ⟨_, rfl⟩
    obtain ⟨ct, hct⟩ : ∃ ct, ct = p.ct := ⟨_, rfl⟩
    obtain ⟨ln, hln⟩ : ∃ ln, ln = p.ln := ⟨_, rfl⟩
    have c0 : w1.cell? ⟨w.heap.size + 1, 0, none⟩ = some (.int .i64 p.st) := by rw [C1.out.cell 0, HPA.out]; exact pkA_0 p.st p.kd p.ct p.ln p.ps
    have c1 : w1.cell? ⟨w.heap.size + 1, 1, none⟩ = some (.int .i64 p.kd) := by rw [C1.out.cell 1, HPA.out]; exact pkA_1 p.st p.kd p.ct p.ln p.ps
    have c2 : w1.cell? ⟨w.heap.size + 1, 2, none⟩ = some (.int .i64 p.ct) := by rw [C1.out.cell 2, HPA.out]; exact pkA_2 p.st p.kd p.ct p.ln p.ps
    have c3 : w1.cell? ⟨w.heap.size + 1, 3, none⟩ = some (.int .i64 p.ln) := by rw [C1.out.cell 3, HPA.out]; exact pkA_3 p.st p.kd p.ct p.ln p.ps
    rw [← hst] at c0 s1 s2
    rw [← hkd] at c1 k1 k2
    rw [← hct] at c2 d1 d2
    rw [← hln] at c3 l1 l2
    have H1 := Lib.hid hst
    have H2 := Lib.hid hkd
    have H3 := Lib.hid hct
    have H4 := Lib.hid hln
    clear hst hkd hct hln
    have BZ : Hid (Blk (w1.alloc (.cells #[Value.int .u8 0, Value.int .u8 0, Value.int .u8 0, Value.int .u8 0, Value.int .u8 0, Value.int .u8 0, Value.int .u8 0, Value.int .u8 0, Value.int .u8 0, Value.int .u8 0, Value.int .u8 0, Value.int .u8 0, Value.int .u8 0, Value.int .u8 0, Value.int .u8 0, Value.int .u8 0, Value.int .u8 0, Value.int .u8 0, Value.int .u8 0, Value.int .u8 0, Value.int .u8 0, Value.int .u8 0, Value.int .u8 0, Value.int .u8 0, Value.int .u8 0, Value.int .u8 0, Value.int .u8 0, Value.int .u8 0, Value.int .u8 0, Value.int .u8 0, Value.int .u8 0, Value.int .u8 0] 98)) w1.heap.size 98 #[Value.int .u8 0, Value.int .u8 0, Value.int .u8 0, Value.int .u8 0, Value.int .u8 0, Value.int .u8 0, Value.int .u8 0, Value.int .u8 0, Value.int .u8 0, Value.int .u8 0, Value.int .u8 0, Value.int .u8 0, Value.int .u8 0, Value.int .u8 0, Value.int .u8 0, Value.int .u8 0, Value.int .u8 0, Value.int .u8 0, Value.int .u8 0, Value.int .u8 0, Value.int .u8 0, Value.int .u8 0, Value.int .u8 0, Value.int .u8 0, Value.int .u8 0, Value.int .u8 0, Value.int .u8 0, Value.int .u8 0, Value.int .u8 0, Value.int .u8 0, Value.int .u8 0, Value.int .u8 0]) := Blk.new w1 _ _
    go_upto_region 5 with (refine wpList_store_row rfl 98 _ _ rfl w1.heap.size _ rfl rfl 98 _ BZ.out (by kernel_rfl) rfl (by simp [Value.oneCell']) ?_)
    obtain ⟨g, hg⟩ : ∃ g, g = w1.heap.size := ⟨_, rfl⟩
    rw [← hg] at BZ ⊢
    have hgw : w.heap.size + 1 + 1 < g := by rw [hg]; exact lt_of_block C2.out
    obtain ⟨W2, hW2⟩ : ∃ W2, W2 = (w1.alloc (.cells #[Value.int .u8 0, Value.int .u8 0, Value.int .u8 0, Value.int .u8 0, Value.int .u8 0, Value.int .u8 0, Value.int .u8 0, Value.int .u8 0, Value.int .u8 0, Value.int .u8 0, Value.int .u8 0, Value.int .u8 0, Value.int .u8 0, Value.int .u8 0, Value.int .u8 0, Value.int .u8 0, Value.int .u8 0, Value.int .u8 0, Value.int .u8 0, Value.int .u8 0, Value.int .u8 0, Value.int .u8 0, Value.int .u8 0, Value.int .u8 0, Value.int .u8 0, Value.int .u8 0, Value.int .u8 0, Value.int .u8 0, Value.int .u8 0, Value.int .u8 0, Value.int .u8 0, Value.int .u8 0] 98)).setRow g #[.int .u8 93, .int .u8 st, .int .u8 kd, .int .u8 (ct % 256), .int .u8 (ct / 256), .int .u8 ln, .int .u8 0, .int .u8 0, .int .u8 0, .int .u8 0, .int .u8 0, .int .u8 0, .int .u8 0, .int .u8 0, .int .u8 0, .int .u8 0, .int .u8 0, .int .u8 0, .int .u8 0, .int .u8 0, .int .u8 0, .int .u8 0, .int .u8 0, .int .u8 0, .int .u8 0, .int .u8 0, .int .u8 0, .int .u8 0, .int .u8 0, .int .u8 0, .int .u8 0, .int .u8 0] := ⟨_, rfl⟩
    rw [← hW2]
    have D0 : Hid (Blk W2 w.heap.size 94 ka) := by rw [hW2]; exact (C0.out.alloc _).setRow_far (by omega) _
    have D1 : Hid (Blk W2 (w.heap.size + 1) 101 pa) := by rw [hW2]; exact (C1.out.alloc _).setRow_far (by omega) _
    have D2 : Hid (Blk W2 (w.heap.size + 1 + 1) 98 #[Value.int .u8 0, Value.int .u8 0, Value.int .u8 0, Value.int .u8 0, Value.int .u8 0, Value.int .u8 0, Value.int .u8 0, Value.int .u8 0, Value.int .u8 0, Value.int .u8 0, Value.int .u8 0, Value.int .u8 0, Value.int .u8 0, Value.int .u8 0, Value.int .u8 0, Value.int .u8 0, Value.int .u8 0, Value.int .u8 0, Value.int .u8 0, Value.int .u8 0, Value.int .u8 0, Value.int .u8 0, Value.int .u8 0, Value.int .u8 0, Value.int .u8 0, Value.int .u8 0, Value.int .u8 0, Value.int .u8 0, Value.int .u8 0, Value.int .u8 0, Value.int .u8 0, Value.int .u8 0]) := by rw [hW2]; exact (C2.out.alloc _).setRow_far (by omega) _
    have D7 : Hid (Blk W2 g 98 (bytesA ([93, st, kd, ct % 256, ct / 256, ln] ++ List.replicate 26 0))) := by rw [hW2]; exact BZ.out.setRow _
    have hD : Hid (Below w.heap.size w W2) := by rw [hW2]; exact (hC.out.alloc hC.out.size _).setRow' (by omega) _
    clear hW2 BZ C0 C1 C2 c0 c1 c2 c3 hg
    simp only [Act.put]
    refine wp_region_still_tail 3 (by kernel_rfl) (by kernel_rfl) ?_
    simp only [List.take_succ_cons, List.take_zero, List.drop_succ_cons, List.drop_zero]
    change wpStill _ _ (World.drew _) _ _ _
    repeat still_step
    refine wpStill_nil ?_
    change wpList _ _ _ _ _ (World.drew _)
    have hcur : W2.drew.heap[g]? = some (Obj.cells ((([93, st, kd, ct % 256, ct / 256, ln] ++ List.replicate 26 0).map (Value.int .u8)) : List Value).toArray 98 (0, 0)) := D7.out.drew
    refine wpList_copy_splice rfl (.tmp 32) (.tmp 34) 106 106 rfl 5 Tryz.underlying106 (by kernel_rfl) (some ⟨g, 6, none⟩) (some ⟨w.heap.size + 1, 4, none⟩) 18 26 18 18 rfl rfl g 6 (([93, st, kd, ct % 256, ct / 256, ln] ++ List.replicate 26 0).map (Value.int .u8)) 98 hcur (p.ps.map (Value.int .u8)) (by simp [hps])
      (fun _ => ⟨rfl, ⟨w.heap.size + 1, 4, none⟩, rfl, fun j v hj => ?_⟩) (by simp [hps]) (fun v hv => ?_) g W2 ((Below.refl _ _).drew) (Nat.le_refl _) ?_
    · have h18 : j < p.ps.length := by have := (List.getElem?_eq_some_iff.1 hj).1; simpa using this
      rw [Addr.add_mid, D1.out.drew.cell (4 + j), HPA.out]
      have := pkA_4 p.st p.kd p.ct p.ln p.ps j h18
      unfold Pk.cells
      rw [this, ← hj]
      simp [List.getD_eq_getElem?_getD, h18]
    · obtain ⟨x, _, rfl⟩ := List.mem_map.1 hv
      rfl
    intro w3 hsp hb3
    have D7' : Hid (Blk w3 g 98 (bytesA (bodyL p ++ List.replicate 8 0))) := by
      have := hsp.out
      rw [splice_body st kd (ct % 256) (ct / 256) ln p.ps hps] at this
      rw [H1.out, H2.out, H3.out, H4.out] at this
      exact this
    have E0 : Hid (Blk w3 w.heap.size 94 ka) := (hb3.block _ (by omega)).trans D0.out
    have E2 : Hid (Blk w3 (w.heap.size + 1 + 1) 98 #[Value.int .u8 0, Value.int .u8 0, Value.int .u8 0, Value.int .u8 0, Value.int .u8 0, Value.int .u8 0, Value.int .u8 0, Value.int .u8 0, Value.int .u8 0, Value.int .u8 0, Value.int .u8 0, Value.int .u8 0, Value.int .u8 0, Value.int .u8 0, Value.int .u8 0, Value.int .u8 0, Value.int .u8 0, Value.int .u8 0, Value.int .u8 0, Value.int .u8 0, Value.int .u8 0, Value.int .u8 0, Value.int .u8 0, Value.int .u8 0, Value.int .u8 0, Value.int .u8 0, Value.int .u8 0, Value.int .u8 0, Value.int .u8 0, Value.int .u8 0, Value.int .u8 0, Value.int .u8 0]) := (hb3.block _ (by omega)).trans D2.out
    have hE : Hid (Below w.heap.size w w3) := hD.out.trans (hb3.mono (by omega))
    have hgs : g < w3.heap.size := lt_of_block D7'.out
    clear hsp hcur hb3 D0 D1 D2 D7 hD
    go_upto_region 6 with fail
    generalize goInt _ = v35
    simp only [Act.put]
    obtain ⟨k0, k1, k2, k3, k4, k5, k6, k7, hks⟩ : ∃ k0 k1 k2 k3 k4 k5 k6 k7, ks = [k0, k1, k2, k3, k4, k5, k6, k7] := by
      match ks, hk with
      | [k0, k1, k2, k3, k4, k5, k6, k7], _ => exact ⟨_, _, _, _, _, _, _, _, rfl⟩
    have EK : Blk w3 w.heap.size 94 #[.int .u8 k0, .int .u8 k1, .int .u8 k2, .int .u8 k3, .int .u8 k4, .int .u8 k5, .int .u8 k6, .int .u8 k7] := by
      have := E0.out
      rw [HKA.out, hks] at this
      exact this
    have HK8 : Hid (Key8 k0 k1 k2 k3 k4 k5 k6 k7) := fun i hi => by
      have := hb i (by omega)
      rw [hks] at this
      exact this
    have HKS := Lib.hid hks
    have hbl : (bodyL p).length = 24 := by simp [bodyL, hps]
    have HBA : Hid (∀ W, Below w3.heap.size w3 W → BytesAt W (some ⟨g, 0, none⟩) 24 (bodyL p)) := fun W hW =>
      (show BytesAt w3 (some ⟨g, 0, none⟩) 24 (bodyL p) from ⟨hbl, fun i hi => bodyL_bd p hps hpb (by rw [← HE.out]; exact HE0.out) i hi, fun _ => ⟨g, 0, rfl, fun i hi => by
        rw [Nat.zero_add, D7'.out.cell i, bytesA_at _ i (by simp [hbl]; omega)]
        simp [List.getD_eq_getElem?_getD, List.getElem?_append_left (show i < (bodyL p).length by omega)]⟩⟩).keep hW
    clear hks hb hbl
    have HEK := Lib.hid EK
    have hne : w.heap.size ≠ w3.heap.size := by omega
    have xc0 := EK.cell 0; have xf0 := EK.frozen 0; have xc1 := EK.cell 1; have xf1 := EK.frozen 1; have xc2 := EK.cell 2; have xf2 := EK.frozen 2; have xc3 := EK.cell 3; have xf3 := EK.frozen 3; have xc4 := EK.cell 4; have xf4 := EK.frozen 4; have xc5 := EK.cell 5; have xf5 := EK.frozen 5; have xc6 := EK.cell 6; have xf6 := EK.frozen 6; have xc7 := EK.cell 7; have xf7 := EK.frozen 7
    simp only [List.getElem?_toArray, List.getElem?_cons_zero, List.getElem?_cons_succ] at xc0 xc1 xc2 xc3 xc4 xc5 xc6 xc7
    clear EK
    clear xf0 xf1 xf2 xf3 xf4 xf5 xf6 xf7
    go_region_held3 (fun W => W.cell? ⟨w.heap.size, 0, none⟩ = some (.int .u8 k0) ∧ W.cell? ⟨w.heap.size, 1, none⟩ = some (.int .u8 k1) ∧ W.cell? ⟨w.heap.size, 2, none⟩ = some (.int .u8 k2) ∧ W.cell? ⟨w.heap.size, 3, none⟩ = some (.int .u8 k3) ∧ W.cell? ⟨w.heap.size, 4, none⟩ = some (.int .u8 k4) ∧ W.cell? ⟨w.heap.size, 5, none⟩ = some (.int .u8 k5) ∧ W.cell? ⟨w.heap.size, 6, none⟩ = some (.int .u8 k6) ∧ W.cell? ⟨w.heap.size, 7, none⟩ = some (.int .u8 k7)) (first | with_reducible exact results8 HEK.out.drew | with_reducible exact results8 BK.out | with_reducible exact results8 (BK.out.alloc _) | with_reducible exact results8 (HEK.out.alloc _).drew | with_reducible exact results8 (HEK.out.drew.alloc _) | with_reducible exact results8 ((((((((BK.out.far (p := ⟨w3.heap.size, 0, none⟩) hne _).far (p := ⟨w3.heap.size, 1, none⟩) hne _).far (p := ⟨w3.heap.size, 2, none⟩) hne _).far (p := ⟨w3.heap.size, 3, none⟩) hne _).far (p := ⟨w3.heap.size, 4, none⟩) hne _).far (p := ⟨w3.heap.size, 5, none⟩) hne _).far (p := ⟨w3.heap.size, 6, none⟩) hne _).far (p := ⟨w3.heap.size, 7, none⟩) hne _))
      (first | (go_at_call 138; refine (seal_any k0 k1 k2 k3 k4 k5 k6 k7 (some ⟨g, 0, none⟩) 24 32 (bodyL p) _ (by decide) HK8.out (by first | with_reducible exact HBA.out _ (Below.refl _ _).drew | with_reducible exact HBA.out _ ((Below.refl _ _).alloc (Nat.le_refl _) _).drew)).mono ?_; rintro e w4 ⟨rfl, hb4⟩; have BK : Hid (Blk w4 w.heap.size 94 #[.int .u8 k0, .int .u8 k1, .int .u8 k2, .int .u8 k3, .int .u8 k4, .int .u8 k5, .int .u8 k6, .int .u8 k7]) := (by first | with_reducible exact Lib.hid (HEK.out.drew.below hb4) | with_reducible exact Lib.hid ((HEK.out.alloc _).drew.below hb4)); (first | (have ZK : Blk w4 w3.heap.size 94 #[.int .u8 0, .int .u8 0, .int .u8 0, .int .u8 0, .int .u8 0, .int .u8 0, .int .u8 0, .int .u8 0] := (Blk.new w3 94 #[.int .u8 0, .int .u8 0, .int .u8 0, .int .u8 0, .int .u8 0, .int .u8 0, .int .u8 0, .int .u8 0]).drew.below hb4; have HZK := Lib.hid ZK; obtain ⟨z0, z1, z2, z3, z4, z5, z6, z7⟩ := results8 ZK; have y0 := ZK.frozen 0; have y1 := ZK.frozen 1; have y2 := ZK.frozen 2; have y3 := ZK.frozen 3; have y4 := ZK.frozen 4; have y5 := ZK.frozen 5; have y6 := ZK.frozen 6; have y7 := ZK.frozen 7; clear ZK) | skip); have G4 := Lib.hid hb4; clear hb4))
    all_goals
      first
        | (have H := encode_end2 hgs D7'.out E2.out hE.out G4.out HZK.out (.int .u8 (sealAt 0 k0 (bodyL p))) (.int .u8 (sealAt 1 k1 (bodyL p))) (.int .u8 (sealAt 2 k2 (bodyL p))) (.int .u8 (sealAt 3 k3 (bodyL p))) (.int .u8 (sealAt 4 k4 (bodyL p))) (.int .u8 (sealAt 5 k5 (bodyL p))) (.int .u8 (sealAt 6 k6 (bodyL p))) (.int .u8 (sealAt 7 k7 (bodyL p)))
           generalize World.setCell _ _ _ = W5 at H ⊢
           generalize w3.heap.size = g8 at H ⊢)
        | (have H := encode_end1 hgs D7'.out E2.out hE.out G4.out #[.int .u8 (sealAt 0 k0 (bodyL p)), .int .u8 (sealAt 1 k1 (bodyL p)), .int .u8 (sealAt 2 k2 (bodyL p)), .int .u8 (sealAt 3 k3 (bodyL p)), .int .u8 (sealAt 4 k4 (bodyL p)), .int .u8 (sealAt 5 k5 (bodyL p)), .int .u8 (sealAt 6 k6 (bodyL p)), .int .u8 (sealAt 7 k7 (bodyL p))]
           generalize World.alloc w4 _ = W5 at H ⊢
           generalize w4.heap.size = g8 at H ⊢)
      obtain ⟨F8, F7, F2, hF, hgg⟩ := H
      have F8' : Hid (Blk W5 g8 94 (bytesA (sealL ks (bodyL p)))) := by rw [HKS.out]; exact F8
      have HF7 := Lib.hid F7
      have HF2 := Lib.hid F2
      have HhF := Lib.hid hF
      have hgw2 : w.heap.size + 1 + 1 < g := hgw
      clear F8 F7 F2 hF HK8 HBA HEK D7' E2 hE hgs
      try clear BK G4
      try clear HZK
      go_upto_region 7 with fail
      refine wp_region_still_tail 2 (by kernel_rfl) (by kernel_rfl) ?_
      simp only [List.take_succ_cons, List.take_zero, List.drop_succ_cons, List.drop_zero]
      change wpStill _ _ (World.drew _) _ _ _
      repeat still_step
      refine wpStill_nil ?_
      change wpList _ _ _ _ _ (World.drew _)
      have hcur : W5.drew.heap[g]? = some (Obj.cells ((bodyL p ++ List.replicate 8 0).map (Value.int .u8)).toArray 98 (0, 0)) := HF7.out.drew
      have hbl : (bodyL p).length = 24 := by simp [bodyL, hps]
      refine wpList_copy_splice rfl (.tmp 39) (.tmp 40) 106 106 rfl 5 Tryz.underlying106 (by kernel_rfl) (some ⟨g, 24, none⟩) (some ⟨g8, 0, none⟩) 8 8 8 8 rfl rfl g 24 ((bodyL p ++ List.replicate 8 0).map (Value.int .u8)) 98 hcur ((sealL ks (bodyL p)).map (Value.int .u8)) (by simp [sealL_len])
        (fun _ => ⟨rfl, ⟨g8, 0, none⟩, rfl, fun j v hj => ?_⟩) (by simp [sealL_len, hbl]) (fun v hv => ?_) g W5 ((Below.refl _ _).drew) (Nat.le_refl _) ?_
      · have h8 : j < (sealL ks (bodyL p)).length := by have := (List.getElem?_eq_some_iff.1 hj).1; simpa using this
        rw [Addr.add_mid, F8'.out.drew.cell (0 + j), Nat.zero_add, bytesA_at _ j h8, ← hj]
        simp [List.getD_eq_getElem?_getD, h8]
      · obtain ⟨x, _, rfl⟩ := List.mem_map.1 hv
        rfl
      intro w6 hsp hb6
      have M7 : Hid (Blk w6 g 98 (bytesA (frameL ks p))) := by
        have := hsp.out
        rw [splice_seal (bodyL p) (sealL ks (bodyL p)) hbl (sealL_len _ _)] at this
        exact this
      have M2 : Hid (Blk w6 (w.heap.size + 1 + 1) 98 #[.int .u8 0, .int .u8 0, .int .u8 0, .int .u8 0, .int .u8 0, .int .u8 0, .int .u8 0, .int .u8 0, .int .u8 0, .int .u8 0, .int .u8 0, .int .u8 0, .int .u8 0, .int .u8 0, .int .u8 0, .int .u8 0, .int .u8 0, .int .u8 0, .int .u8 0, .int .u8 0, .int .u8 0, .int .u8 0, .int .u8 0, .int .u8 0, .int .u8 0, .int .u8 0, .int .u8 0, .int .u8 0, .int .u8 0, .int .u8 0, .int .u8 0, .int .u8 0]) := (hb6.block _ (by omega)).trans HF2.out
      have hM : Hid (Below w.heap.size w w6) := HhF.out.trans (hb6.mono (by omega))
      clear hsp hcur hb6 HF7 HF2 HhF F8'
      obtain ⟨fa, hfa⟩ : ∃ fa, fa = bytesA (frameL ks p) := ⟨_, rfl⟩
      rw [← hfa] at M7
      have HFA := Lib.hid hfa
      have fsz : Hid (fa.size = 32) := by show _ = _; rw [hfa, bytesA_size]; simp [frameL, hbl, sealL_len]
      have fone : Hid (fa.all (·.oneCell') = true) := by show _ = _; rw [hfa]; exact bytesA_one _
      have ifa : Hid ((Tryz.prog.info? 98).map (·.size) = some fa.size) := by show _ = _; rw [fsz.out]; kernel_rfl
      have hold : Hid ((#[.int .u8 0, .int .u8 0, .int .u8 0, .int .u8 0, .int .u8 0, .int .u8 0, .int .u8 0, .int .u8 0, .int .u8 0, .int .u8 0, .int .u8 0, .int .u8 0, .int .u8 0, .int .u8 0, .int .u8 0, .int .u8 0, .int .u8 0, .int .u8 0, .int .u8 0, .int .u8 0, .int .u8 0, .int .u8 0, .int .u8 0, .int .u8 0, .int .u8 0, .int .u8 0, .int .u8 0, .int .u8 0, .int .u8 0, .int .u8 0, .int .u8 0, .int .u8 0] : Array Value).size = fa.size) := by show _ = _; rw [fsz.out]; rfl
      clear hfa hbl
      generalize goInt _ = v41
      go_wp2_with (first
        | (refine wpList_load_row rfl 98 _ rfl g rfl 98 fa (0, 0) _ M7.out Tryz.underlying98 rfl ifa.out ?_)
        | (refine wpList_store_row rfl 98 _ _ rfl (w.heap.size + 1 + 1) fa rfl rfl 98 _ M2.out ifa.out hold.out fone.out ?_))
      generalize hWf : World.setRow _ _ _ = Wf
      have D : Blk Wf (w.heap.size + 1 + 1) 98 fa := by rw [← hWf]; exact M2.out.setRow _
      have hlv : (loadVar 98 ⟨w.heap.size + 1 + 1, 0, none⟩).run Tryz.prog Wf = .ok (.agg fa) Wf := run_loadVar_row Wf _ 98 98 _ (0, 0) _ D Tryz.underlying98 rfl ifa.out
      have hBf : Below w.heap.size w Wf := by rw [← hWf]; exact hM.out.setRow' (by omega) _
      have he : p.err = 0 := by rw [← HE.out]; exact HE0.out
      exact bodyPost_ret (v := .tuple #[.agg fa, .int .i64 0]) (by simp [results, Tryz.results67, asAddr, hlv]) rfl ⟨ret_agg2 (by rw [encodeA_ok ks p he]; exact HFA.out) he.symm, hBf⟩
  · have h1 : (e != 0) = true := by simp [he]
    have HE0 := Lib.hid he
    clear he
    have zo : Hid ((#[Value.int .u8 0, Value.int .u8 0, Value.int .u8 0, Value.int .u8 0, Value.int .u8 0, Value.int .u8 0, Value.int .u8 0, Value.int .u8 0, Value.int .u8 0, Value.int .u8 0, Value.int .u8 0, Value.int .u8 0, Value.int .u8 0, Value.int .u8 0, Value.int .u8 0, Value.int .u8 0, Value.int .u8 0, Value.int .u8 0, Value.int .u8 0, Value.int .u8 0, Value.int .u8 0, Value.int .u8 0, Value.int .u8 0, Value.int .u8 0, Value.int .u8 0, Value.int .u8 0, Value.int .u8 0, Value.int .u8 0, Value.int .u8 0, Value.int .u8 0, Value.int .u8 0, Value.int .u8 0] : Array Value).all (·.oneCell') = true) := by show _ = _; simp [Value.oneCell']
    have iz : Hid ((Tryz.prog.info? 98).map (·.size) = some (#[Value.int .u8 0, Value.int .u8 0, Value.int .u8 0, Value.int .u8 0, Value.int .u8 0, Value.int .u8 0, Value.int .u8 0, Value.int .u8 0, Value.int .u8 0, Value.int .u8 0, Value.int .u8 0, Value.int .u8 0, Value.int .u8 0, Value.int .u8 0, Value.int .u8 0, Value.int .u8 0, Value.int .u8 0, Value.int .u8 0, Value.int .u8 0, Value.int .u8 0, Value.int .u8 0, Value.int .u8 0, Value.int .u8 0, Value.int .u8 0, Value.int .u8 0, Value.int .u8 0, Value.int .u8 0, Value.int .u8 0, Value.int .u8 0, Value.int .u8 0, Value.int .u8 0, Value.int .u8 0] : Array Value).size) := by show _ = _; kernel_rfl
    go_wp2_with (refine wpList_store_row rfl 98 _ _ rfl (w.heap.size + 1 + 1) #[Value.int .u8 0, Value.int .u8 0, Value.int .u8 0, Value.int .u8 0, Value.int .u8 0, Value.int .u8 0, Value.int .u8 0, Value.int .u8 0, Value.int .u8 0, Value.int .u8 0, Value.int .u8 0, Value.int .u8 0, Value.int .u8 0, Value.int .u8 0, Value.int .u8 0, Value.int .u8 0, Value.int .u8 0, Value.int .u8 0, Value.int .u8 0, Value.int .u8 0, Value.int .u8 0, Value.int .u8 0, Value.int .u8 0, Value.int .u8 0, Value.int .u8 0, Value.int .u8 0, Value.int .u8 0, Value.int .u8 0, Value.int .u8 0, Value.int .u8 0, Value.int .u8 0, Value.int .u8 0] rfl rfl 98 _ C2.out iz.out rfl zo.out ?_)
    generalize hWf : World.setRow _ _ _ = Wf
    have D : Blk Wf (w.heap.size + 1 + 1) 98 #[Value.int .u8 0, Value.int .u8 0, Value.int .u8 0, Value.int .u8 0, Value.int .u8 0, Value.int .u8 0, Value.int .u8 0, Value.int .u8 0, Value.int .u8 0, Value.int .u8 0, Value.int .u8 0, Value.int .u8 0, Value.int .u8 0, Value.int .u8 0, Value.int .u8 0, Value.int .u8 0, Value.int .u8 0, Value.int .u8 0, Value.int .u8 0, Value.int .u8 0, Value.int .u8 0, Value.int .u8 0, Value.int .u8 0, Value.int .u8 0, Value.int .u8 0, Value.int .u8 0, Value.int .u8 0, Value.int .u8 0, Value.int .u8 0, Value.int .u8 0, Value.int .u8 0, Value.int .u8 0] := by rw [← hWf]; exact C2.out.setRow _
    have hlv : (loadVar 98 ⟨w.heap.size + 1 + 1, 0, none⟩).run Tryz.prog Wf = .ok (.agg #[Value.int .u8 0, Value.int .u8 0, Value.int .u8 0, Value.int .u8 0, Value.int .u8 0, Value.int .u8 0, Value.int .u8 0, Value.int .u8 0, Value.int .u8 0, Value.int .u8 0, Value.int .u8 0, Value.int .u8 0, Value.int .u8 0, Value.int .u8 0, Value.int .u8 0, Value.int .u8 0, Value.int .u8 0, Value.int .u8 0, Value.int .u8 0, Value.int .u8 0, Value.int .u8 0, Value.int .u8 0, Value.int .u8 0, Value.int .u8 0, Value.int .u8 0, Value.int .u8 0, Value.int .u8 0, Value.int .u8 0, Value.int .u8 0, Value.int .u8 0, Value.int .u8 0, Value.int .u8 0]) Wf := run_loadVar_row Wf _ 98 98 _ (0, 0) _ D Tryz.underlying98 rfl iz.out
    have hBf : Below w.heap.size w Wf := by rw [← hWf]; exact hC.out.setRow' (by omega) _
    exact bodyPost_ret (v := .tuple #[.agg #[Value.int .u8 0, Value.int .u8 0, Value.int .u8 0, Value.int .u8 0, Value.int .u8 0, Value.int .u8 0, Value.int .u8 0, Value.int .u8 0, Value.int .u8 0, Value.int .u8 0, Value.int .u8 0, Value.int .u8 0, Value.int .u8 0, Value.int .u8 0, Value.int .u8 0, Value.int .u8 0, Value.int .u8 0, Value.int .u8 0, Value.int .u8 0, Value.int .u8 0, Value.int .u8 0, Value.int .u8 0, Value.int .u8 0, Value.int .u8 0, Value.int .u8 0, Value.int .u8 0, Value.int .u8 0, Value.int .u8 0, Value.int .u8 0, Value.int .u8 0, Value.int .u8 0, Value.int .u8 0], .int .i64 e]) (by simp [results, Tryz.results67, asAddr, hlv]) rfl ⟨ret_agg2 (by rw [encodeA_bad ks p (by rw [← HE.out]; exact HE0.out)]; rfl) HE.out, hBf⟩
end Go.Proofs.YtoipafnlcchmbaaGreatDoor
namespace Go.Proofs.YtoipafnlcchmbaaGreatDoor
open Go.RowKit

/-- What is read from 32 bytes. -/
def readP (bs : List Int) : Pk := ⟨bs.getD 1 0, bs.getD 2 0, bs.getD 3 0 + bs.getD 4 0 * 256, bs.getD 5 0, (bs.drop 6).take 18⟩
def decodeE (ks bs : List Int) : Int :=
  if bs.getD 0 0 = 93 then (if (bs.drop 24) = sealL ks (bs.take 24) then (readP bs).err else 27) else 1
def pkNone : Array Value := pkA 0 0 0 0 (List.replicate 18 0)
def decodeA (ks bs : List Int) : Array Value := if decodeE ks bs = 0 then (readP bs).cells else pkNone
theorem decode_head (ks bs : List Int) (h : bs.getD 0 0 ≠ 93) : decodeE ks bs = 1 ∧ decodeA ks bs = pkNone := by
  have : decodeE ks bs = 1 := by unfold decodeE; rw [if_neg h]
  exact ⟨this, by unfold decodeA; rw [this]; rfl⟩

set_option maxHeartbeats 2000000 in
set_option maxRecDepth 100000 in
theorem Decode_head (ks bs : List Int) (w : World) (hl : bs.length = 32) (h0 : bs.getD 0 0 ≠ 93) :
    Calls Tryz.prog 68 #[.agg (bytesA ks), .agg (bytesA bs)] w fun e w' => e = .returned (.tuple #[.agg (decodeA ks bs), .int .i64 (decodeE ks bs)]) ∧ Below w.heap.size w w' := by
  rw [(decode_head ks bs h0).1, (decode_head ks bs h0).2]
  obtain ⟨ka, hka⟩ : ∃ ka, ka = bytesA ks := ⟨_, rfl⟩
  obtain ⟨sa, hsa⟩ : ∃ sa, sa = bytesA bs := ⟨_, rfl⟩
  rw [← hka, ← hsa]
  have HSA := Lib.hid hsa
  clear hka hsa
  go_enter Tryz.func68, Tryz.ntmps68
  go_upto_region 1 with fail
  obtain ⟨W0, hW0⟩ : ∃ W0, W0 = ((w.alloc (.cells ka 94)).alloc (.cells sa 98)).alloc (.cells #[.int .i64 0, .int .i64 0, .int .i64 0, .int .i64 0, .int .u8 0, .int .u8 0, .int .u8 0, .int .u8 0, .int .u8 0, .int .u8 0, .int .u8 0, .int .u8 0, .int .u8 0, .int .u8 0, .int .u8 0, .int .u8 0, .int .u8 0, .int .u8 0, .int .u8 0, .int .u8 0, .int .u8 0, .int .u8 0] 101) := ⟨_, rfl⟩
  rw [← hW0]
  have B1 : Hid (Blk W0 (w.heap.size + 1) 98 sa) := by rw [hW0]; have := (Blk.new (w.alloc (.cells ka 94)) 98 sa).alloc (.cells #[.int .i64 0, .int .i64 0, .int .i64 0, .int .i64 0, .int .u8 0, .int .u8 0, .int .u8 0, .int .u8 0, .int .u8 0, .int .u8 0, .int .u8 0, .int .u8 0, .int .u8 0, .int .u8 0, .int .u8 0, .int .u8 0, .int .u8 0, .int .u8 0, .int .u8 0, .int .u8 0, .int .u8 0, .int .u8 0] 101); rw [size_alloc1] at this; exact this
  have B2 : Hid (Blk W0 (w.heap.size + 1 + 1) 101 #[.int .i64 0, .int .i64 0, .int .i64 0, .int .i64 0, .int .u8 0, .int .u8 0, .int .u8 0, .int .u8 0, .int .u8 0, .int .u8 0, .int .u8 0, .int .u8 0, .int .u8 0, .int .u8 0, .int .u8 0, .int .u8 0, .int .u8 0, .int .u8 0, .int .u8 0, .int .u8 0, .int .u8 0, .int .u8 0]) := by rw [hW0]; have := Blk.new ((w.alloc (.cells ka 94)).alloc (.cells sa 98)) 101 #[.int .i64 0, .int .i64 0, .int .i64 0, .int .i64 0, .int .u8 0, .int .u8 0, .int .u8 0, .int .u8 0, .int .u8 0, .int .u8 0, .int .u8 0, .int .u8 0, .int .u8 0, .int .u8 0, .int .u8 0, .int .u8 0, .int .u8 0, .int .u8 0, .int .u8 0, .int .u8 0, .int .u8 0, .int .u8 0]; rw [size_alloc1, size_alloc1] at this; exact this
  have hB : Hid (Below w.heap.size w W0) := by rw [hW0]; exact (((Below.refl _ w).alloc (Nat.le_refl _) _).alloc (by rw [size_alloc1]; omega) _).alloc (by rw [size_alloc1, size_alloc1]; omega) _
  clear hW0
  obtain ⟨x, hx⟩ : ∃ x, x = bs.getD 0 0 := ⟨_, rfl⟩
  have c0 : W0.cell? ⟨w.heap.size + 1, 0, none⟩ = some (.int .u8 x) := by rw [B1.out.cell 0, HSA.out, bytesA_at bs 0 (by omega), hx]
  rw [← hx] at h0
  have h1 : (x != 93) = true := by simp [h0]
  clear hx h0
  have iz : Hid ((Tryz.prog.info? 101).map (·.size) = some (#[.int .i64 0, .int .i64 0, .int .i64 0, .int .i64 0, .int .u8 0, .int .u8 0, .int .u8 0, .int .u8 0, .int .u8 0, .int .u8 0, .int .u8 0, .int .u8 0, .int .u8 0, .int .u8 0, .int .u8 0, .int .u8 0, .int .u8 0, .int .u8 0, .int .u8 0, .int .u8 0, .int .u8 0, .int .u8 0] : Array Value).size) := by show _ = _; kernel_rfl
  have zo : Hid ((#[.int .i64 0, .int .i64 0, .int .i64 0, .int .i64 0, .int .u8 0, .int .u8 0, .int .u8 0, .int .u8 0, .int .u8 0, .int .u8 0, .int .u8 0, .int .u8 0, .int .u8 0, .int .u8 0, .int .u8 0, .int .u8 0, .int .u8 0, .int .u8 0, .int .u8 0, .int .u8 0, .int .u8 0, .int .u8 0] : Array Value).all (·.oneCell') = true) := by show _ = _; simp [Value.oneCell']
  go_wp2_with (refine wpList_store_row rfl 101 _ _ rfl (w.heap.size + 1 + 1) #[.int .i64 0, .int .i64 0, .int .i64 0, .int .i64 0, .int .u8 0, .int .u8 0, .int .u8 0, .int .u8 0, .int .u8 0, .int .u8 0, .int .u8 0, .int .u8 0, .int .u8 0, .int .u8 0, .int .u8 0, .int .u8 0, .int .u8 0, .int .u8 0, .int .u8 0, .int .u8 0, .int .u8 0, .int .u8 0] rfl rfl 101 _ B2.out iz.out rfl zo.out ?_)
  generalize hWf : World.setRow _ _ _ = Wf
  have D : Blk Wf (w.heap.size + 1 + 1) 101 #[.int .i64 0, .int .i64 0, .int .i64 0, .int .i64 0, .int .u8 0, .int .u8 0, .int .u8 0, .int .u8 0, .int .u8 0, .int .u8 0, .int .u8 0, .int .u8 0, .int .u8 0, .int .u8 0, .int .u8 0, .int .u8 0, .int .u8 0, .int .u8 0, .int .u8 0, .int .u8 0, .int .u8 0, .int .u8 0] := by rw [← hWf]; exact B2.out.setRow _
  have hlv : (loadVar 101 ⟨w.heap.size + 1 + 1, 0, none⟩).run Tryz.prog Wf = .ok (.agg #[.int .i64 0, .int .i64 0, .int .i64 0, .int .i64 0, .int .u8 0, .int .u8 0, .int .u8 0, .int .u8 0, .int .u8 0, .int .u8 0, .int .u8 0, .int .u8 0, .int .u8 0, .int .u8 0, .int .u8 0, .int .u8 0, .int .u8 0, .int .u8 0, .int .u8 0, .int .u8 0, .int .u8 0, .int .u8 0]) Wf := run_loadVar_row Wf _ 101 101 _ (0, 0) _ D Tryz.underlying101 rfl iz.out
  have hBf : Below w.heap.size w Wf := by rw [← hWf]; exact hB.out.setRow' (by omega) _
  exact bodyPost_ret (v := .tuple #[.agg #[.int .i64 0, .int .i64 0, .int .i64 0, .int .i64 0, .int .u8 0, .int .u8 0, .int .u8 0, .int .u8 0, .int .u8 0, .int .u8 0, .int .u8 0, .int .u8 0, .int .u8 0, .int .u8 0, .int .u8 0, .int .u8 0, .int .u8 0, .int .u8 0, .int .u8 0, .int .u8 0, .int .u8 0, .int .u8 0], .int .i64 1]) (by simp [results, Tryz.results68, asAddr, hlv]) rfl ⟨rfl, hBf⟩
end Go.Proofs.YtoipafnlcchmbaaGreatDoor
namespace Go.Proofs.YtoipafnlcchmbaaGreatDoor
open Go.RowKit

theorem run_eq_key (w : World) (d : Nat) (p1 p2 : List Int) (h1 : p1.length = 8) (h2 : p2.length = 8) :
    (Op.equalIn (d + 2) 94 (.agg (bytesA p1)) (.agg (bytesA p2))).run Tryz.prog w = .ok (eqB (List.range 8) (fun i => p1.getD i 0) (fun i => p2.getD i 0)) w := by
  obtain ⟨i, hi⟩ : ∃ i, Tryz.prog.info? 5 = some i := Option.isSome_iff_exists.1 (by kernel_rfl)
  rw [run_equalIn_array w (d + 1) (n := 8) (e := 5) (i := i) _ _ (by kernel_rfl) hi]
  rw [show Tryz.prog.cellsOf 5 = 1 by kernel_rfl]
  exact run_eqItems_int w d (by kernel_rfl) _ _ _ _ _ fun i hi => by
    have : i < 8 := by simpa using hi
    exact ⟨bytesA_at p1 i (by omega), bytesA_at p2 i (by omega)⟩
theorem run_neq_key (w : World) (p1 p2 : List Int) (h1 : p1.length = 8) (h2 : p2.length = 8) :
    (binOp .neq 94 (.agg (bytesA p1)) (.agg (bytesA p2))).run Tryz.prog w = .ok (.bool (!(eqB (List.range 8) (fun i => p1.getD i 0) (fun i => p2.getD i 0)))) w := by
  rw [run_neq_struct, run_eq_key w 9998 p1 p2 h1 h2]
  rfl
theorem eqB_iff (n : Nat) (p q : List Int) (h1 : p.length = n) (h2 : q.length = n) : eqB (List.range n) (fun i => p.getD i 0) (fun i => q.getD i 0) = true ↔ p = q := by
  unfold eqB
  rw [List.all_eq_true]
  constructor
  · intro h
    apply List.ext_getElem (by omega)
    intro i hi hj
    have := h i (by simp; omega)
    simp only [List.getD_eq_getElem?_getD, List.getElem?_eq_getElem hi, List.getElem?_eq_getElem hj, Option.getD_some, beq_iff_eq] at this
    exact this
  · rintro rfl i _
    simp
end Go.Proofs.YtoipafnlcchmbaaGreatDoor
namespace Go.Proofs.YtoipafnlcchmbaaGreatDoor
open Go.RowKit

theorem Blk.at_size {w : World} {g : Nat} (t : TypeId) (cs : Array Value) (h : g = w.heap.size) : Blk (w.alloc (.cells cs t)) g t cs := by
  subst h; exact Blk.new w t cs
/-- A box that the walk has just made: what is in it, what is below it. -/
theorem box_facts {W : World} (cs : Array Value) (t : TypeId) : ∀ W', W' = W.alloc (.cells cs t) → Blk W' W.heap.size t cs ∧ Below W.heap.size W W' := by
  rintro W' rfl
  exact ⟨Blk.new W t cs, (Below.refl _ _).alloc (Nat.le_refl _) _⟩
/-- The same of a box that is made and then stored to as a whole. -/
theorem box_facts_row {W : World} (z cs : Array Value) (t : TypeId) {g : Nat} (hg : g = W.heap.size) : ∀ W', W' = (W.alloc (.cells z t)).setRow g cs → Blk W' g t cs ∧ Below W.heap.size W W' := by
  subst hg
  rintro W' rfl
  exact ⟨(Blk.new W t z).setRow cs, ((Below.refl _ _).alloc (Nat.le_refl _) _).setRow' (Nat.le_refl _) cs⟩
end Go.Proofs.YtoipafnlcchmbaaGreatDoor
