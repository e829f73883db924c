/- SoundTurns: what its samples are as a list; a byte that is changed. -/
import Derived.Test.YtoipafnlcchmbaaGreatDoorZ9
import Derived.Test.YtoipafnlcchmbaaGreatDoorU6
import Derived.Maps.Own
import Derived.Maps.Views
namespace Go.Proofs.YtoipafnlcchmbaaGreatDoor
open Go.RowKit

/-- Both samples in one list. -/
def turnsL (x y : Nat → Int) : List Nat := [sampW (x 0), sampW (x 1), sampW (x 2), sampW (x 3)] ++ [sampW (y 0), sampW (y 1), sampW (y 2), sampW (y 3)]
theorem turnsL_all {x y : Nat → Int} {P : Nat → Prop} (h : ∀ v : Int, v.natAbs ≤ 2000 → P (sampW v)) (hx : ∀ k, k < 4 → (x k).natAbs ≤ 2000) (hy : ∀ k, k < 4 → (y k).natAbs ≤ 2000) : ∀ b ∈ turnsL x y, P b := by
  intro b hb
  unfold turnsL at hb
  simp only [List.cons_append, List.nil_append, List.mem_cons, List.not_mem_nil, or_false] at hb
  rcases hb with rfl | rfl | rfl | rfl | rfl | rfl | rfl | rfl
  · exact h _ (hx 0 (by omega))
  · exact h _ (hx 1 (by omega))
  · exact h _ (hx 2 (by omega))
  · exact h _ (hx 3 (by omega))
  · exact h _ (hy 0 (by omega))
  · exact h _ (hy 1 (by omega))
  · exact h _ (hy 2 (by omega))
  · exact h _ (hy 3 (by omega))
theorem getD_memF (l : List Nat) (i : Nat) (h : i < l.length) : l.getD i 0 ∈ l := by
  rw [List.getD_eq_getElem?_getD, List.getElem?_eq_getElem h]
  exact List.getElem_mem h
theorem turnsL_facts {x y : Nat → Int} (hx : ∀ k, k < 4 → (x k).natAbs ≤ 2000) (hy : ∀ k, k < 4 → (y k).natAbs ≤ 2000) :
    checkSamplesE (turnsL x y) = 0 ∧ samplesE (turnsL x y) = 0 ∧ (∀ i, i < 8 → (turnsL x y).getD i 0 = norm ((turnsL x y).getD i 0)) ∧ (∀ b ∈ turnsL x y, b < 4294967296) ∧ ∀ i, i < 8 → (FloatKind.f32.format.order ((turnsL x y).getD i 0) ((turnsL x y).getD i 0) != some .eq) = false := by
  have hl : (turnsL x y).length = 8 := rfl
  have h1 := turnsL_all (P := fun b => partE 10 b = 0) (fun v h => sampW_part v (by omega)) hx hy
  have h2 := turnsL_all (P := fun b => nmzE b = 0) (fun v _ => sampW_nmz v) hx hy
  have h3 := turnsL_all (P := fun b => b < 4294967296) (fun v h => sampW_lt v (by omega)) hx hy
  have p1 : firstInF (partE 10) (turnsL x y) = 0 := firstInF_miss _ _ (fun i hi => h1 _ (getD_memF _ i hi))
  have p2 : firstInF nmzE (turnsL x y) = 0 := firstInF_miss _ _ (fun i hi => h2 _ (getD_memF _ i hi))
  have p3 := norm_all _ p2
  have c1 : checkSamplesE (turnsL x y) = 0 := by
    unfold checkSamplesE
    rw [p1, hl]
    rfl
  refine ⟨c1, ?_, ?_, h3, fun i hi => self_of (h1 _ (getD_memF _ i hi))⟩
  · unfold samplesE
    rw [c1, p2]
    rfl
  · intro i hi
    have e : ((turnsL x y).map norm).getD i 0 = norm ((turnsL x y).getD i 0) := by
      simp only [List.getD_eq_getElem?_getD, List.getElem?_map, List.getElem?_eq_getElem (show i < (turnsL x y).length from hi), Option.map_some, Option.getD_some]
    rw [p3] at e
    exact e
theorem packL_eight (x y : Nat → Int) : (packL (turnsL x y)).length = 46 := by rw [packL_size]; rfl
theorem packL_bytes (gs : List Nat) (hm : gs.length ≤ 4096) (hb : ∀ b ∈ gs, b < 4294967296) : AllB (packL gs) := by
  unfold packL
  refine AllB.append (packHead_all gs hb hm) (sealL_all _ _ rfl ?_)
  intro i hi
  have h8 : i < 8 := hi
  match i, h8 with
  | 0, _ => decide
  | 1, _ => decide
  | 2, _ => decide
  | 3, _ => decide
  | 4, _ => decide
  | 5, _ => decide
  | 6, _ => decide
  | 7, _ => decide
theorem other_mod (b n : Int) (_hb : 0 ≤ b ∧ b ≤ 255) (_hn : 0 ≤ n ∧ n ≤ 65535) : (0 ≤ (b + 1 + n % 255) % 256 ∧ (b + 1 + n % 255) % 256 ≤ 255) ∧ (b + 1 + n % 255) % 256 ≠ b := by omega
/-- The byte that the law lays in another's place. -/
theorem other_byte (b n : Int) (hb : 0 ≤ b ∧ b ≤ 255) (hn : 0 ≤ n ∧ n ≤ 65535) : (0 ≤ (b + 1 + n.tmod 255).tmod 256 ∧ (b + 1 + n.tmod 255).tmod 256 ≤ 255) ∧ (b + 1 + n.tmod 255).tmod 256 ≠ b := by
  rw [Int.tmod_eq_emod_of_nonneg hn.1, Int.tmod_eq_emod_of_nonneg (by omega)]
  omega
theorem place_of (n : Int) (hn : 0 ≤ n ∧ n ≤ 65535) : ∃ i : Nat, i < 46 ∧ n.tmod 46 = (i : Int) := by
  rw [Int.tmod_eq_emod_of_nonneg hn.1]
  exact ⟨(n % 46).toNat, by omega, by omega⟩
theorem many_of (n : Int) (hn : 0 ≤ n ∧ n ≤ 65535) : ∃ i : Nat, i < 101 ∧ n.tmod 101 = (i : Int) := by
  rw [Int.tmod_eq_emod_of_nonneg hn.1]
  exact ⟨(n % 101).toNat, by omega, by omega⟩
/-- The bytes of a row, one of them changed. -/
theorem bytes_changed {w : World} {g n pl : Nat} {zs : List Int} {v : Int} (hl : zs.length = n) (hb : AllB zs) (hc : ∀ i, i < n → w.cell? ⟨g, i, none⟩ = some (.int .u8 (zs.getD i 0))) (hp : pl < n) (hv : 0 ≤ v ∧ v ≤ 255) : BytesAt (w.setCell ⟨g, pl, none⟩ (.int .u8 v)).drew (some ⟨g, 0, none⟩) n (zs.set pl v) := by
  have hs := allB_set zs pl v hb hv
  refine ⟨by rw [List.length_set, hl], fun i hi => hs i (by rw [List.length_set, hl]; exact hi), fun _ => ⟨g, 0, rfl, fun i hi => ?_⟩⟩
  rw [Nat.zero_add]
  show (w.setCell ⟨g, pl, none⟩ (.int .u8 v)).cell? ⟨g, i, none⟩ = _
  by_cases e : i = pl
  · subst e
    rw [World.cell?_setCell_same' _ _ _ (by rw [hc i hi]; rfl), getD_set_self zs i v 0 (by rw [hl]; exact hi)]
  · rw [World.cell?_setCell_other _ _ _ _ (by intro h; cases h; exact e rfl), hc i hi, getD_set_other zs pl i v 0 (fun h => e h.symm)]
/-! ### The elements that were seen -/
/-- Block b is a map in which no number is true but those of the list's first k. -/
def Seen (w : World) (b k : Nat) (zs : List Int) : Prop :=
  ∃ D : DataW Unit, w.ownsMap Tryz.prog 3 (plainElem Tryz.prog 4) b k D ∧ ∀ z : Int, (∀ i, i < k → zs.getD i 0 ≠ z) → D.atKey (.int .i64 z) (.lit (.bool false)) = .lit (.bool false)
theorem Seen.made (w : World) (zs : List Int) : Seen (w.alloc (.map #[] 0)) w.heap.size 0 zs :=
  ⟨.map [], World.ownsMap_made _ _ _ _, fun _ _ => rfl⟩
theorem key_int {z : Int} (hz : -9223372036854775808 ≤ z ∧ z ≤ 9223372036854775807) : keyOf Tryz.prog 3 (.int .i64 z) = some (.int .i64 z) :=
  Maps.keyOf_int_mk Tryz.underlying3 (WalkArith.wf_i64 hz)
theorem bool_false_of {P : Program} {e : TypeId} {v : Value} {ps : List MemPlace} (he : P.underlying e = some .bool) (hv : plainElem (H := Unit) P e v = some (.lit (.bool false), ps)) : v = .bool false := by
  unfold plainElem at hv
  rw [he] at hv
  cases v <;> simp at hv
  rw [hv.1]
theorem Seen.look {w : World} {b k : Nat} {zs : List Int} (h : Seen w b k zs) {z : Int} (hz : -9223372036854775808 ≤ z ∧ z ≤ 9223372036854775807) (hn : ∀ i, i < k → zs.getD i 0 ≠ z) :
    (Instr.lookup 179 (.map (some b)) (.int .i64 z) false).run Tryz.prog w = .ok (.bool false) w := by
  obtain ⟨D, hD, hf⟩ := h
  obtain ⟨v, ps, hrun, hv⟩ := hD.lookup (Maps.int_keyed Tryz.underlying3) Tryz.underlying179 (z := .bool false) (by kernel_rfl) (plainElem_bool Tryz.underlying4 false) (key_int hz)
  rw [hf z hn] at hv
  rw [hrun, bool_false_of Tryz.underlying4 hv]
theorem Seen.put {w' : World} {b k : Nat} {zs : List Int} {D : DataW Unit} (hf : ∀ z : Int, (∀ i, i < k → zs.getD i 0 ≠ z) → D.atKey (.int .i64 z) (.lit (.bool false)) = .lit (.bool false))
    (h : w'.ownsMap Tryz.prog 3 (plainElem Tryz.prog 4) b (k + 1) (D.put (.int .i64 (zs.getD k 0)) (.lit (.bool true)))) : Seen w' b (k + 1) zs := by
  refine ⟨_, h, fun z hz => ?_⟩
  rw [Maps.atKey_put_other (by intro e; cases e; exact hz k (by omega) rfl)]
  exact hf z (fun i hi => hz i (by omega))
end Go.Proofs.YtoipafnlcchmbaaGreatDoor
