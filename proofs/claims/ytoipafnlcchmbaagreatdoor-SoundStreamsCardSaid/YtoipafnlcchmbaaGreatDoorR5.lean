/- The law's conversions of packets, there and back (made by wip/tools/gen_r5p.py). -/
import Derived.Test.YtoipafnlcchmbaaGreatDoorQH
import Derived.Test.YtoipafnlcchmbaaGreatDoorQMx
import Derived.Test.YtoipafnlcchmbaaGreatDoorR1
import Derived.Great.BuildSlice
import Derived.WalkMore
import Derived.RangeFuncBox
namespace Go.Proofs.YtoipafnlcchmbaaGreatDoor
open Go.RowKit

def pksCells (l : List Pk) : List Value := l.flatMap fun p => p.cells.toList
theorem pksCells_snoc (l : List Pk) (p : Pk) : pksCells (l ++ [p]) = pksCells l ++ p.cells.toList := by simp [pksCells]
def All18 (l : List Pk) : Prop := ∀ i, i < l.length → (l.getD i Pk.none).ps.length = 18
theorem All18.cons {p : Pk} {l : List Pk} (h : All18 (p :: l)) : p.ps.length = 18 ∧ All18 l := ⟨by simpa using h 0 (by simp), fun i hi => by simpa using h (i + 1) (by simp; omega)⟩
theorem pksCells_at (l : List Pk) (h : All18 l) (i : Nat) (hi : i < l.length) (j : Nat) (hj : j < 22) : (pksCells l)[i * 22 + j]? = (l.getD i Pk.none).cells[j]? := by
  induction l generalizing i with
  | nil => simp at hi
  | cons p l ih =>
    obtain ⟨h1, h2⟩ := h.cons
    have hp : p.cells.toList.length = 22 := by rw [Array.length_toList, Pk.size h1]
    have e : pksCells (p :: l) = p.cells.toList ++ pksCells l := rfl
    rw [e]
    cases i with
    | zero =>
      rw [List.getElem?_append_left (by omega)]
      simp
    | succ i =>
      rw [List.getElem?_append_right (by omega), hp, show (i + 1) * 22 + j - 22 = i * 22 + j by omega, ih h2 i (by simpa using hi)]
      simp
/-- A slice of packets of the call's own (of either type). -/
def OwnP (e : TypeId) (w : World) (base : Nat) (v : Value) (l : List Pk) : Prop := w.ownsRow base e 22 v l.length (pksCells l)
theorem OwnP.at_ {e : TypeId} {w : World} {base : Nat} {v : Value} {l : List Pk} (h : OwnP e w base v l) (ha : All18 l) : ∃ A c, v = .slice A l.length c ∧ PksAt w A l.length l := by
  have h0 := h
  rcases h.2 with ⟨hv, hn⟩ | ⟨g, cap, cur, hv, hb, hg, hnc, hm, hs', ht⟩
  · exact ⟨none, 0, by rw [hv, hn], ⟨rfl, fun i hi => ha i hi, fun h => by omega⟩⟩
  · subst hv
    refine ⟨_, _, rfl, ⟨rfl, fun i hi => ha i hi, fun _ => ⟨g, 0, rfl, fun i hi j hj => ?_⟩⟩⟩
    rw [Nat.zero_add, World.ownsRow.cellAt h0 (i * 22 + j) (by omega)]
    exact pksCells_at l ha i hi j hj
theorem fill_pk (cs : Array Value) (h : cs.size = 22) : Instr.fill (fun i => some (i * 22, 22)) ((Array.range (1 * 22)).map ((Value.agg #[.int .i64 0, .int .i64 0, .int .i64 0, .int .i64 0, .int .u8 0, .int .u8 0, .int .u8 0, .int .u8 0, .int .u8 0, .int .u8 0, .int .u8 0, .int .u8 0, .int .u8 0, .int .u8 0, .int .u8 0, .int .u8 0, .int .u8 0, .int .u8 0, .int .u8 0, .int .u8 0, .int .u8 0, .int .u8 0]).cells[· % (Value.agg #[.int .i64 0, .int .i64 0, .int .i64 0, .int .i64 0, .int .u8 0, .int .u8 0, .int .u8 0, .int .u8 0, .int .u8 0, .int .u8 0, .int .u8 0, .int .u8 0, .int .u8 0, .int .u8 0, .int .u8 0, .int .u8 0, .int .u8 0, .int .u8 0, .int .u8 0, .int .u8 0, .int .u8 0, .int .u8 0]).cells.size]!)) [(0, .agg cs)] = some cs := by
  obtain ⟨l⟩ := cs
  match l, h with
  | [c0, c1, c2, c3, c4, c5, c6, c7, c8, c9, c10, c11, c12, c13, c14, c15, c16, c17, c18, c19, c20, c21], _ => show _ = _; kernel_rfl
theorem fold22 (cs : Array Value) (h : cs.size = 22) : Array.foldl (fun (cs : Array Value) (x : Value × Nat) => cs.setIfInBounds x.snd x.fst) (#[.int .i64 0, .int .i64 0, .int .i64 0, .int .i64 0, .int .u8 0, .int .u8 0, .int .u8 0, .int .u8 0, .int .u8 0, .int .u8 0, .int .u8 0, .int .u8 0, .int .u8 0, .int .u8 0, .int .u8 0, .int .u8 0, .int .u8 0, .int .u8 0, .int .u8 0, .int .u8 0, .int .u8 0, .int .u8 0] : Array Value) cs.zipIdx 0 cs.size = cs := by
  obtain ⟨l⟩ := cs
  match l, h with
  | [c0, c1, c2, c3, c4, c5, c6, c7, c8, c9, c10, c11, c12, c13, c14, c15, c16, c17, c18, c19, c20, c21], _ => show _ = _; kernel_rfl
theorem infoPkR : (Tryz.prog.info? 97).map (fun i => (i.zero, i.size, i.bytes)) = some (some (.agg #[.int .i64 0, .int .i64 0, .int .i64 0, .int .i64 0, .int .u8 0, .int .u8 0, .int .u8 0, .int .u8 0, .int .u8 0, .int .u8 0, .int .u8 0, .int .u8 0, .int .u8 0, .int .u8 0, .int .u8 0, .int .u8 0, .int .u8 0, .int .u8 0, .int .u8 0, .int .u8 0, .int .u8 0, .int .u8 0]), 22, 56) := by kernel_rfl

set_option maxHeartbeats 2000000 in
set_option maxRecDepth 100000 in
theorem packets_any (A : Option Addr) (n c : Nat) (l : List Pk) (w : World) (hz : PksAt w A n l) (hn : n ≤ 100000) :
    Calls Tryz.prog 78 #[.slice A n c] w fun e w' => ∃ A' c', e = .returned (.slice A' n c') ∧ PksAt w' A' n l ∧ Below w.heap.size w w' := by
  obtain ⟨i0, hi, hz0, hz1, hz2⟩ := info_parts infoPk
  have HZ := Lib.hid hz
  clear hz
  go_enter Tryz.func78, Tryz.ntmps78
  go_wp2
  go_loopw [3, 8] (fun v i wr => ∃ k : Nat, k ≤ n ∧ i = .int .i64 k ∧ OwnP 101 wr w.heap.size v (l.take k) ∧ Below w.heap.size w wr) (fun _ i _ => n - (intOf i).toNat)
  case atStart => exact ⟨0, Nat.zero_le _, rfl, World.ownsRow_nil _ _ _ _, Below.refl _ _⟩
  case round =>
    obtain ⟨k, hk, rfl, hown, hb⟩ := hrel
    by_cases hlt : k < n
    · obtain ⟨b, off, rfl, hcc⟩ := (HZ.out.keep hb).2.2 (by omega)
      obtain ⟨p, hp⟩ : ∃ p, p = l.getD k Pk.none := ⟨_, rfl⟩
      have hps := HZ.out.2.1 k hlt
      have hc1 := hcc k hlt
      rw [← hp] at hc1 hps
      have HT : Hid (l.take (k + 1) = l.take k ++ [p]) := by
        show _ = _
        have hkl : k < l.length := by rw [HZ.out.1]; exact hlt
        have hg : l.getD k Pk.none = l[k] := by simp [List.getD_eq_getElem?_getD, List.getElem?_eq_getElem hkl]
        rw [hp, hg]
        exact (List.take_append_getElem hkl).symm
      obtain ⟨cs, hcs⟩ : ∃ cs, cs = p.cells := ⟨_, rfl⟩
      have hsz : Hid (cs.size = 22) := by rw [hcs]; exact Pk.size hps
      have hone : Hid (cs.all (·.oneCell') = true) := by rw [hcs]; exact pkA_one ..
      have C1 : Hid (∀ j, j < cs.size → wr.cell? ⟨b, off + k * 22 + j, none⟩ = cs[j]?) := by
        show ∀ j, _ → _
        rw [hsz.out, hcs]; exact hc1
      have hinfo : Hid ((Tryz.prog.info? 97).map (·.size) = some cs.size) := by show _ = _; rw [hsz.out]; kernel_rfl
      have BZ : Hid (Blk (wr.alloc (.cells #[.int .i64 0, .int .i64 0, .int .i64 0, .int .i64 0, .int .u8 0, .int .u8 0, .int .u8 0, .int .u8 0, .int .u8 0, .int .u8 0, .int .u8 0, .int .u8 0, .int .u8 0, .int .u8 0, .int .u8 0, .int .u8 0, .int .u8 0, .int .u8 0, .int .u8 0, .int .u8 0, .int .u8 0, .int .u8 0] 97)) wr.heap.size 97 #[.int .i64 0, .int .i64 0, .int .i64 0, .int .i64 0, .int .u8 0, .int .u8 0, .int .u8 0, .int .u8 0, .int .u8 0, .int .u8 0, .int .u8 0, .int .u8 0, .int .u8 0, .int .u8 0, .int .u8 0, .int .u8 0, .int .u8 0, .int .u8 0, .int .u8 0, .int .u8 0, .int .u8 0, .int .u8 0]) := Blk.new wr _ _
      have ho : Hid ((#[.int .i64 0, .int .i64 0, .int .i64 0, .int .i64 0, .int .u8 0, .int .u8 0, .int .u8 0, .int .u8 0, .int .u8 0, .int .u8 0, .int .u8 0, .int .u8 0, .int .u8 0, .int .u8 0, .int .u8 0, .int .u8 0, .int .u8 0, .int .u8 0, .int .u8 0, .int .u8 0, .int .u8 0, .int .u8 0] : Array Value).size = cs.size) := by show _ = _; rw [hsz.out]; rfl
      have hown0 : wr.ownsRow w.heap.size 101 22 u3 k (pksCells (l.take k)) := by
        have := hown
        unfold OwnP at this
        rwa [List.length_take, HZ.out.1, Nat.min_eq_left hk] at this
      have HO := Lib.hid hown0
      have HB := Lib.hid hb
      have HCS := Lib.hid hcs
      clear hcc hp hc1 hcs hown hb hps hown0
      go_upto_region 5 with (first
        | (refine wpList_load_midA rfl 97 _ rfl b (off + k * 22) rfl cs _ C1.out Tryz.underlying97 rfl hinfo.out ?_)
        | (refine wpList_store_row rfl 97 _ _ rfl wr.heap.size cs rfl rfl 97 _ BZ.out hinfo.out ho.out hone.out ?_))
      obtain ⟨W1, hW1⟩ : ∃ X, X = (wr.alloc (.cells #[.int .i64 0, .int .i64 0, .int .i64 0, .int .i64 0, .int .u8 0, .int .u8 0, .int .u8 0, .int .u8 0, .int .u8 0, .int .u8 0, .int .u8 0, .int .u8 0, .int .u8 0, .int .u8 0, .int .u8 0, .int .u8 0, .int .u8 0, .int .u8 0, .int .u8 0, .int .u8 0, .int .u8 0, .int .u8 0] 97)).setRow wr.heap.size cs := ⟨_, rfl⟩
      rw [← hW1]
      have hf := box_facts_row (W := wr) #[.int .i64 0, .int .i64 0, .int .i64 0, .int .i64 0, .int .u8 0, .int .u8 0, .int .u8 0, .int .u8 0, .int .u8 0, .int .u8 0, .int .u8 0, .int .u8 0, .int .u8 0, .int .u8 0, .int .u8 0, .int .u8 0, .int .u8 0, .int .u8 0, .int .u8 0, .int .u8 0, .int .u8 0, .int .u8 0] cs 97 rfl W1 hW1
      have HQ := Lib.hid hf.1
      have HO1 : Hid (W1.ownsRow w.heap.size 101 22 u3 k (pksCells (l.take k))) := HO.out.kept (row := none) ⟨hf.2.os, hf.2.tape, hf.2.output, hf.2.size, fun k hk _ => hf.2.block k hk⟩ (by cases hv : u3.ownBlock <;> simp)
      have HB1 := Lib.hid (HB.out.trans (hf.2.mono HB.out.size))
      obtain ⟨q, hq⟩ : ∃ q, q = wr.heap.size := ⟨_, rfl⟩
      rw [← hq] at HQ ⊢
      clear hf hW1 HO HB C1 BZ ho hq
      have hsz1 := HB1.out.size
      have hfold := fold22 cs hsz.out
      have hs22 : cs.size = 22 := hsz.out
      rw [hs22] at hfold
      go_wp2_with (first
        | (refine wpList_load_row rfl 97 _ rfl q rfl 97 cs (0, 0) _ HQ.out Tryz.underlying97 rfl hinfo.out ?_)
        | (at_builtin; refine wpList_append_own _ rfl _ _ 118 rfl w.heap.size 101 i0 (.agg #[.int .i64 0, .int .i64 0, .int .i64 0, .int .i64 0, .int .u8 0, .int .u8 0, .int .u8 0, .int .u8 0, .int .u8 0, .int .u8 0, .int .u8 0, .int .u8 0, .int .u8 0, .int .u8 0, .int .u8 0, .int .u8 0, .int .u8 0, .int .u8 0, .int .u8 0, .int .u8 0, .int .u8 0, .int .u8 0]) 22 56 Tryz.underlying118 hi hz0 hz1 hz2 rfl (by decide) _ _ _ rfl (World.ownsRow.alloc HO1.out _) ⟨W1.heap.size, 0, none⟩ 1 1 cs.toList rfl (by rw [Array.length_toList, hsz.out]) (cells_new _ _ _) (fun u hu => by have := Array.all_eq_true'.1 hone.out u (by simpa using hu); simpa using this) (by unfold maxLen; omega) (by omega) (by simp; omega) ?_; intro v' w1 hown' hgrow _))
      have R : OwnP 101 w1 w.heap.size v' (l.take (k + 1)) := by
        unfold OwnP
        rw [HT.out, pksCells_snoc, List.length_append, List.length_take, HZ.out.1, Nat.min_eq_left hk, ← HCS.out]
        exact hown'
      have B1 : Below w.heap.size w w1 := Below.grown (HB1.out.alloc HB1.out.size _) hgrow (by simp; omega) (fun j hj => (HO1.out.lt j hj).1)
      clear hown' hgrow hfold hs22
      go_wp2
      go_roundw
      case rel => exact ⟨k + 1, by omega, by go_num, R, B1⟩
      case measure => simp [intOf]; omega
    · obtain rfl : k = n := by omega
      have HB := Lib.hid hb
      have ht : l.take k = l := List.take_of_length_le (by rw [HZ.out.1]; omega)
      rw [ht] at hown
      obtain ⟨A', c', hv, hh⟩ := OwnP.at_ hown (fun i hi => HZ.out.2.1 i (by rw [← HZ.out.1]; exact hi))
      rw [HZ.out.1] at hv hh
      have HH := Lib.hid hh
      subst hv
      clear hb hown hh
      go_wp2
      go_ret
      exact ⟨_, _, rfl, HH.out, HB.out⟩

set_option maxHeartbeats 2000000 in
set_option maxRecDepth 100000 in
theorem back_any (A : Option Addr) (n c : Nat) (l : List Pk) (w : World) (hz : PksAt w A n l) (hn : n ≤ 100000) :
    Calls Tryz.prog 84 #[.slice A n c] w fun e w' => ∃ A' c', e = .returned (.slice A' n c') ∧ PksAt w' A' n l ∧ Below w.heap.size w w' := by
  obtain ⟨i0, hi, hz0, hz1, hz2⟩ := info_parts infoPkR
  have HZ := Lib.hid hz
  clear hz
  go_enter Tryz.func84, Tryz.ntmps84
  go_wp2
  go_loopw [3, 8] (fun v i wr => ∃ k : Nat, k ≤ n ∧ i = .int .i64 k ∧ OwnP 97 wr w.heap.size v (l.take k) ∧ Below w.heap.size w wr) (fun _ i _ => n - (intOf i).toNat)
  case atStart => exact ⟨0, Nat.zero_le _, rfl, World.ownsRow_nil _ _ _ _, Below.refl _ _⟩
  case round =>
    obtain ⟨k, hk, rfl, hown, hb⟩ := hrel
    by_cases hlt : k < n
    · obtain ⟨b, off, rfl, hcc⟩ := (HZ.out.keep hb).2.2 (by omega)
      obtain ⟨p, hp⟩ : ∃ p, p = l.getD k Pk.none := ⟨_, rfl⟩
      have hps := HZ.out.2.1 k hlt
      have hc1 := hcc k hlt
      rw [← hp] at hc1 hps
      have HT : Hid (l.take (k + 1) = l.take k ++ [p]) := by
        show _ = _
        have hkl : k < l.length := by rw [HZ.out.1]; exact hlt
        have hg : l.getD k Pk.none = l[k] := by simp [List.getD_eq_getElem?_getD, List.getElem?_eq_getElem hkl]
        rw [hp, hg]
        exact (List.take_append_getElem hkl).symm
      obtain ⟨cs, hcs⟩ : ∃ cs, cs = p.cells := ⟨_, rfl⟩
      have hsz : Hid (cs.size = 22) := by rw [hcs]; exact Pk.size hps
      have hone : Hid (cs.all (·.oneCell') = true) := by rw [hcs]; exact pkA_one ..
      have C1 : Hid (∀ j, j < cs.size → wr.cell? ⟨b, off + k * 22 + j, none⟩ = cs[j]?) := by
        show ∀ j, _ → _
        rw [hsz.out, hcs]; exact hc1
      have hinfo : Hid ((Tryz.prog.info? 101).map (·.size) = some cs.size) := by show _ = _; rw [hsz.out]; kernel_rfl
      have BZ : Hid (Blk (wr.alloc (.cells #[.int .i64 0, .int .i64 0, .int .i64 0, .int .i64 0, .int .u8 0, .int .u8 0, .int .u8 0, .int .u8 0, .int .u8 0, .int .u8 0, .int .u8 0, .int .u8 0, .int .u8 0, .int .u8 0, .int .u8 0, .int .u8 0, .int .u8 0, .int .u8 0, .int .u8 0, .int .u8 0, .int .u8 0, .int .u8 0] 101)) wr.heap.size 101 #[.int .i64 0, .int .i64 0, .int .i64 0, .int .i64 0, .int .u8 0, .int .u8 0, .int .u8 0, .int .u8 0, .int .u8 0, .int .u8 0, .int .u8 0, .int .u8 0, .int .u8 0, .int .u8 0, .int .u8 0, .int .u8 0, .int .u8 0, .int .u8 0, .int .u8 0, .int .u8 0, .int .u8 0, .int .u8 0]) := Blk.new wr _ _
      have ho : Hid ((#[.int .i64 0, .int .i64 0, .int .i64 0, .int .i64 0, .int .u8 0, .int .u8 0, .int .u8 0, .int .u8 0, .int .u8 0, .int .u8 0, .int .u8 0, .int .u8 0, .int .u8 0, .int .u8 0, .int .u8 0, .int .u8 0, .int .u8 0, .int .u8 0, .int .u8 0, .int .u8 0, .int .u8 0, .int .u8 0] : Array Value).size = cs.size) := by show _ = _; rw [hsz.out]; rfl
      have hown0 : wr.ownsRow w.heap.size 97 22 u3 k (pksCells (l.take k)) := by
        have := hown
        unfold OwnP at this
        rwa [List.length_take, HZ.out.1, Nat.min_eq_left hk] at this
      have HO := Lib.hid hown0
      have HB := Lib.hid hb
      have HCS := Lib.hid hcs
      clear hcc hp hc1 hcs hown hb hps hown0
      go_upto_region 5 with (first
        | (refine wpList_load_midA rfl 101 _ rfl b (off + k * 22) rfl cs _ C1.out Tryz.underlying101 rfl hinfo.out ?_)
        | (refine wpList_store_row rfl 101 _ _ rfl wr.heap.size cs rfl rfl 101 _ BZ.out hinfo.out ho.out hone.out ?_))
      obtain ⟨W1, hW1⟩ : ∃ X, X = (wr.alloc (.cells #[.int .i64 0, .int .i64 0, .int .i64 0, .int .i64 0, .int .u8 0, .int .u8 0, .int .u8 0, .int .u8 0, .int .u8 0, .int .u8 0, .int .u8 0, .int .u8 0, .int .u8 0, .int .u8 0, .int .u8 0, .int .u8 0, .int .u8 0, .int .u8 0, .int .u8 0, .int .u8 0, .int .u8 0, .int .u8 0] 101)).setRow wr.heap.size cs := ⟨_, rfl⟩
      rw [← hW1]
      have hf := box_facts_row (W := wr) #[.int .i64 0, .int .i64 0, .int .i64 0, .int .i64 0, .int .u8 0, .int .u8 0, .int .u8 0, .int .u8 0, .int .u8 0, .int .u8 0, .int .u8 0, .int .u8 0, .int .u8 0, .int .u8 0, .int .u8 0, .int .u8 0, .int .u8 0, .int .u8 0, .int .u8 0, .int .u8 0, .int .u8 0, .int .u8 0] cs 101 rfl W1 hW1
      have HQ := Lib.hid hf.1
      have HO1 : Hid (W1.ownsRow w.heap.size 97 22 u3 k (pksCells (l.take k))) := HO.out.kept (row := none) ⟨hf.2.os, hf.2.tape, hf.2.output, hf.2.size, fun k hk _ => hf.2.block k hk⟩ (by cases hv : u3.ownBlock <;> simp)
      have HB1 := Lib.hid (HB.out.trans (hf.2.mono HB.out.size))
      obtain ⟨q, hq⟩ : ∃ q, q = wr.heap.size := ⟨_, rfl⟩
      rw [← hq] at HQ ⊢
      clear hf hW1 HO HB C1 BZ ho hq
      have hsz1 := HB1.out.size
      have hfold := fold22 cs hsz.out
      have hs22 : cs.size = 22 := hsz.out
      rw [hs22] at hfold
      go_wp2_with (first
        | (refine wpList_load_row rfl 101 _ rfl q rfl 101 cs (0, 0) _ HQ.out Tryz.underlying101 rfl hinfo.out ?_)
        | (at_builtin; refine wpList_append_own _ rfl _ _ 114 rfl w.heap.size 97 i0 (.agg #[.int .i64 0, .int .i64 0, .int .i64 0, .int .i64 0, .int .u8 0, .int .u8 0, .int .u8 0, .int .u8 0, .int .u8 0, .int .u8 0, .int .u8 0, .int .u8 0, .int .u8 0, .int .u8 0, .int .u8 0, .int .u8 0, .int .u8 0, .int .u8 0, .int .u8 0, .int .u8 0, .int .u8 0, .int .u8 0]) 22 56 Tryz.underlying114 hi hz0 hz1 hz2 rfl (by decide) _ _ _ rfl (World.ownsRow.alloc HO1.out _) ⟨W1.heap.size, 0, none⟩ 1 1 cs.toList rfl (by rw [Array.length_toList, hsz.out]) (cells_new _ _ _) (fun u hu => by have := Array.all_eq_true'.1 hone.out u (by simpa using hu); simpa using this) (by unfold maxLen; omega) (by omega) (by simp; omega) ?_; intro v' w1 hown' hgrow _))
      have R : OwnP 97 w1 w.heap.size v' (l.take (k + 1)) := by
        unfold OwnP
        rw [HT.out, pksCells_snoc, List.length_append, List.length_take, HZ.out.1, Nat.min_eq_left hk, ← HCS.out]
        exact hown'
      have B1 : Below w.heap.size w w1 := Below.grown (HB1.out.alloc HB1.out.size _) hgrow (by simp; omega) (fun j hj => (HO1.out.lt j hj).1)
      clear hown' hgrow hfold hs22
      go_wp2
      go_roundw
      case rel => exact ⟨k + 1, by omega, by go_num, R, B1⟩
      case measure => simp [intOf]; omega
    · obtain rfl : k = n := by omega
      have HB := Lib.hid hb
      have ht : l.take k = l := List.take_of_length_le (by rw [HZ.out.1]; omega)
      rw [ht] at hown
      obtain ⟨A', c', hv, hh⟩ := OwnP.at_ hown (fun i hi => HZ.out.2.1 i (by rw [← HZ.out.1]; exact hi))
      rw [HZ.out.1] at hv hh
      have HH := Lib.hid hh
      subst hv
      clear hb hown hh
      go_wp2
      go_ret
      exact ⟨_, _, rfl, HH.out, HB.out⟩
end Go.Proofs.YtoipafnlcchmbaaGreatDoor
