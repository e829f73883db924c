/- The reading of the strings of energies: readers, lines, Parse. The reading of the strings of energies: lines, Read. -/
import Derived.Test.YtoipafnlcchmbaaGreatDoorQOy
import Derived.Maps.Own
import Derived.Maps.Views
import Derived.Deep.RegionHeld3
namespace Go.Proofs.YtoipafnlcchmbaaGreatDoor
open Go.RowKit Go.Sort

theorem wpList_insert_own {H : Type} {P : Program} (w : World) {ops : Array Oper} {rest : List Oper} {o : Oper} {a : Act} {Q : Exit → Act → World → Prop}
    (hg : o.guard = none) (m x v : Operand) (t : TypeId) (hop : o.op = Op.insert t m x v)
    (k e : TypeId) (K : Maps.Keyed P k) (ht : P.underlying t = some (.map k e)) (R : Value → Option (DataW H × List MemPlace)) (b n : Nat) (D : DataW H)
    (hm : a.eval m = .map (some b)) (hown : w.ownsMap P k R b n D) (hn : n < maxLen) (key val : Value) (kl : Lit) (hx : a.eval x = key) (hv : a.eval v = val) (hkey : keyOf P k key = some kl)
    (d : DataW H) (ps : List MemPlace) (hval : R val = some (d, ps))
    (hK : ∀ w', w'.ownsMap P k R b (n + 1) (D.put kl d) → w.grownBy w' (some b) → wpList P ops Q rest (a.put o.dst undef) w') :
    wpList P ops Q (o :: rest) a w := by
  refine wpList_plain hg fun K' hK' => ?_
  obtain ⟨w', hrun, r1, r2⟩ := hown.update K ht hn hkey hval
  unfold Oper.wp
  simp [execOp, hop, hm, hx, hv, hrun, Result.andThen]
  exact hK' _ _ (hK w' r1 r2)

def energiesL : List UInt8 := [101, 110, 101, 114, 103, 105, 101, 115]
def energyL : List UInt8 := [101, 110, 101, 114, 103, 121]
def formsD : DataW Unit := ((DataW.map []).put (.string energiesL) (.lit (.int .i64 9))).put (.string energyL) (.lit (.int .i64 15))
/-- The table of the words of lines. -/
def FormsAt (w : World) (b : Nat) : Prop := w.ownsMap Tryz.prog 9 (plainElem (H := Unit) Tryz.prog 3) b 2 formsD
theorem FormsAt.later {w w' : World} {b : Nat} (h : FormsAt w b) (hb : Below w.heap.size w w') : FormsAt w' b :=
  World.ownsMap.kept h (row := none) ⟨hb.os, hb.tape, hb.output, hb.size, fun k hk _ => hb.block k hk⟩ (by simp)
theorem key1 : keyOf Tryz.prog 9 (.string ⟨#[101, 110, 101, 114, 103, 105, 101, 115]⟩) = some (.string energiesL) := by kernel_rfl
theorem key2 : keyOf Tryz.prog 9 (.string ⟨#[101, 110, 101, 114, 103, 121]⟩) = some (.string energyL) := by kernel_rfl
theorem val1 : plainElem (H := Unit) Tryz.prog 3 (.int .i64 9) = some (.lit (.int .i64 9), []) := plainElem_int Tryz.underlying3 (by decide)
theorem val2 : plainElem (H := Unit) Tryz.prog 3 (.int .i64 15) = some (.lit (.int .i64 15), []) := plainElem_int Tryz.underlying3 (by decide)
theorem FormsAt.look1 {w : World} {b : Nat} (h : FormsAt w b) : (Instr.lookup 270 (.map (some b)) (.string ⟨#[101, 110, 101, 114, 103, 105, 101, 115]⟩) false).run Tryz.prog w = .ok (.int .i64 9) w := by
  obtain ⟨c, hrun, hat, _⟩ := World.ownsMap.lookup_int h (Maps.string_keyed Tryz.underlying9) Tryz.underlying270 Tryz.underlying3 (by kernel_rfl) key1
  have e : formsD.atKey (.string energiesL) (.lit (.int .i64 0)) = .lit (.int .i64 9) := by kernel_rfl
  rw [e] at hat
  have h2 := (Lit.int.inj (DataW.lit.inj hat)).2
  rw [hrun, ← h2]
theorem FormsAt.look2 {w : World} {b : Nat} (h : FormsAt w b) : (Instr.lookup 270 (.map (some b)) (.string ⟨#[101, 110, 101, 114, 103, 121]⟩) false).run Tryz.prog w = .ok (.int .i64 15) w := by
  obtain ⟨c, hrun, hat, _⟩ := World.ownsMap.lookup_int h (Maps.string_keyed Tryz.underlying9) Tryz.underlying270 Tryz.underlying3 (by kernel_rfl) key2
  have e : formsD.atKey (.string energyL) (.lit (.int .i64 0)) = .lit (.int .i64 15) := by kernel_rfl
  rw [e] at hat
  have h2 := (Lit.int.inj (DataW.lit.inj hat)).2
  rw [hrun, ← h2]
set_option maxHeartbeats 1000000 in
set_option maxRecDepth 100000 in
theorem forms_any (w : World) :
    Calls Tryz.prog 185 #[] w fun e w' => ∃ b, e = .returned (.map (some b)) ∧ FormsAt w' b ∧ Below w.heap.size w w' := by
  have hmm := @run_makeMap Tryz.prog
  have hO : (w.alloc (.map #[] 0)).ownsMap Tryz.prog 9 (plainElem (H := Unit) Tryz.prog 3) w.heap.size 0 (.map []) := World.ownsMap_made _ _ _ _
  have HB0 : Hid (Below w.heap.size w (w.alloc (.map #[] 0))) := (Below.refl _ _).alloc (Nat.le_refl _) _
  have HO := Lib.hid hO
  clear hO
  go_enter Tryz.func185, Tryz.ntmps185
  go_wp2_with (first
    | (refine wpList_insert_own _ rfl (.tmp 1) (.const (.string ⟨#[101, 110, 101, 114, 103, 105, 101, 115]⟩)) (.const (.int .i64 9)) 270 rfl 9 3 (Maps.string_keyed Tryz.underlying9) Tryz.underlying270 (plainElem (H := Unit) Tryz.prog 3) w.heap.size 0 (.map []) rfl HO.out (by unfold maxLen; omega) _ _ _ rfl rfl key1 _ [] val1 ?_; intro w1 hown1 hgrow1)
    | (refine wpList_insert_own _ rfl (.tmp 1) (.const (.string ⟨#[101, 110, 101, 114, 103, 121]⟩)) (.const (.int .i64 15)) 270 rfl 9 3 (Maps.string_keyed Tryz.underlying9) Tryz.underlying270 (plainElem (H := Unit) Tryz.prog 3) w.heap.size (0 + 1) _ rfl hown1 (by unfold maxLen; omega) _ _ _ rfl rfl key2 _ [] val2 ?_; intro w2 hown2 hgrow2))
  have HB1 : Hid (Below w.heap.size w w1) := HB0.out.grown hgrow1 HB0.out.size (fun j hj => by cases hj; exact Nat.le_refl _)
  have HO2 : Hid (FormsAt w2 w.heap.size) := hown2
  have HB2 : Hid (Below w.heap.size w w2) := HB1.out.grown hgrow2 HB1.out.size (fun j hj => by cases hj; exact Nat.le_refl _)
  clear hown1 hgrow1 hown2 hgrow2
  go_ret
  exact ⟨w.heap.size, rfl, HO2.out, HB2.out⟩

theorem FormsAt.alloc {w : World} {b : Nat} (h : FormsAt w b) (o : Obj) : FormsAt (w.alloc o) b := World.ownsMap.alloc h o
theorem FormsAt.drew {w : World} {b : Nat} (h : FormsAt w b) : FormsAt w.drew b := h
def ReaderPost (w : World) (wd : ByteArray) (k : Nat) (e : Ending) (w' : World) : Prop :=
  ∃ p1 p2, e = .returned (.func (.func 186) #[] #[.pointer (some ⟨p1, 0, none⟩), .pointer (some ⟨p2, 0, none⟩)]) ∧ p1 < w'.heap.size ∧ p2 < w'.heap.size ∧ w'.cell? ⟨p1, 0, none⟩ = some (.string wd) ∧ w'.cell? ⟨p2, 0, none⟩ = some (.int .i64 k) ∧ Below w.heap.size w w'
set_option maxHeartbeats 4000000 in
set_option maxRecDepth 100000 in
theorem reader_count (w : World) :
    Calls Tryz.prog 162 #[.string ⟨#[101, 110, 101, 114, 103, 105, 101, 115]⟩] w (ReaderPost w ⟨#[101, 110, 101, 114, 103, 105, 101, 115]⟩ 9) := by
  go_enter Tryz.func162, Tryz.ntmps162
  go_wp2_with fail
  obtain ⟨W0, hW0⟩ : ∃ W0, W0 = w.alloc (.cells #[.string ⟨#[101, 110, 101, 114, 103, 105, 101, 115]⟩] 9) := ⟨_, rfl⟩
  rw [← hW0]
  have B0 : Blk W0 w.heap.size 9 #[.string ⟨#[101, 110, 101, 114, 103, 105, 101, 115]⟩] := by rw [hW0]; exact Blk.new w _ _
  have hB : Below w.heap.size w W0 := by rw [hW0]; exact (Below.refl _ w).alloc (Nat.le_refl _) _
  have HB0 := Lib.hid B0
  have HBW := Lib.hid hB
  have HNE : Hid (w.heap.size ≠ (⟨W0.heap.size, 0, none⟩ : Addr).block) := by show w.heap.size ≠ W0.heap.size; have := lt_of_block B0; omega
  clear hB hW0
  have xc0 := B0.cell 0; have xf0 := B0.frozen 0
  simp only [List.getElem?_toArray, List.getElem?_cons_zero] at xc0
  clear B0
  go_region_held3 (fun W => W.cell? ⟨w.heap.size, 0, none⟩ = some (.string ⟨#[101, 110, 101, 114, 103, 105, 101, 115]⟩)) (first | exact KB.out.cell 0 | exact (KB.out.alloc _).cell 0 | exact (KB.out.far HNE.out _).cell 0 | exact (HB0.out.drew.alloc _).cell 0 | go_keep)
    ((go_at_call 185; refine (forms_any _).mono ?_; rintro e w1 ⟨b, rfl, hf, hb1⟩; (first | (have KB : Hid (Blk w1 w.heap.size 9 #[.string ⟨#[101, 110, 101, 114, 103, 105, 101, 115]⟩]) := HB0.out.drew.below hb1) | (have KB : Hid (Blk w1 w.heap.size 9 #[.string ⟨#[101, 110, 101, 114, 103, 105, 101, 115]⟩]) := (HB0.out.drew.alloc _).below hb1; have KZ : Blk w1 W0.heap.size 3 #[.int .i64 0] := (Blk.new W0.drew 3 #[.int .i64 0]).below hb1; have kz0 := KZ.cell 0; have kf0 := KZ.frozen 0; simp only [List.getElem?_toArray, List.getElem?_cons_zero] at kz0)); have hl1 := hf.look1; have hl2 := fun o => (hf.alloc o).look1; have G1 := Lib.hid hb1; clear hb1))
  · have hbf : Below w.heap.size w (w1.alloc (.cells #[.int .i64 9] 3)) := (HBW.out.drew.trans (G1.out.mono HBW.out.size)).alloc (by have := HBW.out.size; have := G1.out.size; simp at this; omega) _
    have HF := Lib.hid hbf
    have P1 : Hid ((w1.alloc (.cells #[.int .i64 9] 3)).cell? ⟨w.heap.size, 0, none⟩ = some (.string ⟨#[101, 110, 101, 114, 103, 105, 101, 115]⟩)) := (KB.out.alloc _).cell 0
    have P2 : Hid ((w1.alloc (.cells #[.int .i64 9] 3)).cell? ⟨w1.heap.size, 0, none⟩ = some (.int .i64 9)) := (Blk.new w1 _ _).cell 0
    have P3 : Hid (w.heap.size < w1.heap.size) := lt_of_block KB.out
    clear hbf hf hl1 hl2
    go_wp2
    go_ret
    exact ⟨w.heap.size, w1.heap.size, rfl, by have := P3.out; simp; omega, by simp, P1.out, P2.out, HF.out⟩
  · have hbf : Below w.heap.size w (w1.alloc (.cells #[.int .i64 9] 3)) := (HBW.out.drew.trans (G1.out.mono HBW.out.size)).alloc (by have := HBW.out.size; have := G1.out.size; simp at this; omega) _
    have HF := Lib.hid hbf
    have P1 : Hid ((w1.alloc (.cells #[.int .i64 9] 3)).cell? ⟨w.heap.size, 0, none⟩ = some (.string ⟨#[101, 110, 101, 114, 103, 105, 101, 115]⟩)) := (KB.out.alloc _).cell 0
    have P2 : Hid ((w1.alloc (.cells #[.int .i64 9] 3)).cell? ⟨w1.heap.size, 0, none⟩ = some (.int .i64 9)) := (Blk.new w1 _ _).cell 0
    have P3 : Hid (w.heap.size < w1.heap.size) := lt_of_block KB.out
    clear hbf hf hl1 hl2
    go_wp2
    go_ret
    exact ⟨w.heap.size, w1.heap.size, rfl, by have := P3.out; simp; omega, by simp, P1.out, P2.out, HF.out⟩
  · have hsz : w.heap.size ≤ W0.heap.size := HBW.out.size
    have hbf : Below w.heap.size w (w1.setCell ⟨W0.heap.size, 0, none⟩ (.int .i64 9)) := (((HBW.out.drew).alloc (by simpa using hsz) (.cells #[.int .i64 0] 3)).trans (G1.out.mono (by simp; omega))).setCell (p := ⟨W0.heap.size, 0, none⟩) hsz _
    have HF := Lib.hid hbf
    have P1 : Hid ((w1.setCell ⟨W0.heap.size, 0, none⟩ (.int .i64 9)).cell? ⟨w.heap.size, 0, none⟩ = some (.string ⟨#[101, 110, 101, 114, 103, 105, 101, 115]⟩)) := (KB.out.far HNE.out _).cell 0
    have P2 : Hid ((w1.setCell ⟨W0.heap.size, 0, none⟩ (.int .i64 9)).cell? ⟨W0.heap.size, 0, none⟩ = some (.int .i64 9)) := (KZ.set_ 0 _).cell 0
    have P3 : Hid (w.heap.size < w1.heap.size ∧ W0.heap.size < w1.heap.size) := ⟨lt_of_block KB.out, lt_of_block KZ⟩
    clear hbf hf hl1 hl2 KZ kz0 kf0
    go_wp2
    go_ret
    exact ⟨w.heap.size, W0.heap.size, rfl, by have := P3.out; simp; omega, by have := P3.out; simp; omega, P1.out, P2.out, HF.out⟩
set_option maxHeartbeats 4000000 in
set_option maxRecDepth 100000 in
theorem reader_energy (w : World) :
    Calls Tryz.prog 162 #[.string ⟨#[101, 110, 101, 114, 103, 121]⟩] w (ReaderPost w ⟨#[101, 110, 101, 114, 103, 121]⟩ 15) := by
  go_enter Tryz.func162, Tryz.ntmps162
  go_wp2_with fail
  obtain ⟨W0, hW0⟩ : ∃ W0, W0 = w.alloc (.cells #[.string ⟨#[101, 110, 101, 114, 103, 121]⟩] 9) := ⟨_, rfl⟩
  rw [← hW0]
  have B0 : Blk W0 w.heap.size 9 #[.string ⟨#[101, 110, 101, 114, 103, 121]⟩] := by rw [hW0]; exact Blk.new w _ _
  have hB : Below w.heap.size w W0 := by rw [hW0]; exact (Below.refl _ w).alloc (Nat.le_refl _) _
  have HB0 := Lib.hid B0
  have HBW := Lib.hid hB
  have HNE : Hid (w.heap.size ≠ (⟨W0.heap.size, 0, none⟩ : Addr).block) := by show w.heap.size ≠ W0.heap.size; have := lt_of_block B0; omega
  clear hB hW0
  have xc0 := B0.cell 0; have xf0 := B0.frozen 0
  simp only [List.getElem?_toArray, List.getElem?_cons_zero] at xc0
  clear B0
  go_region_held3 (fun W => W.cell? ⟨w.heap.size, 0, none⟩ = some (.string ⟨#[101, 110, 101, 114, 103, 121]⟩)) (first | exact KB.out.cell 0 | exact (KB.out.alloc _).cell 0 | exact (KB.out.far HNE.out _).cell 0 | exact (HB0.out.drew.alloc _).cell 0 | go_keep)
    ((go_at_call 185; refine (forms_any _).mono ?_; rintro e w1 ⟨b, rfl, hf, hb1⟩; (first | (have KB : Hid (Blk w1 w.heap.size 9 #[.string ⟨#[101, 110, 101, 114, 103, 121]⟩]) := HB0.out.drew.below hb1) | (have KB : Hid (Blk w1 w.heap.size 9 #[.string ⟨#[101, 110, 101, 114, 103, 121]⟩]) := (HB0.out.drew.alloc _).below hb1; have KZ : Blk w1 W0.heap.size 3 #[.int .i64 0] := (Blk.new W0.drew 3 #[.int .i64 0]).below hb1; have kz0 := KZ.cell 0; have kf0 := KZ.frozen 0; simp only [List.getElem?_toArray, List.getElem?_cons_zero] at kz0)); have hl1 := hf.look2; have hl2 := fun o => (hf.alloc o).look2; have G1 := Lib.hid hb1; clear hb1))
  · have hbf : Below w.heap.size w (w1.alloc (.cells #[.int .i64 15] 3)) := (HBW.out.drew.trans (G1.out.mono HBW.out.size)).alloc (by have := HBW.out.size; have := G1.out.size; simp at this; omega) _
    have HF := Lib.hid hbf
    have P1 : Hid ((w1.alloc (.cells #[.int .i64 15] 3)).cell? ⟨w.heap.size, 0, none⟩ = some (.string ⟨#[101, 110, 101, 114, 103, 121]⟩)) := (KB.out.alloc _).cell 0
    have P2 : Hid ((w1.alloc (.cells #[.int .i64 15] 3)).cell? ⟨w1.heap.size, 0, none⟩ = some (.int .i64 15)) := (Blk.new w1 _ _).cell 0
    have P3 : Hid (w.heap.size < w1.heap.size) := lt_of_block KB.out
    clear hbf hf hl1 hl2
    go_wp2
    go_ret
    exact ⟨w.heap.size, w1.heap.size, rfl, by have := P3.out; simp; omega, by simp, P1.out, P2.out, HF.out⟩
  · have hbf : Below w.heap.size w (w1.alloc (.cells #[.int .i64 15] 3)) := (HBW.out.drew.trans (G1.out.mono HBW.out.size)).alloc (by have := HBW.out.size; have := G1.out.size; simp at this; omega) _
    have HF := Lib.hid hbf
    have P1 : Hid ((w1.alloc (.cells #[.int .i64 15] 3)).cell? ⟨w.heap.size, 0, none⟩ = some (.string ⟨#[101, 110, 101, 114, 103, 121]⟩)) := (KB.out.alloc _).cell 0
    have P2 : Hid ((w1.alloc (.cells #[.int .i64 15] 3)).cell? ⟨w1.heap.size, 0, none⟩ = some (.int .i64 15)) := (Blk.new w1 _ _).cell 0
    have P3 : Hid (w.heap.size < w1.heap.size) := lt_of_block KB.out
    clear hbf hf hl1 hl2
    go_wp2
    go_ret
    exact ⟨w.heap.size, w1.heap.size, rfl, by have := P3.out; simp; omega, by simp, P1.out, P2.out, HF.out⟩
  · have hsz : w.heap.size ≤ W0.heap.size := HBW.out.size
    have hbf : Below w.heap.size w (w1.setCell ⟨W0.heap.size, 0, none⟩ (.int .i64 15)) := (((HBW.out.drew).alloc (by simpa using hsz) (.cells #[.int .i64 0] 3)).trans (G1.out.mono (by simp; omega))).setCell (p := ⟨W0.heap.size, 0, none⟩) hsz _
    have HF := Lib.hid hbf
    have P1 : Hid ((w1.setCell ⟨W0.heap.size, 0, none⟩ (.int .i64 15)).cell? ⟨w.heap.size, 0, none⟩ = some (.string ⟨#[101, 110, 101, 114, 103, 121]⟩)) := (KB.out.far HNE.out _).cell 0
    have P2 : Hid ((w1.setCell ⟨W0.heap.size, 0, none⟩ (.int .i64 15)).cell? ⟨W0.heap.size, 0, none⟩ = some (.int .i64 15)) := (KZ.set_ 0 _).cell 0
    have P3 : Hid (w.heap.size < w1.heap.size ∧ W0.heap.size < w1.heap.size) := ⟨lt_of_block KB.out, lt_of_block KZ⟩
    clear hbf hf hl1 hl2 KZ kz0 kf0
    go_wp2
    go_ret
    exact ⟨w.heap.size, W0.heap.size, rfl, by have := P3.out; simp; omega, by have := P3.out; simp; omega, P1.out, P2.out, HF.out⟩
end Go.Proofs.YtoipafnlcchmbaaGreatDoor
namespace Go.Proofs.YtoipafnlcchmbaaGreatDoor
open Go.RowKit Go.Sort

theorem splitAfter_strs (b : UInt8) (s : ByteArray) (w : World) (hs : s.size < 4294967281) :
    Calls Tryz.prog 218 #[.string s, .string ⟨#[b]⟩] w fun e w' => ∃ g, e = .returned (.slice (some ⟨g, 0, none⟩) (sepL b 1 s).length (sepL b 1 s).length) ∧ StrsAt w' (some ⟨g, 0, none⟩) (sepL b 1 s).length (sepL b 1 s) ∧ Below w.heap.size w w' := by
  refine (splitAfter_one b s w hs).mono ?_
  rintro e w' ⟨rfl, rfl⟩
  exact ⟨_, rfl, strsAt_new w _ _, (Below.refl _ _).alloc (Nat.le_refl _) _⟩
/-- The lines of a string. -/
def linesB (s : ByteArray) : List ByteArray := (linesOf s.data.toList).map fun l => (⟨l.toArray⟩ : ByteArray)
theorem linesB_len (s : ByteArray) : (linesB s).length = (linesOf s.data.toList).length := by simp [linesB]
theorem linesOf_le (l : List UInt8) : (linesOf l).length ≤ (cutSt 10 l).1.length + 1 := by
  unfold linesOf
  rw [List.length_append, List.length_map]
  split <;> simp
theorem linesB_le (s : ByteArray) : (linesB s).length ≤ s.size + 1 := by
  rw [linesB_len]
  have h1 := linesOf_le s.data.toList
  have h2 := sepL_le 10 1 s
  rw [sepL_len] at h2
  omega
theorem linesB_size (s : ByteArray) : ∀ x ∈ linesB s, x.size ≤ s.size := by
  intro x hx
  obtain ⟨l, hl, rfl⟩ := List.mem_map.1 hx
  have := flat_le_len _ _ hl
  rw [linesOf_back] at this
  show l.toArray.size ≤ s.size
  rw [List.size_toArray]
  exact this
set_option maxHeartbeats 2000000 in
set_option maxRecDepth 100000 in
theorem lines_any (s : ByteArray) (w : World) (hs : s.size ≤ 90000) :
    Calls Tryz.prog 207 #[.string s] w fun e w' => ∃ g c, e = .returned (.slice (some ⟨g, 0, none⟩) (linesB s).length c) ∧ StrsAt w' (some ⟨g, 0, none⟩) (linesB s).length (linesB s) ∧ Below w.heap.size w w' := by
  have H := Lib.hid (splitAfter_strs 10 s w (by omega))
  obtain ⟨D, hD⟩ : ∃ D, D = (cutSt 10 s.data.toList).1.map fun p => (⟨(p ++ [10]).toArray⟩ : ByteArray) := ⟨_, rfl⟩
  obtain ⟨c, hc⟩ : ∃ c : ByteArray, c = ⟨(cutSt 10 s.data.toList).2.toArray⟩ := ⟨_, rfl⟩
  have hcl : c.data.toList = (cutSt 10 s.data.toList).2 := by rw [hc]
  have e1 : sepL 10 1 s = D ++ [c] := by
    unfold sepL
    rw [hD, hc, List.map_append, List.map_map]
    rfl
  have e2 : linesB s = D ++ (if c.data.toList = [] then [] else [c]) := by
    unfold linesB linesOf
    rw [List.map_append, List.map_map, hcl, hD]
    congr 1
    by_cases h : (cutSt 10 s.data.toList).2 = []
    · rw [if_pos h, if_pos h]; rfl
    · rw [if_neg h, if_neg h, hc]; rfl
  have hle := linesB_le s
  have hle2 := sepL_le 10 1 s
  rw [e1] at H hle2
  have HE2 := Lib.hid e2
  have hDl : D.length ≤ 90000 := by simp at hle2; omega
  have tl : c.toList = c.data.toList := ByteArray.toList_eq c
  clear hD hc hcl e1 e2 hle hle2 hs
  obtain ⟨n, hn⟩ : ∃ n, n = D.length := ⟨_, rfl⟩
  have e3 : (D ++ [c]).length = n + 1 := by rw [hn]; simp
  rw [e3] at H
  have HN := Lib.hid hn
  have HDL : Hid (n ≤ 90000) := by show _ ≤ _; omega
  have hnn : n ≤ 90000 := by omega
  clear e3 hDl hn
  by_cases h0 : c.data.toList = []
  · have q1 : c.toList = [] := tl.trans h0
    have HL : Hid (linesB s = D) := by show _ = _; rw [HE2.out, if_pos h0, List.append_nil]
    clear h0 tl
    go_enter Tryz.func207, Tryz.ntmps207
    go_wp2_with fail
    refine H.out.mono ?_
    rintro e w1 ⟨g, rfl, hS, hb⟩
    have HS := Lib.hid hS
    have HB := Lib.hid hb
    have hlast : w1.cell? ⟨g, n, none⟩ = some (.string c) := by
      obtain ⟨g', o', e, hg, hx⟩ := hS.2 (by omega)
      have e := Option.some.inj e
      injection e with e1 e2 e3
      subst e1 e2
      have := hx n c (by rw [HN.out]; simp)
      rwa [Nat.zero_add] at this
    clear hS hb
    go_wp2
    go_ret
    refine ⟨g, n + 1, ?_, ?_, HB.out⟩
    · rw [HL.out, ← HN.out]; rfl
    · rw [HL.out, ← HN.out]
      refine ⟨HN.out.symm, fun hp => ?_⟩
      obtain ⟨g', o', e, hg, hx⟩ := HS.out.2 (by omega)
      exact ⟨g', o', e, hg, fun i x hi => hx i x (by
        rw [List.getElem?_append_left (List.getElem?_eq_some_iff.1 hi).1]; exact hi)⟩
  · have q1 : c.toList.isEmpty = false := by
      rw [tl]
      cases h : c.data.toList with
      | nil => exact absurd h h0
      | cons _ _ => rfl
    have HL : Hid (linesB s = D ++ [c]) := by show _ = _; rw [HE2.out, if_neg h0]
    clear h0 tl
    go_enter Tryz.func207, Tryz.ntmps207
    go_wp2_with fail
    refine H.out.mono ?_
    rintro e w1 ⟨g, rfl, hS, hb⟩
    have HS := Lib.hid hS
    have HB := Lib.hid hb
    have hlast : w1.cell? ⟨g, n, none⟩ = some (.string c) := by
      obtain ⟨g', o', e, hg, hx⟩ := hS.2 (by omega)
      have e := Option.some.inj e
      injection e with e1 e2 e3
      subst e1 e2
      have := hx n c (by rw [HN.out]; simp)
      rwa [Nat.zero_add] at this
    clear hS hb
    go_wp2
    go_ret
    refine ⟨g, n + 1, ?_, ?_, HB.out⟩
    · rw [HL.out, List.length_append, ← HN.out]; rfl
    · rw [HL.out, List.length_append, ← HN.out]; exact HS.out

theorem badAt_at {w : List UInt8} {k : Nat} {L : List (List UInt8)} {j : Nat} (h : j ≤ badAt w k L) (hj : j < L.length) (hb : lnB w k L[j] = false) : badAt w k L = j := by
  rcases Nat.lt_or_ge j (badAt w k L) with h1 | h1
  · rw [badAt_good h1 hj] at hb; cases hb
  · omega
theorem badAt_next {w : List UInt8} {k : Nat} {L : List (List UInt8)} {j : Nat} (h : j ≤ badAt w k L) (hj : j < L.length) (hb : lnB w k L[j] = true) : j + 1 ≤ badAt w k L := by
  rcases Nat.lt_or_ge j (badAt w k L) with h1 | h1
  · omega
  · have e : badAt w k L = j := by omega
    have := badAt_bad (w := w) (k := k) (L := L) (by omega)
    simp only [e] at this
    rw [this] at hb; cases hb
def valsOf (s : ByteArray) : List Int := (linesOf s.data.toList).map lnV
theorem valsOf_at (s : ByteArray) (j : Nat) (h : j < (linesOf s.data.toList).length) (h2 : j < (valsOf s).length) : (valsOf s)[j] = lnV ((linesOf s.data.toList)[j]) := List.getElem_map lnV
theorem OwnI.shape {w : World} {base : Nat} {v : Value} {zs : List Int} (h : OwnI w base v zs) : ∃ A c, v = .slice A zs.length c ∧ (A = none → c = 0) := by
  rcases h.form with ⟨rfl, rfl⟩ | ⟨g, cap, rfl, _⟩
  · exact ⟨none, 0, rfl, fun _ => rfl⟩
  · exact ⟨_, _, rfl, fun e => by cases e⟩
theorem valsOf_len (s : ByteArray) : (valsOf s).length = (linesB s).length := by simp [valsOf, linesB]
def ReadPost (w : World) (k : Nat) (wd s : ByteArray) (e : Ending) (w' : World) : Prop :=
  Below w.heap.size w w' ∧ ((badAt wd.data.toList k (linesOf s.data.toList) < (linesB s).length ∧ e = .returned (.tuple #[.slice none 0 0, .int .i64 (badAt wd.data.toList k (linesOf s.data.toList)), .int .i64 25])) ∨
    (badAt wd.data.toList k (linesOf s.data.toList) = (linesB s).length ∧ ∃ v, e = .returned (.tuple #[v, .int .i64 (linesB s).length, .int .i64 0]) ∧ OwnI w' w.heap.size v (valsOf s)))
set_option maxHeartbeats 4000000 in
set_option maxRecDepth 100000 in
theorem read_any (s wd : ByteArray) (k p1 p2 : Nat) (w : World) (hk : k ≤ 18) (hs : s.size ≤ 4096) (h1 : w.cell? ⟨p1, 0, none⟩ = some (.string wd)) (h2 : w.cell? ⟨p2, 0, none⟩ = some (.int .i64 k)) :
    Calls Tryz.prog 197 #[.string s, .func (.func 186) #[] #[.pointer (some ⟨p1, 0, none⟩), .pointer (some ⟨p2, 0, none⟩)]] w (ReadPost w k wd s) := by
  obtain ⟨i0, hi, hz0, hz1, hz2⟩ := info_parts infoInt
  have hp1 : p1 < w.heap.size := block_lt_of_cell h1
  have hp2 : p2 < w.heap.size := block_lt_of_cell h2
  have H1 := Lib.hid h1
  have H2 := Lib.hid h2
  have HL := Lib.hid (lines_any s w (by omega))
  have hle := linesB_le s
  have HSZ := Lib.hid (linesB_size s)
  have hlen := linesB_len s
  have HLEN := Lib.hid hlen
  obtain ⟨n, hn⟩ : ∃ n, n = (linesB s).length := ⟨_, rfl⟩
  rw [← hn] at HL hle HLEN
  have HN := Lib.hid hn
  have hd : decide ((4096 : Int) < (s.size : Int)) = false := by simp; omega
  have hn2 : n ≤ 4097 := by omega
  have HS := Lib.hid hs
  clear h1 h2 hlen hn hle hs
  go_enter Tryz.func197, Tryz.ntmps197
  go_wp2_with fail
  refine HL.out.mono ?_
  rintro e w1 ⟨g, c, rfl, hS, hb⟩
  have HST := Lib.hid hS
  have HB := Lib.hid hb
  clear hS hb hd
  go_wp2
  go_loopw [7, 8, 9, 10, 11, 18] (fun v _ _ _ _ i wr => ∃ j : Nat, j ≤ n ∧ i = .int .i64 j ∧ OwnI wr w1.heap.size v ((valsOf s).take j) ∧ Below w1.heap.size w1 wr ∧ j ≤ badAt wd.data.toList k (linesOf s.data.toList)) (fun _ _ _ _ _ i _ => n - (intOf i).toNat)
  case atStart => exact ⟨0, Nat.zero_le _, rfl, OwnI.nil _ _, Below.refl _ _, Nat.zero_le _⟩
  case round =>
    obtain ⟨j, hj, rfl, hown, hb1, hbad⟩ := hrel
    have hbw : Below w.heap.size w wr := HB.out.trans (hb1.mono HB.out.size)
    by_cases hlt : j < n
    · have hjl : j < (linesOf s.data.toList).length := by rw [← HLEN.out]; exact hlt
      obtain ⟨l, hl⟩ : ∃ l, l = (linesOf s.data.toList)[j] := ⟨_, rfl⟩
      have hlx : (linesB s)[j]? = some ⟨l.toArray⟩ := by
        unfold linesB
        rw [List.getElem?_map, List.getElem?_eq_getElem hjl, ← hl]
        rfl
      have hcell : wr.cell? ⟨g, j, none⟩ = some (.string ⟨l.toArray⟩) := by
        obtain ⟨g', o', e, hg, hx⟩ := (HST.out.keep hb1 (Nat.le_refl _)).2 (by omega)
        have e := Option.some.inj e
        injection e with e1 e2 e3
        subst e1 e2
        have := hx j _ hlx
        rwa [Nat.zero_add] at this
      have c1 : wr.cell? ⟨p1, 0, none⟩ = some (.string wd) := (hbw.cell (p := ⟨p1, 0, none⟩) hp1).trans H1.out
      have c2 : wr.cell? ⟨p2, 0, none⟩ = some (.int .i64 k) := (hbw.cell (p := ⟨p2, 0, none⟩) hp2).trans H2.out
      have hxs : (⟨l.toArray⟩ : ByteArray).size ≤ 4096 := Nat.le_trans (HSZ.out _ (List.mem_of_getElem? hlx)) HS.out
      have HR := Lib.hid (reader1_any ⟨l.toArray⟩ wd k p1 p2 wr hk (by omega) c1 c2)
      have eok : numOK k wd ⟨l.toArray⟩ = lnB wd.data.toList k l := by unfold numOK; rw [toBA_list]
      have evl : numVal k wd ⟨l.toArray⟩ = if lnB wd.data.toList k l = true then lnV l else 0 := by unfold numVal; rw [eok, toBA_list]
      rw [eok, evl] at HR
      have HLL := Lib.hid hl
      have HO := Lib.hid hown
      have HBW := Lib.hid hbw
      have HB1 := Lib.hid hb1
      have HBAD := Lib.hid hbad
      have hsz := hbw.size
      obtain ⟨x, hx⟩ : ∃ x : ByteArray, x = ⟨l.toArray⟩ := ⟨_, rfl⟩
      rw [← hx] at HR hcell
      obtain ⟨D, hD⟩ : ∃ D, D = lnB wd.data.toList k l := ⟨_, rfl⟩
      rw [← hD] at HR
      have HD := Lib.hid hD
      clear hl hlx c1 c2 hxs eok evl hown hbw hb1 hbad hx hD
      cases D with
      | false =>
        rw [if_neg (by simp)] at HR
        have hbd := badAt_at HBAD.out hjl (by rw [← HLL.out]; exact HD.out.symm)
        have HBD := Lib.hid hbd
        clear hbd
        go_wp2_with fail
        refine HR.out.mono ?_
        rintro e w2 ⟨rfl, hb2⟩
        have HB2 := Lib.hid (HBW.out.trans (hb2.mono HBW.out.size))
        clear hb2
        go_wp2
        refine bodyPost_ret (v := .tuple #[.slice none 0 0, .int .i64 j, .int .i64 25]) (by simp [results, Tryz.results197, go_sem]) rfl ⟨HB2.out, .inl ⟨by rw [HBD.out, ← HN.out]; exact hlt, by rw [HBD.out]⟩⟩
      | true =>
        rw [if_pos rfl] at HR
        have hbd := badAt_next HBAD.out hjl (by rw [← HLL.out]; exact HD.out.symm)
        have HBD := Lib.hid hbd
        have htk : (valsOf s).take (j + 1) = (valsOf s).take j ++ [lnV l] := by
          have hjv : j < (valsOf s).length := by rw [valsOf_len, ← HN.out]; exact hlt
          rw [List.take_succ_eq_append_getElem hjv]
          rw [valsOf_at s j hjl hjv, ← HLL.out]
        have HTK := Lib.hid htk
        have htl : ((valsOf s).take j).length = j := by rw [List.length_take, valsOf_len, ← HN.out]; omega
        have HTL := Lib.hid htl
        obtain ⟨V, hV⟩ : ∃ V, V = lnV l := ⟨_, rfl⟩
        rw [← hV] at HR HTK
        clear hbd htk htl hV
        go_wp2_with fail
        refine HR.out.mono ?_
        rintro e w2 ⟨rfl, hb2⟩
        have hO2 := HO.out.below hb2
        have hO3 : w2.ownsRow w1.heap.size 3 1 u7 j (((valsOf s).take j).map (Value.int .i64)) := by
          have := hO2
          unfold OwnI at this
          rwa [HTL.out] at this
        have HB2 := Lib.hid (HBW.out.trans (hb2.mono HBW.out.size))
        have HB3 := Lib.hid (HB1.out.trans (hb2.mono HB1.out.size))
        have sz2 := hb2.size
        have sz3 := HB1.out.size
        clear hb2 hO2
        go_wp2_with (at_builtin; refine wpList_append_own _ rfl _ _ 26 rfl w1.heap.size 3 i0 (.int .i64 0) 1 8 Tryz.underlying26 hi hz0 hz1 hz2 rfl (by decide) _ _ _ rfl (World.ownsRow.alloc hO3 _) ⟨w2.heap.size, 0, none⟩ 1 1 [.int .i64 V] rfl rfl (cell_one_new _ _ _) (by simp [Value.oneCell']) (by unfold maxLen; omega) (by omega) (by simp; omega) ?_; intro v' w3 hown' hgrow _)
        have R : OwnI w3 w1.heap.size v' ((valsOf s).take (j + 1)) := by
          unfold OwnI
          rw [HTK.out, List.length_append, HTL.out, List.map_append]
          exact hown'
        have B3 : Below w1.heap.size w1 w3 := Below.grown (HB3.out.alloc HB3.out.size _) hgrow (by simp; omega) (fun j hj => (hO3.lt j hj).1)
        clear hown' hgrow hO3
        go_wp2
        go_roundw
        case rel => exact ⟨j + 1, by omega, by go_num, R, B3, HBD.out⟩
        case measure => simp [intOf]; omega
    · obtain rfl : j = n := by omega
      have HO := Lib.hid hown
      have HBW := Lib.hid hbw
      have HBAD := Lib.hid hbad
      obtain ⟨A, c', rfl, _⟩ := hown.shape
      have htk : (valsOf s).take j = valsOf s := List.take_of_length_le (by rw [valsOf_len, ← HN.out]; omega)
      rw [htk] at HO ⊢
      have hvl : (valsOf s).length = j := by rw [valsOf_len, ← HN.out]
      rw [hvl] at HO ⊢
      have HSZ1 := HB.out.size
      clear hown hbw hb1 hbad htk hvl
      go_wp2
      refine bodyPost_ret (v := .tuple #[.slice A j c', .int .i64 j, .int .i64 0]) (by simp [results, Tryz.results197, go_sem]) rfl ⟨HBW.out, .inr ⟨?_, _, by rw [← HN.out], HO.out.mono HSZ1⟩⟩
      have h1 := badAt_le wd.data.toList k (linesOf s.data.toList)
      have h2 := HBAD.out
      rw [← HN.out]
      have h3 := HLEN.out
      omega
end Go.Proofs.YtoipafnlcchmbaaGreatDoor
