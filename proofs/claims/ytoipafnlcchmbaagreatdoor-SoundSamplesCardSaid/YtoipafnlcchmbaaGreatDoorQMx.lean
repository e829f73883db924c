/- The iterator of frames: what comes of a stream, place by place. A span that is skipped, appended; the iterator of frames, made. Received: the packets and the spans between them. -/
import Derived.Test.YtoipafnlcchmbaaGreatDoorQM
import Derived.Test.YtoipafnlcchmbaaGreatDoorQLx
import Derived.RangeFuncBox
import Derived.Sort.CutIn
namespace Go.Proofs.YtoipafnlcchmbaaGreatDoor
open Go.RowKit Go.Shelf

attribute [local go_sem] Oper.semAt_some

theorem twentytwo (a : Array Value) (h : a.size = 22) : ∃ c0 c1 c2 c3 c4 c5 c6 c7 c8 c9 c10 c11 c12 c13 c14 c15 c16 c17 c18 c19 c20 c21, a = #[c0, c1, c2, c3, c4, c5, c6, c7, c8, c9, c10, c11, c12, c13, c14, c15, c16, c17, c18, c19, c20, c21] := by
  obtain ⟨l⟩ := a
  match l, h with
  | [c0, c1, c2, c3, c4, c5, c6, c7, c8, c9, c10, c11, c12, c13, c14, c15, c16, c17, c18, c19, c20, c21], _ => exact ⟨_, _, _, _, _, _, _, _, _, _, _, _, _, _, _, _, _, _, _, _, _, _, rfl⟩
theorem wpListIn_load_row {F : Fence} {n : Nat} {P : Program} {ops : Array Oper} {rest : List Oper} {o : Oper} {a : Act} {w : World} {Q : Exit → Act → World → Prop} (hgd : o.guard = none) (ty : TypeId) (x : Operand) (ho : o.op = .load ty x)
    (g : Nat) (hx : a.eval x = .pointer (some ⟨g, 0, none⟩)) (t : TypeId) (cs : Array Value) (fr : Nat × Nat) (d : TypeDesc) (hg : w.heap[g]? = some (.cells cs t fr))
    (hu : P.underlying ty = some d) (hd : (match d with | .struct _ | .array _ _ => true | _ => false) = true) (hi : (P.info? ty).map (·.size) = some cs.size)
    (h : wpListIn F n P ops Q rest (a.put o.dst (.agg cs)) w) : wpListIn F n P ops Q (o :: rest) a w := by
  refine wpListIn_plain hgd fun K hK' => ?_
  unfold Oper.wpIn
  refine ⟨?_, ?_⟩
  · simp [Oper.about, ho]
  · rw [Oper.semAt_plain F _ _ (by rw [ho]; intro c hc'; cases hc')]
    simp only [execOp, ho, hx, Instr.loadAt, Instr.sureAddr, Sem.run_bind, Sem.run_pure, Result.andThen_ok, run_loadVar_row w g t ty cs fr d hg hu hd hi]
    exact hK' _ _ h

/-- The frame's bytes at a place of a stream. -/
def at32 (s : List Int) (i : Nat) : List Int := (List.range 32).map fun j => s.getD (i + j) 0
theorem at32_len (s : List Int) (i : Nat) : (at32 s i).length = 32 := by simp [at32]
theorem at32_at (s : List Int) (i j : Nat) (h : j < 32) : (at32 s i).getD j 0 = s.getD (i + j) 0 := by
  simp [at32, List.getD_eq_getElem?_getD, h]
/-- What has come of a stream at a place: the places of the packets. -/
inductive Upto (ks s : List Int) : List Nat → Nat → Prop
  | nil : Upto ks s [] 0
  | err {pre : List Nat} {k : Nat} : Upto ks s pre k → k + 32 ≤ s.length → decodeE ks (at32 s k) ≠ 0 → Upto ks s pre (k + 1)
  | hit {pre : List Nat} {k : Nat} : Upto ks s pre k → k + 32 ≤ s.length → decodeE ks (at32 s k) = 0 → Upto ks s (pre ++ [k]) (k + 32)
theorem Upto.mem {ks s : List Int} {pre : List Nat} {k : Nat} (h : Upto ks s pre k) : ∀ y ∈ pre, y + 32 ≤ s.length := by
  induction h with
  | nil => simp
  | err h h1 h2 ih => exact ih
  | hit h h1 h2 ih =>
    intro y hy
    rcases List.mem_append.1 hy with h3 | h3
    · exact ih y h3
    · rw [List.mem_singleton.1 h3]; exact h1
theorem Upto.le {ks s : List Int} {pre : List Nat} {k : Nat} (h : Upto ks s pre k) : pre.length * 32 ≤ k ∧ (k = 0 ∨ k ≤ s.length) := by
  induction h with
  | nil => simp
  | err h h1 h2 ih => constructor <;> omega
  | hit h h1 h2 ih => rw [List.length_append, List.length_singleton]; constructor <;> omega
def placedA (ks s : List Int) (i : Nat) : Array Value := (decodeA ks (at32 s i)).push (.int .i64 (i : Int))
def placedV (ks s : List Int) (i : Nat) : Value := .agg (placedA ks s i)
theorem grown_of_below {W W' : World} (h : Below W.heap.size W W') : W.grownBy W' none := ⟨h.os, h.tape, h.output, h.size, fun k hk _ => h.block k hk⟩

/-- What the iterator's caller must leave: all below m, and the two boxes. -/
def KeepF (m kb sb : Nat) (W W' : World) : Prop := W.heap.size ≤ W'.heap.size ∧ ∀ j, (j < m ∨ j = kb ∨ j = sb) → W'.heap[j]? = W.heap[j]?
theorem KeepF.refl (m kb sb : Nat) (W : World) : KeepF m kb sb W W := ⟨Nat.le_refl _, fun _ _ => rfl⟩
theorem KeepF.trans {m kb sb : Nat} {X Y Z : World} (h : KeepF m kb sb X Y) (k : KeepF m kb sb Y Z) : KeepF m kb sb X Z := ⟨Nat.le_trans h.1 k.1, fun j hj => (k.2 j hj).trans (h.2 j hj)⟩
theorem KeepF.below {m kb sb : Nat} {X Y Z : World} (h : KeepF m kb sb X Y) (hm : m ≤ X.heap.size) (hk : kb < X.heap.size) (hs : sb < X.heap.size) (hb : Below Y.heap.size Y Z) : KeepF m kb sb X Z :=
  h.trans ⟨hb.size, fun j hj => hb.block j (by have := h.1; omega)⟩
theorem KeepF.cell {m kb sb : Nat} {W W' : World} (h : KeepF m kb sb W W') {j o : Nat} (hj : j < m ∨ j = kb ∨ j = sb) : W'.cell? ⟨j, o, none⟩ = W.cell? ⟨j, o, none⟩ := World.cell?_of_block (h.2 j hj)

set_option maxHeartbeats 4000000 in
set_option maxRecDepth 100000 in
theorem frames1_in (n : Nat) (hn : 1 ≤ n) (l kb sb m len c : Nat) (A : Option Addr) (ks s : List Int) (hk : ks.length = 8) (hkb : AllB ks) (hlc : len ≤ c) (hlen : len ≤ 140737488351232) 
    (hbg : 0 < len → ∀ b off, A = some ⟨b, off, none⟩ → b < m) (J Jx : List Nat → World → Prop) (B : Nat) (hJ : AbidesFrom B J)
    (hY : ∀ pre x W, J pre W → pre.length < len → x + 32 ≤ len → YieldAt Fence.wide (n - 1) Tryz.prog l #[placedV ks s x] W fun e W' =>
      (e = .returned (.bool true) ∧ J (pre ++ [x]) W' ∧ KeepF m kb sb W W') ∨ (e = .returned (.bool false) ∧ Jx (pre ++ [x]) W'))
    (W : World) (h1 : W.rangeAt kb 0 (ks.map (Value.int .u8))) (h2 : W.cell? ⟨sb, 0, none⟩ = some (.slice A len c)) (h3 : BytesAt W A len s) (h0 : J [] W) (hm : m ≤ W.heap.size) (hbk : kb < W.heap.size) (hbs : sb < W.heap.size) :
    CallsIn Fence.wide n Tryz.prog 175 #[.func (.yield l) #[] #[], .pointer (some ⟨sb, 0, none⟩), .pointer (some ⟨kb, 0, none⟩)] W fun e W' => (∃ v, e = .returned v) ∧
      ((∃ ys, (∃ k, Upto ks s ys k ∧ len < k + 32) ∧ J ys W') ∨ (∃ pre, (∃ k, Upto ks s pre k) ∧ Jx pre W')) := by
  have HL : Hid (s.length = len) := h3.1
  refine callsIn_of_wp Tryz.func175 rfl trivial ?_ rfl
  simp only [Tryz.ntmps175, List.size_toArray, List.length_cons, List.length_nil, Nat.reduceAdd, Nat.reduceSub, Array.replicate_succ, Array.replicate_zero, List.push_toArray, List.append_toArray, List.nil_append, List.cons_append]
  gi_wp2
  have HK : Hid (W.rangeAt kb 0 (ks.map (Value.int .u8))) := h1
  have HZ : Hid (BytesAt W A len s) := h3
  clear h1 h3
  gi_loopw [4] (fun i wr => ∃ (k : Nat) (pre : List Nat), i = .int .i64 (k : Int) ∧ Upto ks s pre k ∧ J pre wr ∧ KeepF m kb sb W wr)
    (fun i _ => len + 1 - (intOf i).toNat)
  case atStart => exact ⟨0, [], rfl, .nil, h0, KeepF.refl _ _ _ _⟩
  case round =>
    obtain ⟨k, pre, rfl, hU, hJs, hnx⟩ := hrel
    have x2 : wr.cell? ⟨sb, 0, none⟩ = some (.slice A len c) := (hnx.cell (.inr (.inr rfl))).trans h2
    have hkl := hU.le
    rw [HL.out] at hkl
    have HU : Hid (Upto ks s pre k) := hU
    have HN := Lib.hid hnx
    have HJ := Lib.hid hJs
    clear hU hnx hJs
    by_cases hlt : k + 32 ≤ len
    · have hle : ((k : Int) + 32 ≤ (len : Int)) := by omega
      have hw32 : IntKind.i64.wrap ((k : Int) + 32) = (k : Int) + 32 := IntWalk.i64_in _ (by omega)
      have hpl : pre.length < len := by omega
      obtain ⟨b, off, rfl, hcell⟩ := HZ.out.2.2 (by omega)
      have hbg' : b < m := hbg (by omega) _ _ rfl
      have h32 : (at32 s k).length = 32 := at32_len s k
      have hB32 : AllB (at32 s k) := fun i hi => by
        rw [h32] at hi
        rw [at32_at s k i hi]
        exact HZ.out.2.1 (k + i) (by omega)
      have HF : Hid (FrS kb sb b off k len c ks (at32 s k) wr) := ⟨fun j v hv => (HN.out.cell (.inr (.inl rfl))).trans (HK.out j v hv), x2, fun j v hv => by
        have hj : j < 32 := by
          have := (List.getElem?_eq_some_iff.1 hv).1
          rwa [List.length_map, h32] at this
        have hv' : v = .int .u8 (s.getD (k + j) 0) := by
          rw [List.getElem?_map] at hv
          have e := at32_at s k j hj
          rw [List.getD_eq_getElem?_getD] at e
          cases hq : (at32 s k)[j]? with
          | none => rw [hq] at hv; cases hv
          | some q => rw [hq] at hv e; cases hv; rw [← e]; rfl
        rw [hv', Nat.add_assoc]
        exact (HN.out.cell (.inl hbg')).trans (hcell (k + j) (by omega))⟩
      have HB32 := Lib.hid hB32
      have HCELL := Lib.hid hcell
      clear hB32 hcell
      gi_wp2
      refine wpIn_wide.2 (frame_r2 kb sb b off k len c ks (at32 s k) hk hkb h32 HB32.out hlt hlc hlen wr HF.out _ _ _ _ _ _ _ _ _ _ _ _ _ _ _ _ _ _ _ _ _ _ _ _ _ _ _ _ _ _ _ _ _ _ (fun _ _ d _ _ h => by cases d <;> exact h) ?_)
      intro v12 v13 v14 v15 v16 v17 v18 v19 v20 v21 v22 v23 W2 nb hblk hsz hbel
      have hJ2 : J pre W2 := hJ _ wr W2 none HJ.out (grown_of_below hbel) (fun r e => by cases e)
      have HBN : Hid (KeepF m kb sb W W2) := HN.out.below hm hbk hbs hbel
      obtain ⟨fn, tmps, assign, body, hy, hR⟩ := hY pre k W2 hJ2 hpl hlt
      have hda : (decodeA ks (at32 s k)).size = 22 := decodeA_size _ _ h32
      have hip : Hid ((Tryz.prog.info? 101).map (·.size) = some (decodeA ks (at32 s k)).size) := by show _ = _; rw [hda]; kernel_rfl
      have HBLK := Lib.hid hblk
      have HJ2 := Lib.hid hJ2
      obtain ⟨c0, c1, c2, c3, c4, c5, c6, c7, c8, c9, c10, c11, c12, c13, c14, c15, c16, c17, c18, c19, c20, c21, hdc⟩ := twentytwo _ hda
      have hpb : True := trivial
      simp only [placedV, placedA, hdc, List.push_toArray, List.cons_append, List.nil_append] at hy
      rw [hdc] at HBLK hip
      clear hblk hsz hbel hJ2 hda hdc
      have HE : Hid (Upto ks s pre k ∧ k + 32 ≤ s.length) := ⟨HU.out, by rw [HL.out]; exact hlt⟩
      clear h32 hkl hle hw32
      by_cases hE : decodeE ks (at32 s k) = 0
      · have HE0 := Lib.hid hE
        rw [hE]
        clear hE
        have hw32 : IntKind.i64.wrap ((k : Int) + 32) = (k : Int) + 32 := IntWalk.i64_in _ (by omega)
        clear hpb
        gi_wp2_with (refine wpListIn_load_row rfl 101 (.tmp 5) rfl nb rfl 101 _ (0, 0) _ HBLK.out Tryz.underlying101 rfl hip.out ?_)
        refine hR.mono ?_
        rintro e W3 (⟨rfl, hJ3, hk3⟩ | ⟨rfl, hJx3⟩)
        · gi_wp2
          go_roundw
          case rel => exact ⟨k + 32, pre ++ [k], by go_num, .hit HE.out.1 HE.out.2 HE0.out, hJ3, HBN.out.trans hk3⟩
          case measure => simp [intOf]; omega
        · gi_wp2
          refine bodyPost_ret (results_none rfl _ _ _) rfl ?_
          exact ⟨⟨_, rfl⟩, .inr ⟨_, ⟨k + 32, .hit HE.out.1 HE.out.2 HE0.out⟩, hJx3⟩⟩
      · have HE0 := Lib.hid hE
        have hw1 : IntKind.i64.wrap ((k : Int) + 1) = (k : Int) + 1 := IntWalk.i64_in _ (by omega)
        clear hy hR
        generalize hde : decodeE ks (at32 s k) = de at *
        gi_wp2
        go_roundw
        case rel => exact ⟨k + 1, pre, by go_num, .err HE.out.1 HE.out.2 (by rw [hde]; exact HE0.out), HJ2.out, HBN.out⟩
        case measure => simp [intOf]; omega
    · have hle : ¬ ((k : Int) + 32 ≤ (len : Int)) := by omega
      have hw32 : IntKind.i64.wrap ((k : Int) + 32) = (k : Int) + 32 := IntWalk.i64_in _ (by omega)
      gi_wp2
      go_end0
      exact ⟨⟨_, rfl⟩, .inl ⟨pre, ⟨k, HU.out, by omega⟩, HJ.out⟩⟩
end Go.Proofs.YtoipafnlcchmbaaGreatDoor
namespace Go.Proofs.YtoipafnlcchmbaaGreatDoor
open Go.RowKit

/-- All that is no cells, and all cells but box B and those of type e, are as they were. -/
def Apart (B : Nat) (e : TypeId) (W W' : World) : Prop := KeepsOthers W W' ∧ ∀ (j : Nat) (t' : TypeId) (cs : Array Value) (fz : Nat × Nat), W.heap[j]? = some (.cells cs t' fz) → j ≠ B → t' ≠ e → W'.heap[j]? = some (.cells cs t' fz)
theorem Apart.refl (B : Nat) (e : TypeId) (W : World) : Apart B e W W := ⟨KeepsOthers.refl W, fun _ _ _ _ h _ _ => h⟩
theorem Apart.trans {B : Nat} {e : TypeId} {X Y Z : World} (h : Apart B e X Y) (k : Apart B e Y Z) : Apart B e X Z := ⟨h.1.trans k.1, fun j t' cs fz hj hB he => k.2 j t' cs fz (h.2 j t' cs fz hj hB he) hB he⟩
theorem Apart.boxed {B : Nat} {e : TypeId} {W W' : World} (h : Apart B e W W') {B' : Nat} {t : TypeId} {v : Value} (hv : Boxed W B' t v) (hB : B' ≠ B) (he : t ≠ e) : Boxed W' B' t v := h.2 _ _ _ _ hv hB he
theorem Apart.blk {B : Nat} {e : TypeId} {W W' : World} (h : Apart B e W W') {g : Nat} {t : TypeId} {cs : Array Value} (hv : Blk W g t cs) (hB : g ≠ B) (he : t ≠ e) : Blk W' g t cs := h.2 _ _ _ _ hv hB he
theorem Apart.row {B : Nat} {e : TypeId} {W W' : World} (h : Apart B e W W') {base size k : Nat} {e' tb : TypeId} {v u : Value} {xs : List Value} (hr : W.ownsRow base e' size v k xs) (hb : Boxed W B tb u) (hne : tb ≠ e') (he : e' ≠ e) : W'.ownsRow base e' size v k xs := by
  refine ⟨hr.1, ?_⟩
  rcases hr.2 with h0 | ⟨g, cap, cur, hv, h1, h2, h3⟩
  · exact .inl h0
  · refine .inr ⟨g, cap, cur, hv, h1, h.2 _ _ _ _ h2 (fun eg => ?_) he, h3⟩
    subst eg
    have := (show W.heap[g]? = _ from hb).symm.trans h2
    simp at this
    exact hne this.2
/-- An append to a box's own row, and the store: apart from all else. -/
theorem apart_append {W w1 : World} {n₀ B : Nat} {e : TypeId} {size : Nat} {v v' : Value} {k : Nat} {xs : List Value} {tmp : Obj}
    (hrow : W.ownsRow n₀ e size v k xs) (hgrow : (W.alloc tmp).grownBy w1 v.ownBlock) : Apart B e W (w1.setCell ⟨B, 0, none⟩ v') := by
  refine ⟨?_, fun j t' cs fz hj hB he => ?_⟩
  · refine ((KeepsOthers.alloc W tmp).trans (KeepsOthers.of_grownBy hgrow fun j o ej hj => ?_)).trans (KeepsOthers.setCell _ _ _)
    rcases (hrow.alloc tmp).2 with ⟨rfl, _⟩ | ⟨g, cap, cur, rfl, _, hgb, _⟩
    · simp [Value.ownBlock] at ej
    · obtain rfl : g = j := by simpa [Value.ownBlock] using ej
      rw [hgb] at hj; cases hj; rfl
  · have hlt : j < W.heap.size := (Array.getElem?_eq_some_iff.1 hj).1
    have h1 : (W.alloc tmp).heap[j]? = some (.cells cs t' fz) := (Below.heap_alloc W tmp j hlt).trans hj
    have h2 : w1.heap[j]? = some (.cells cs t' fz) := (hgrow.block j (by simp; omega) (fun ej => by
      rcases hrow.2 with ⟨rfl, _⟩ | ⟨g, cap, cur, rfl, _, hgb, _⟩
      · simp [Value.ownBlock] at ej
      · obtain rfl : j = g := by simpa [Value.ownBlock] using ej
        rw [hj] at hgb
        simp at hgb
        exact he hgb.2.1)).trans h1
    exact (Below.heap_setCell w1 ⟨B, 0, none⟩ v' j hB).trans h2
theorem cells_two_new' (w : World) (t : TypeId) (a b : Value) : ∀ (j : Nat) (u : Value), [a, b][j]? = some u → (w.alloc (.cells #[a, b] t)).cell? ((⟨w.heap.size, 0, none⟩ : Addr).add j) = some u := fun j u h => by
  have hadd : (⟨w.heap.size, 0, none⟩ : Addr).add j = ⟨w.heap.size, j, none⟩ := by unfold Addr.add; split <;> simp_all
  rw [hadd, (Blk.new w t #[a, b]).cell j]
  simpa using h

theorem infoSpan : (Tryz.prog.info? 184).map (fun i => (i.zero, i.size, i.bytes)) = some (some (.agg #[.int .i64 0, .int .i64 0]), 2, 16) := by kernel_rfl
set_option maxHeartbeats 2000000 in
theorem skip_any (a b : Int) (bs base : Nat) (v : Value) (k : Nat) (xs : List Value) (w : World) (hb : Boxed w bs 119 v) (hr : w.ownsRow base 184 2 v k xs) (hk : k ≤ 1000000) (hbase : base ≤ w.heap.size) (hB : base ≤ bs) :
    Calls Tryz.prog 139 #[.int .i64 a, .int .i64 b, .pointer (some ⟨bs, 0, none⟩)] w fun e w' => e = .returned (.tuple #[]) ∧ Apart bs 184 w w' ∧ Below base w w' ∧
      ∃ v', Boxed w' bs 119 v' ∧ w'.ownsRow base 184 2 v' (if a < b then k + 1 else k) (if a < b then xs ++ [.int .i64 a, .int .i64 b] else xs) := by
  obtain ⟨i0, hi, hz0, hz1, hz2⟩ := info_parts infoSpan
  by_cases hab : a < b
  · rw [if_pos hab, if_pos hab]
    have hc := hb.cell
    have HB := Lib.hid hb
    have HR := Lib.hid hr
    clear hb hr
    go_enter Tryz.func139, Tryz.ntmps139
    go_wp2_with (at_builtin; refine wpList_append_own _ rfl _ _ 119 rfl base 184 i0 (.agg #[.int .i64 0, .int .i64 0]) 2 16 Tryz.underlying119 hi hz0 hz1 hz2 rfl (by decide) _ _ _ rfl (HR.out.alloc _) ⟨w.heap.size, 0, none⟩ 1 1 [.int .i64 a, .int .i64 b] rfl rfl (cells_two_new' _ _ _ _) (by simp [Value.oneCell']) (by unfold maxLen; omega) (by omega) (by simp; omega) ?_; intro v' w1 hown' hgrow _; obtain ⟨g', cap', rfl⟩ := ownsRow_succ hown'; obtain ⟨hv1, hv2, hr2, hk2, hb2⟩ := HB.out.appended (by decide) HR.out hbase hB hown' hgrow; have hc1 := hv1.cell; have hf1 := hv1.frozen)
    go_end0
    exact ⟨rfl, apart_append HR.out hgrow, hb2, _, hv2, hr2⟩
  · rw [if_neg hab, if_neg hab]
    have HB := Lib.hid hb
    have HR := Lib.hid hr
    clear hb hr
    go_enter Tryz.func139, Tryz.ntmps139
    go_wp2
    go_end0
    exact ⟨rfl, Apart.refl _ _ _, Below.refl _ _, v, HB.out, HR.out⟩

theorem frames_any (ks : List Int) (A : Option Addr) (n c : Nat) (w : World) (hk : ks.length = 8) :
    Calls Tryz.prog 140 #[.agg (bytesA ks), .slice A n c] w fun e w' => e = .returned (.func (.func 175) #[] #[.pointer (some ⟨w.heap.size + 1, 0, none⟩), .pointer (some ⟨w.heap.size, 0, none⟩)]) ∧ w' = (w.alloc (.cells (bytesA ks) 94)).alloc (.cells #[.slice A n c] 106) := by
  obtain ⟨k0, k1, k2, k3, k4, k5, k6, k7, rfl⟩ := eight ks hk
  show Calls Tryz.prog 140 #[.agg #[.int .u8 k0, .int .u8 k1, .int .u8 k2, .int .u8 k3, .int .u8 k4, .int .u8 k5, .int .u8 k6, .int .u8 k7], .slice A n c] w _
  go_enter Tryz.func140, Tryz.ntmps140
  go_wp2
  go_ret
  exact ⟨rfl, rfl⟩
end Go.Proofs.YtoipafnlcchmbaaGreatDoor
namespace Go.Proofs.YtoipafnlcchmbaaGreatDoor
open Go.RowKit Go.Shelf

attribute [local go_sem] Oper.semAt_some

/-- A place, held below what a stream may be long. -/
def cl (i : Nat) : Nat := min i 32768
theorem cl_le (i : Nat) : cl i ≤ 32768 := Nat.min_le_right _ _
theorem cl_of {i : Nat} (h : i ≤ 32768) : cl i = i := Nat.min_eq_left h
theorem cl_map {ks s : List Int} {ys : List Nat} {k : Nat} (h : Upto ks s ys k) (hs : s.length ≤ 32768) : ys.map cl = ys := by
  conv => rhs; rw [← List.map_id ys]
  refine List.map_congr_left fun y hy => ?_
  have := h.mem y hy
  exact cl_of (by omega)
theorem frames_stops (n : Nat) (hn : 1 ≤ n) (kb sb m len c : Nat) (A : Option Addr) (ks s : List Int) (hk : ks.length = 8) (hkb : AllB ks) (hlc : len ≤ c) (hlen : len ≤ 32768) (w : World) (hm : m ≤ w.heap.size) (hbk : kb < w.heap.size) (hbs : sb < w.heap.size)
    (h1 : w.rangeAt kb 0 (ks.map (Value.int .u8))) (h2 : w.cell? ⟨sb, 0, none⟩ = some (.slice A len c)) (h3 : BytesAt w A len s) (hbg : 0 < len → ∀ b off, A = some ⟨b, off, none⟩ → b < m) :
    SeqStopsK Fence.wide n Tryz.prog 175 #[.pointer (some ⟨sb, 0, none⟩), .pointer (some ⟨kb, 0, none⟩)] (fun i : Nat => #[placedV ks s (cl i)]) (KeepF m kb sb) (fun xs => ∃ k, Upto ks s xs k ∧ len < k + 32) (fun pre => ∃ k, Upto ks s pre k) len w := fun l J Jx W hW hJ _ hY h0 => by
  refine (frames1_in n hn l kb sb m len c A ks s hk hkb hlc (by omega) hbg J Jx W.heap.size hJ (fun pre x W1 h1 h2 h3 => by have := hY pre x W1 h1 h2; dsimp only at this; rw [cl_of (by omega)] at this; exact this) W (fun j v hv => (hW.cell (p := ⟨kb, 0 + j, none⟩) hbk).trans (h1 j v hv)) ((hW.cell (p := ⟨sb, 0, none⟩) hbs).trans h2) (h3.keep hW) h0 (Nat.le_trans hm hW.size) (Nat.lt_of_lt_of_le hbk hW.size) (Nat.lt_of_lt_of_le hbs hW.size)).mono ?_
  rintro e W' ⟨he, ⟨ys, hp, hj⟩ | ⟨pre, hp, hj⟩⟩
  · exact ⟨he, .inl ⟨_, hp, hj⟩⟩
  · exact ⟨he, .inr ⟨_, hp, hj⟩⟩
theorem keepF_b {m kb sb : Nat} {w : World} (hm : m ≤ w.heap.size) (hk : kb < w.heap.size) (hs : sb < w.heap.size) (W : World) (l : Nat) (o o' : Obj) (hl : w.heap.size ≤ l) (_ : W.heap[l]? = some o) (_ : o.isCells = false) (_ : o.isWalk = false) : KeepF m kb sb W (W.putObj l o') :=
  ⟨by simp, fun j hj => World.putObj_heap_other (by omega)⟩
theorem seven (w : World) (o0 o1 o2 o3 o4 o5 o6 : Obj) : ∀ W0, W0 = ((((((w.alloc o0).alloc o1).alloc o2).alloc o3).alloc o4).alloc o5).alloc o6 →
    W0.heap.size = w.heap.size + 7 ∧ W0.heap[w.heap.size + 1]? = some o1 ∧ W0.heap[w.heap.size + 2]? = some o2 ∧ W0.heap[w.heap.size + 3]? = some o3 ∧ W0.heap[w.heap.size + 4]? = some o4 ∧ W0.heap[w.heap.size + 5]? = some o5 ∧ W0.heap[w.heap.size + 6]? = some o6 ∧ Below w.heap.size w W0 := by
  rintro W0 rfl
  have hp : ∀ (X : World) (o : Obj), (X.alloc o).heap = X.heap.push o := fun _ _ => rfl
  refine ⟨by simp, ?_, ?_, ?_, ?_, ?_, ?_, ?_⟩
  · simp only [hp, Array.getElem?_push, Array.size_push]; repeat (first | rw [if_pos rfl] | rw [if_pos trivial] | rw [if_neg (by omega)])
  · simp only [hp, Array.getElem?_push, Array.size_push]; repeat (first | rw [if_pos rfl] | rw [if_pos trivial] | rw [if_neg (by omega)])
  · simp only [hp, Array.getElem?_push, Array.size_push]; repeat (first | rw [if_pos rfl] | rw [if_pos trivial] | rw [if_neg (by omega)])
  · simp only [hp, Array.getElem?_push, Array.size_push]; repeat (first | rw [if_pos rfl] | rw [if_pos trivial] | rw [if_neg (by omega)])
  · simp only [hp, Array.getElem?_push, Array.size_push]; repeat (first | rw [if_pos rfl] | rw [if_pos trivial] | rw [if_neg (by omega)])
  · simp only [hp, Array.getElem?_push, Array.size_push]; repeat (first | rw [if_pos rfl] | rw [if_pos trivial] | rw [if_neg (by omega)])
  · refine ((((((((Below.refl _ w).alloc (Nat.le_refl _) o0).alloc ?_ o1).alloc ?_ o2).alloc ?_ o3).alloc ?_ o4).alloc ?_ o5).alloc ?_ o6) <;> (simp only [hp, Array.size_push]; omega)

def pkCells (ks s : List Int) (ys : List Nat) : List Value := ys.flatMap fun y => (decodeA ks (at32 s y)).toList
def spanCells (l : List (Int × Int)) : List Value := l.flatMap fun p => [.int .i64 p.1, .int .i64 p.2]
/-- Where the last packet ends, and the spans that are skipped so far. -/
def skSt (ys : List Nat) : Nat × List (Int × Int) := ys.foldl (fun (a : Nat × List (Int × Int)) (y : Nat) => (y + 32, if (a.1 : Int) < (y : Int) then a.2 ++ [((a.1 : Int), (y : Int))] else a.2)) (0, [])
theorem skSt_snoc (ys : List Nat) (y : Nat) : skSt (ys ++ [y]) = (y + 32, if ((skSt ys).1 : Int) < (y : Int) then (skSt ys).2 ++ [(((skSt ys).1 : Int), (y : Int))] else (skSt ys).2) := by simp [skSt, List.foldl_append]
theorem skSt_len (ys : List Nat) : (skSt ys).2.length ≤ ys.length := by
  have h : ∀ (ys : List Nat) (a : Nat × List (Int × Int)), (ys.foldl (fun (a : Nat × List (Int × Int)) (y : Nat) => (y + 32, if (a.1 : Int) < (y : Int) then a.2 ++ [((a.1 : Int), (y : Int))] else a.2)) a).2.length ≤ a.2.length + ys.length := by
    intro ys
    induction ys with
    | nil => intro a; simp
    | cons y ys ih =>
      intro a
      refine Nat.le_trans (ih _) ?_
      dsimp only
      split
      · simp; omega
      · simp
  simpa [skSt] using h ys (0, [])
theorem spanCells_snoc (l : List (Int × Int)) (p : Int × Int) : spanCells (l ++ [p]) = spanCells l ++ [.int .i64 p.1, .int .i64 p.2] := by simp [spanCells]
def skipL (ys : List Nat) (n : Nat) : List (Int × Int) := if ((skSt ys).1 : Int) < (n : Int) then (skSt ys).2 ++ [(((skSt ys).1 : Int), (n : Int))] else (skSt ys).2
def skipFn (b : Nat) : Value := .func (.func 139) #[] #[.pointer (some ⟨b, 0, none⟩)]

theorem wpListIn_load_mid {F : Fence} {n : Nat} {P : Program} {ops : Array Oper} {rest : List Oper} {o : Oper} {a : Act} {w : World} {Q : Exit → Act → World → Prop} (hgd : o.guard = none) (ty : TypeId) (x : Operand) (ho : o.op = .load ty x)
    (b of : Nat) (hx : a.eval x = .pointer (some ⟨b, of, none⟩)) (cs : List Value) (d : TypeDesc) (hc : w.rangeAt b of cs)
    (hu : P.underlying ty = some d) (hd : d.isRow = true) (hi : (P.info? ty).map (·.size) = some cs.length)
    (h : wpListIn F n P ops Q rest (a.put o.dst (.agg cs.toArray)) w) : wpListIn F n P ops Q (o :: rest) a w := by
  refine wpListIn_plain hgd fun K hK' => ?_
  unfold Oper.wpIn
  refine ⟨?_, ?_⟩
  · simp [Oper.about, ho]
  · rw [Oper.semAt_plain F _ _ (by rw [ho]; intro c hc'; cases hc')]
    simp only [execOp, ho, hx, Instr.loadAt, Instr.sureAddr, Sem.run_bind, Sem.run_pure, Result.andThen_ok, run_loadVar_mid w b of ty cs d hc hu hd hi]
    exact hK' _ _ h
theorem wpListIn_store_row {F : Fence} {n : Nat} {P : Program} {ops : Array Oper} {rest : List Oper} {o : Oper} {a : Act} {w : World} {Q : Exit → Act → World → Prop} (hgd : o.guard = none) (ty : TypeId) (x y : Operand) (ho : o.op = .store ty x y)
    (g : Nat) (cells : Array Value) (hx : a.eval x = .pointer (some ⟨g, 0, none⟩)) (hy : a.eval y = .agg cells)
    (t : TypeId) (old : Array Value) (hg : w.heap[g]? = some (.cells old t (0, 0))) (hi : (P.info? ty).map (·.size) = some cells.size)
    (hold : old.size = cells.size) (h1 : cells.all (·.oneCell') = true)
    (h : wpListIn F n P ops Q rest (a.put o.dst undef) (w.setRow g cells)) : wpListIn F n P ops Q (o :: rest) a w := by
  refine wpListIn_plain hgd fun K hK' => ?_
  unfold Oper.wpIn
  refine ⟨?_, ?_⟩
  · simp [Oper.about, ho]
  · rw [Oper.semAt_plain F _ _ (by rw [ho]; intro c hc'; cases hc')]
    simp only [execOp, ho, hx, hy, Instr.storeAt, Instr.sureAddr, Sem.run_bind, Sem.run_pure, Result.andThen_ok, run_storeVar_row w g t ty old cells hg hi hold h1]
    exact hK' _ _ h
theorem cells_new (w : World) (t : TypeId) (cs : Array Value) : ∀ (j : Nat) (u : Value), cs.toList[j]? = some u → (w.alloc (.cells cs t)).cell? ((⟨w.heap.size, 0, none⟩ : Addr).add j) = some u := fun j u h => by
  have hadd : (⟨w.heap.size, 0, none⟩ : Addr).add j = ⟨w.heap.size, j, none⟩ := by unfold Addr.add; split <;> simp_all
  rw [hadd, (Blk.new w t cs).cell j]
  simpa using h
theorem ownFrom_size {β : Type} (B m : Nat) : OwnFrom B (fun (_ : β) W => m ≤ W.heap.size) := fun _ _ _ _ hs hg _ => Nat.le_trans hs hg.size
theorem ownFrom_blk {β : Type} (B g : Nat) (t : TypeId) (cs : Array Value) : OwnFrom B (fun (_ : β) W => Blk W g t cs) := fun _ X Y row hs hg hr => by
  have hs' : X.heap[g]? = some (.cells cs t (0, 0)) := hs
  refine (hg.block g (Array.getElem?_eq_some_iff.1 hs').1 (fun e => ?_)).trans hs'
  obtain ⟨_, o, ho, hc⟩ := hr g e.symm
  rw [hs'] at ho
  cases ho
  cases hc
theorem keepF_of_grown {m kb sb : Nat} {W W' : World} {row : Option Nat} (hg : W.grownBy W' row) (hm : m ≤ W.heap.size) (hk : kb < W.heap.size) (hs : sb < W.heap.size) (hr : ∀ j, row = some j → m ≤ j ∧ j ≠ kb ∧ j ≠ sb) : KeepF m kb sb W W' :=
  ⟨hg.size, fun j hj => hg.block j (by omega) (fun e => by have := hr j e.symm; omega)⟩
theorem infoPk : (Tryz.prog.info? 101).map (fun i => (i.zero, i.size, i.bytes)) = some (some (.agg #[.int .i64 0, .int .i64 0, .int .i64 0, .int .i64 0, .int .u8 0, .int .u8 0, .int .u8 0, .int .u8 0, .int .u8 0, .int .u8 0, .int .u8 0, .int .u8 0, .int .u8 0, .int .u8 0, .int .u8 0, .int .u8 0, .int .u8 0, .int .u8 0, .int .u8 0, .int .u8 0, .int .u8 0, .int .u8 0]), 22, 56) := by kernel_rfl
theorem placedA_size (ks s : List Int) (i : Nat) : (placedA ks s i).size = 23 := by rw [placedA, Array.size_push, decodeA_size _ _ (at32_len s i)]
theorem placedA_one (ks s : List Int) (i : Nat) : (placedA ks s i).all (·.oneCell') = true := by
  rw [placedA, Array.all_push, decodeA_one]
  rfl
/-- What the loop's rounds carry. -/
def RecI (ks s : List Int) (N : Nat) (kk : Array Value) (ss : Value) (w : World) (pre : List Nat) (W : World) : Prop :=
  (∃ v, Boxed W (N + 1) 118 v ∧ W.ownsRow N 101 22 v pre.length (pkCells ks s pre) ∧ True) ∧
  (∃ v, Boxed W (N + 1 + 1) 119 v ∧ W.ownsRow N 184 2 v (skSt pre).2.length (spanCells (skSt pre).2) ∧ True) ∧
  Boxed W (N + 1 + 1 + 1 + 1) 3 (.int .i64 ((skSt pre).1 : Int)) ∧ Boxed W (N + 1 + 1 + 1) 219 (skipFn (N + 1 + 1)) ∧ Below N w W ∧ N + 7 ≤ W.heap.size ∧ Blk W (N + 1 + 1 + 1 + 1 + 1) 94 kk ∧ Blk W (N + 1 + 1 + 1 + 1 + 1 + 1) 106 #[ss]
theorem RecI_own (ks s : List Int) (N B : Nat) (kk : Array Value) (ss : Value) (w : World) (hN : N ≤ w.heap.size) (hB : N ≤ B) : OwnFrom B (RecI ks s N kk ss w) := by
  unfold RecI
  refine OwnFrom.and (Own.from (holdsRow_own N (N + 1) 118 101 22 (fun pre : List Nat => pre.length) (fun pre => pkCells ks s pre) (fun _ _ => True)) _) (OwnFrom.and (Own.from (holdsRow_own N (N + 1 + 1) 119 184 2 (fun pre : List Nat => (skSt pre).2.length) (fun pre => spanCells (skSt pre).2) (fun _ _ => True)) _) (OwnFrom.and (Own.from (boxed_own _ _ (fun pre : List Nat => Value.int .i64 ((skSt pre).1 : Int))) _) (OwnFrom.and (Own.from (boxed_own _ _ (fun _ : List Nat => skipFn (N + 1 + 1))) _) (OwnFrom.and (ownFrom_below hN hB) (OwnFrom.and (ownFrom_size _ _) (OwnFrom.and (ownFrom_blk _ _ _ _) (ownFrom_blk _ _ _ _)))))))
def RecA (kc : Array Value) (N n c : Nat) (A : Option Addr) (ks s : List Int) (x : Nat) (a' : Act) (W : World) : Prop :=
  ∃ bp, N + 7 ≤ bp ∧ a' = { tmps := #[.agg kc, .slice A n c, .pointer (some ⟨N, 0, none⟩), undef, .slice none 0 0, .slice none 0 0, .int .i64 0, .pointer (some ⟨N + 1, 0, none⟩), .pointer (some ⟨N + 1 + 1, 0, none⟩), .pointer (some ⟨N + 1 + 1 + 1, 0, none⟩), .pointer (some ⟨N + 1 + 1 + 1 + 1, 0, none⟩), .pointer (some ⟨bp, 0, none⟩), .slice A n c, .int .i64 (n : Int), .bool (decide (32768 < (n : Int))), skipFn (N + 1 + 1), .agg kc, .slice A n c,
    .func (.func 175) #[] #[.pointer (some ⟨N + 1 + 1 + 1 + 1 + 1 + 1, 0, none⟩), .pointer (some ⟨N + 1 + 1 + 1 + 1 + 1, 0, none⟩)], placedV ks s x, undef, undef, undef, undef, undef, undef, undef, undef, undef, undef, undef, undef, undef, undef, undef, undef, undef, undef, undef, undef], defers := [] } ∧ Blk W bp 224 (placedA ks s x)
theorem RecA_own (kc : Array Value) (N n c B : Nat) (A : Option Addr) (ks s : List Int) (x : Nat) (a' : Act) : OwnFrom B (fun (_ : Unit) W => RecA kc N n c A ks s x a' W) := fun u X Y row hs hg hr => by
  obtain ⟨bp, h1, h2, h3⟩ := hs
  exact ⟨bp, h1, h2, ownFrom_blk (β := Unit) B bp _ _ u X Y row h3 hg hr⟩

theorem keepF_of_apart {m kb sb B : Nat} {e tk ts : TypeId} {ck cs : Array Value} {W W' : World} (hb : Below m W W') (hA : Apart B e W W') (hk : Blk W kb tk ck) (hs : Blk W sb ts cs) (h1 : kb ≠ B) (h2 : tk ≠ e) (h3 : sb ≠ B) (h4 : ts ≠ e) : KeepF m kb sb W W' :=
  ⟨hA.1.size, fun j hj => by
    rcases hj with h | rfl | rfl
    · exact hb.block j h
    · exact (hA.blk hk h1 h2 : _ = _).trans (hk : _ = _).symm
    · exact (hA.blk hs h3 h4 : _ = _).trans (hs : _ = _).symm⟩
set_option maxHeartbeats 4000000 in
set_option maxRecDepth 100000 in
theorem Received_of (ks : List Int) (k0 k1 k2 k3 k4 k5 k6 k7 : Int) (HKS : Hid (ks = [k0, k1, k2, k3, k4, k5, k6, k7])) (s : List Int) (A : Option Addr) (n c : Nat) (w : World) (hkb : AllB ks) (hn : n ≤ 32768) (hc : n ≤ c) (hz : BytesAt w A n s) :
    Calls Tryz.prog 76 #[.agg #[.int .u8 k0, .int .u8 k1, .int .u8 k2, .int .u8 k3, .int .u8 k4, .int .u8 k5, .int .u8 k6, .int .u8 k7], .slice A n c] w fun e w' => ∃ ys k vl vs, Upto ks s ys k ∧ n < k + 32 ∧ e = .returned (.tuple #[vl, vs, .int .i64 0]) ∧
      w'.ownsRow w.heap.size 101 22 vl ys.length (pkCells ks s ys) ∧ w'.ownsRow w.heap.size 184 2 vs (skipL ys n).length (spanCells (skipL ys n)) ∧ Below w.heap.size w w' := by
  have HZ := Lib.hid hz
  clear hz
  refine (callsIn_wide (n := 5)).1 (callsIn_of_wp_marks (F := Fence.wide) (n := 5) Tryz.func76 rfl trivial (wpIn_wide.2 ?_) rfl)
  simp only [Tryz.ntmps76, List.size_toArray, List.length_cons, List.length_nil, Nat.reduceAdd, Nat.reduceSub, Array.replicate_succ, Array.replicate_zero, List.push_toArray, List.append_toArray, List.nil_append, List.cons_append]
  go_wp2_with (go_at_call 140; refine (frames_any [k0, k1, k2, k3, k4, k5, k6, k7] A n c _ rfl).mono ?_; rintro e w' ⟨rfl, rfl⟩)
  obtain ⟨W0, hW0⟩ : ∃ W0, W0 = (((((((w.alloc (.cells #[.int .u8 k0, .int .u8 k1, .int .u8 k2, .int .u8 k3, .int .u8 k4, .int .u8 k5, .int .u8 k6, .int .u8 k7] 94)).alloc (.cells #[.slice none 0 0] 118)).alloc (.cells #[.slice none 0 0] 119)).alloc (.cells #[skipFn (w.heap.size + 1 + 1)] 219)).alloc (.cells #[.int .i64 0] 3)).alloc (.cells (bytesA [k0, k1, k2, k3, k4, k5, k6, k7]) 94)).alloc (.cells #[.slice A n c] 106)) := ⟨_, rfl⟩
  change Code.wp _ _ _ _ (((((((w.alloc (.cells #[.int .u8 k0, .int .u8 k1, .int .u8 k2, .int .u8 k3, .int .u8 k4, .int .u8 k5, .int .u8 k6, .int .u8 k7] 94)).alloc (.cells #[.slice none 0 0] 118)).alloc (.cells #[.slice none 0 0] 119)).alloc (.cells #[skipFn (w.heap.size + 1 + 1)] 219)).alloc (.cells #[.int .i64 0] 3)).alloc (.cells (bytesA [k0, k1, k2, k3, k4, k5, k6, k7]) 94)).alloc (.cells #[.slice A n c] 106))
  rw [← hW0]
  obtain ⟨hs0, b1, b2, b3, b4, b5, b6, hB0⟩ := seven w _ _ _ _ _ _ _ W0 hW0
  clear hW0
  have hkr : W0.rangeAt (w.heap.size + 5) 0 (ks.map (Value.int .u8)) := fun j v hv => by
    rw [HKS.out] at hv
    rw [Nat.zero_add]
    have := cell_of_row W0 (w.heap.size + 5) j _ _ _ b5
    rw [this]
    simpa [bytesA] using hv
  have hsc : W0.cell? ⟨w.heap.size + 6, 0, none⟩ = some (.slice A n c) := cell_of_row W0 (w.heap.size + 6) 0 _ _ _ b6
  have hzk : BytesAt W0 A n s := HZ.out.keep hB0
  have hbg : 0 < n → ∀ b off, A = some ⟨b, off, none⟩ → b < w.heap.size := fun h0 b off hA => by
    obtain ⟨b', off', hA', hc'⟩ := HZ.out.2.2 h0
    rw [hA] at hA'
    cases hA'
    exact World.block_lt_of_cell? _ _ (hc' 0 h0)
  have hI0 : RecI ks s w.heap.size (bytesA [k0, k1, k2, k3, k4, k5, k6, k7]) (.slice A n c) w [] W0 := ⟨⟨_, b1, World.ownsRow_nil _ _ _ _, trivial⟩, ⟨_, b2, World.ownsRow_nil _ _ _ _, trivial⟩, b4, b3, hB0, by omega, b5, b6⟩
  obtain ⟨kk, hkk⟩ : ∃ kk, kk = bytesA [k0, k1, k2, k3, k4, k5, k6, k7] := ⟨_, rfl⟩
  rw [← hkk] at hI0
  clear hkk
  have hk8 : ks.length = 8 := by rw [HKS.out]; rfl
  obtain ⟨kc, hkc⟩ : ∃ kc : Array Value, kc = #[.int .u8 k0, .int .u8 k1, .int .u8 k2, .int .u8 k3, .int .u8 k4, .int .u8 k5, .int .u8 k6, .int .u8 k7] := ⟨_, rfl⟩
  rw [← hkc]
  obtain ⟨i0, hi, hz0, hz1, hz2⟩ := info_parts infoPk
  clear hkc
  refine (wpIn_wide (n := 5)).1 ?_
  refine wpIn_rangeFunc_ownH (F := Fence.wide) (n := 5) rfl (by omega) (gf := 175) (lb := #[.pointer (some ⟨w.heap.size + 1 + 1 + 1 + 1 + 1 + 1, 0, none⟩), .pointer (some ⟨w.heap.size + 1 + 1 + 1 + 1 + 1, 0, none⟩)]) rfl trivial (enters_of Tryz.func175 (by kernel_rfl) rfl)
    (frames_stops 4 (by omega) (w.heap.size + 1 + 1 + 1 + 1 + 1) (w.heap.size + 1 + 1 + 1 + 1 + 1 + 1) w.heap.size n c A ks s hk8 hkb hc (by omega) W0 (by omega) (by omega) (by omega) hkr hsc hzk hbg)
    KeepF.trans (keepF_b (by omega) (by omega) (by omega)) (Below.refl _ _) (fun _ => rfl)
    (fun pre => RecI ks s w.heap.size kk (.slice A n c) w (pre.map cl)) (fun _ _ _ => False) (fun pre => RecI_own ks s w.heap.size _ kk _ w (Nat.le_refl _) (by omega) (pre.map cl)) (fun _ _ _ _ _ hs _ _ => hs) hI0
    (fun x => RecA kc w.heap.size n c A ks s (cl x)) (fun x a' => RecA_own kc w.heap.size n c _ A ks s (cl x) a') ?assign ?body ?done ?stop
  case assign =>
    intro l pre x W K hIW hK
    have hsz : w.heap.size + 7 ≤ W.heap.size := hIW.2.2.2.2.2.1
    gi_wp2_with (refine wpListIn_store_row rfl 224 (.tmp 11) (.tmp 19) rfl W.heap.size (placedA ks s (cl x)) rfl rfl 224 _ (Blk.new W _ _) (by rw [placedA_size]; kernel_rfl) (by rw [placedA_size]; rfl) (placedA_one _ _ _) ?_)
    have hb := ((Below.refl W.heap.size W).alloc (Nat.le_refl _) (.cells ((#[.int .i64 0, .int .i64 0, .int .i64 0, .int .i64 0, .int .u8 0, .int .u8 0, .int .u8 0, .int .u8 0, .int .u8 0, .int .u8 0, .int .u8 0, .int .u8 0, .int .u8 0, .int .u8 0, .int .u8 0, .int .u8 0, .int .u8 0, .int .u8 0, .int .u8 0, .int .u8 0, .int .u8 0, .int .u8 0] : Array Value).push (.int .i64 0)) 224)).setRow' (Nat.le_refl _) (placedA ks s (cl x))
    have hg := grown_of_below hb
    refine hK _ _ (KeepsFrom.of_grownBy hg (fun j e => by cases e)) (keepF_of_grown hg (by omega) (by omega) (by omega) (fun j e => by cases e)) (RecI_own ks s w.heap.size W0.heap.size kk _ w (Nat.le_refl _) (by omega) (pre.map cl) W _ none hIW hg (fun j e => by cases e)) ⟨W.heap.size, hsz, rfl, ?_⟩
    exact (Blk.new W _ _).setRow _
  case body =>
    rintro l pre x a' W hl hrec ⟨⟨vl, hvl, hrl, _⟩, ⟨vs, hvs, hrs, _⟩, hbe, hbf, hBel, hsz, hkk, hss⟩ ⟨bp, hbp, rfl, hblk⟩ hlt
    have hda := decodeA_size ks (at32 s (cl x)) (at32_len s (cl x))
    obtain ⟨c0, c1, c2, c3, c4, c5, c6, c7, c8, c9, c10, c11, c12, c13, c14, c15, c16, c17, c18, c19, c20, c21, hdc⟩ := twentytwo _ hda
    have hpa : placedA ks s (cl x) = #[c0, c1, c2, c3, c4, c5, c6, c7, c8, c9, c10, c11, c12, c13, c14, c15, c16, c17, c18, c19, c20, c21, .int .i64 (cl x : Int)] := by rw [placedA, hdc]; rfl
    have hblk' : Blk W bp 224 #[c0, c1, c2, c3, c4, c5, c6, c7, c8, c9, c10, c11, c12, c13, c14, c15, c16, c17, c18, c19, c20, c21, .int .i64 (cl x : Int)] := by rw [← hpa]; exact hblk
    have HRNG : Hid (W.rangeAt bp 0 [c0, c1, c2, c3, c4, c5, c6, c7, c8, c9, c10, c11, c12, c13, c14, c15, c16, c17, c18, c19, c20, c21]) := fun j v hv => by
      have hj := (List.getElem?_eq_some_iff.1 hv).1
      rw [Nat.zero_add, hblk'.cell j, List.getElem?_toArray]
      show ([c0, c1, c2, c3, c4, c5, c6, c7, c8, c9, c10, c11, c12, c13, c14, c15, c16, c17, c18, c19, c20, c21] ++ [Value.int .i64 (cl x : Int)])[j]? = some v
      rw [List.getElem?_append_left hj]
      exact hv
    have H1C : Hid (∀ u ∈ [c0, c1, c2, c3, c4, c5, c6, c7, c8, c9, c10, c11, c12, c13, c14, c15, c16, c17, c18, c19, c20, c21], u.oneCell' = true) := fun u hu => by
      have := decodeA_one ks (at32 s (cl x))
      rw [hdc] at this
      exact (Array.all_eq_true_iff_forall_mem.1 this) u (by simpa using hu)
    have hcx := cl_le x
    have hplen : (pre.map cl).length = pre.length := List.length_map _
    rw [hplen] at hrl
    have hcl := hvl.cell
    have HVL := Lib.hid hvl
    have HRL := Lib.hid hrl
    have HVS := Lib.hid hvs
    have HRS := Lib.hid hrs
    have HBE := Lib.hid hbe
    have HBF := Lib.hid hbf
    have HBEL := Lib.hid hBel
    have HKK := Lib.hid hkk
    have HSS := Lib.hid hss
    have HBLK := Lib.hid hblk'
    have HPC : Hid (pkCells ks s ((pre ++ [x]).map cl) = pkCells ks s (pre.map cl) ++ [c0, c1, c2, c3, c4, c5, c6, c7, c8, c9, c10, c11, c12, c13, c14, c15, c16, c17, c18, c19, c20, c21]) := by
      show _ = _
      simp [pkCells, hdc]
    clear hvl hrl hvs hrs hbe hbf hBel hkk hss hblk' hblk hpa hdc hda
    gi_upto_region 10 with (first
      | (refine wpListIn_load_mid rfl 101 (.tmp 21) rfl bp 0 rfl [c0, c1, c2, c3, c4, c5, c6, c7, c8, c9, c10, c11, c12, c13, c14, c15, c16, c17, c18, c19, c20, c21] _ HRNG.out Tryz.underlying101 rfl (by kernel_rfl) ?_)
      | (gi_at_builtin; refine wpListIn_append_own _ rfl _ _ 118 rfl w.heap.size 101 i0 (.agg #[.int .i64 0, .int .i64 0, .int .i64 0, .int .i64 0, .int .u8 0, .int .u8 0, .int .u8 0, .int .u8 0, .int .u8 0, .int .u8 0, .int .u8 0, .int .u8 0, .int .u8 0, .int .u8 0, .int .u8 0, .int .u8 0, .int .u8 0, .int .u8 0, .int .u8 0, .int .u8 0, .int .u8 0, .int .u8 0]) 22 56 Tryz.underlying118 hi hz0 hz1 hz2 rfl (by decide) _ _ _ rfl (HRL.out.alloc _) ⟨W.heap.size, 0, none⟩ 1 1 [c0, c1, c2, c3, c4, c5, c6, c7, c8, c9, c10, c11, c12, c13, c14, c15, c16, c17, c18, c19, c20, c21] rfl rfl (cells_new _ _ _) H1C.out (by unfold maxLen; omega) (by omega) (by simp; omega) ?_; intro v' w1 hown' hgrow _; obtain ⟨g', cap', rfl⟩ := ownsRow_succ hown'; obtain ⟨hv1, hv2, hr2, hk2, hb2⟩ := HVL.out.appended (by decide) HRL.out (by omega) (by omega) hown' hgrow; have hc1 := hv1.cell; have hf1 := hv1.frozen))
    have hA1 : Hid (Apart (w.heap.size + 1) 101 W (w1.setCell ⟨w.heap.size + 1, 0, none⟩ (.slice (some ⟨g', 0, none⟩) (pre.length + 1) cap'))) := apart_append HRL.out hgrow
    obtain ⟨W1, hW1⟩ : ∃ W1, W1 = w1.setCell ⟨w.heap.size + 1, 0, none⟩ (.slice (some ⟨g', 0, none⟩) (pre.length + 1) cap') := ⟨_, rfl⟩
    rw [← hW1] at hA1 hv2 hr2 hk2 hb2 ⊢
    clear hW1 hc1 hf1 hv1 hgrow hown' hcl
    have hz1' : w.heap.size + 7 ≤ W1.heap.size := Nat.le_trans hsz hk2.size
    have HV2 := Lib.hid hv2
    have HR2 := Lib.hid hr2
    have HK2 := Lib.hid hk2
    have HB2 := Lib.hid hb2
    have HVS1 : Hid (Boxed W1 (w.heap.size + 1 + 1) 119 vs) := hA1.out.boxed HVS.out (by omega) (by decide)
    have HRS1 : Hid (W1.ownsRow w.heap.size 184 2 vs (skSt (pre.map cl)).2.length (spanCells (skSt (pre.map cl)).2)) := hA1.out.row HRS.out HVL.out (by decide) (by decide)
    have HBE1 : Hid (Boxed W1 (w.heap.size + 1 + 1 + 1 + 1) 3 (.int .i64 ((skSt (pre.map cl)).1 : Int))) := hA1.out.boxed HBE.out (by omega) (by decide)
    have HBF1 : Hid (Boxed W1 (w.heap.size + 1 + 1 + 1) 219 (skipFn (w.heap.size + 1 + 1))) := hA1.out.boxed HBF.out (by omega) (by decide)
    have HBLK1 : Hid (Blk W1 bp 224 #[c0, c1, c2, c3, c4, c5, c6, c7, c8, c9, c10, c11, c12, c13, c14, c15, c16, c17, c18, c19, c20, c21, .int .i64 (cl x : Int)]) := hA1.out.blk HBLK.out (by omega) (by decide)
    have HKK1 : Hid (Blk W1 (w.heap.size + 1 + 1 + 1 + 1 + 1) 94 kk) := hA1.out.blk HKK.out (by omega) (by decide)
    have HSS1 : Hid (Blk W1 (w.heap.size + 1 + 1 + 1 + 1 + 1 + 1) 106 #[.slice A n c]) := hA1.out.blk HSS.out (by omega) (by decide)
    have HKF1 : Hid (KeepF w.heap.size (w.heap.size + 1 + 1 + 1 + 1 + 1) (w.heap.size + 1 + 1 + 1 + 1 + 1 + 1) W W1) := keepF_of_apart HB2.out hA1.out HKK.out HSS.out (by omega) (by decide) (by omega) (by decide)
    clear hv2 hr2 hk2 hb2 hA1
    have x1 : W1.cell? ⟨w.heap.size + 1 + 1 + 1, 0, none⟩ = some (.func (.func 139) #[] #[.pointer (some ⟨w.heap.size + 1 + 1, 0, none⟩)]) := HBF1.out.cell
    have x2 := HBE1.out.cell
    have x3 : W1.cell? ⟨bp, 22, none⟩ = some (.int .i64 (cl x : Int)) := HBLK1.out.cell 22
    have hsl : (skSt (pre.map cl)).2.length ≤ 32768 := Nat.le_trans (skSt_len _) (by omega)
    have hfn : Fence.wide.fn 139 := trivial
    gi_upto_region 11 with (gi_at_call 139; refine (CallsIn.inRound l (callsIn_wide.2 (skip_any ((skSt (pre.map cl)).1 : Int) (cl x : Int) (w.heap.size + 1 + 1) w.heap.size vs _ _ W1 HVS1.out HRS1.out (by omega) (by omega) (by omega)))).mono ?_; rintro e W2 ⟨rfl, hA2, hB2, vs', hvs2, hrs2⟩)
    have HA2 := Lib.hid hA2
    have HB3 := Lib.hid hB2
    have HVS2 := Lib.hid hvs2
    have HRS2 := Lib.hid hrs2
    have hz2' : w.heap.size + 7 ≤ W2.heap.size := Nat.le_trans hz1' hA2.1.size
    have HVL2 : Hid (Boxed W2 (w.heap.size + 1) 118 (.slice (some ⟨g', 0, none⟩) (pre.length + 1) cap')) := hA2.boxed HV2.out (by omega) (by decide)
    have HRL2 : Hid (W2.ownsRow w.heap.size 101 22 (.slice (some ⟨g', 0, none⟩) (pre.length + 1) cap') (pre.length + 1) (pkCells ks s (pre.map cl) ++ [c0, c1, c2, c3, c4, c5, c6, c7, c8, c9, c10, c11, c12, c13, c14, c15, c16, c17, c18, c19, c20, c21])) := hA2.row HR2.out HVS1.out (by decide) (by decide)
    have HBE2 : Hid (Boxed W2 (w.heap.size + 1 + 1 + 1 + 1) 3 (.int .i64 ((skSt (pre.map cl)).1 : Int))) := hA2.boxed HBE1.out (by omega) (by decide)
    have HBF2 : Hid (Boxed W2 (w.heap.size + 1 + 1 + 1) 219 (skipFn (w.heap.size + 1 + 1))) := hA2.boxed HBF1.out (by omega) (by decide)
    have HBLK2 : Hid (Blk W2 bp 224 #[c0, c1, c2, c3, c4, c5, c6, c7, c8, c9, c10, c11, c12, c13, c14, c15, c16, c17, c18, c19, c20, c21, .int .i64 (cl x : Int)]) := hA2.blk HBLK1.out (by omega) (by decide)
    have HKK2 : Hid (Blk W2 (w.heap.size + 1 + 1 + 1 + 1 + 1) 94 kk) := hA2.blk HKK1.out (by omega) (by decide)
    have HSS2 : Hid (Blk W2 (w.heap.size + 1 + 1 + 1 + 1 + 1 + 1) 106 #[.slice A n c]) := hA2.blk HSS1.out (by omega) (by decide)
    have HKF2 : Hid (KeepF w.heap.size (w.heap.size + 1 + 1 + 1 + 1 + 1) (w.heap.size + 1 + 1 + 1 + 1 + 1 + 1) W1 W2) := keepF_of_apart hB2 hA2 HKK1.out HSS1.out (by omega) (by decide) (by omega) (by decide)
    clear hA2 hB2 hvs2 hrs2 x1 x2 x3
    have x3 : W2.cell? ⟨bp, 22, none⟩ = some (.int .i64 (cl x : Int)) := HBLK2.out.cell 22
    have x4 := HBE2.out.frozen
    have x5 := HBE2.out.cell
    have hw : IntKind.i64.wrap ((cl x : Int) + 32) = (cl x : Int) + 32 := IntWalk.i64_in _ (by omega)
    gi_wp2
    have hg3 := grownBy_setCell' W2 (w.heap.size + 1 + 1 + 1 + 1) (.int .i64 ((cl x : Int) + 32))
    have e1 : (pre ++ [x]).map cl = pre.map cl ++ [cl x] := by simp
    refine ⟨(((HK2.out.trans HA2.out.1).trans (KeepsOthers.setCell W2 _ _)).from _), (HKF1.out.trans HKF2.out).trans (keepF_of_grown hg3 (by omega) (by omega) (by omega) (fun j e => by cases e; omega)), ⟨_, HVL2.out.kept hg3 (by simp), ?_, trivial⟩, ⟨_, HVS2.out.kept hg3 (by simp), ?_, trivial⟩, ?_, HBF2.out.kept hg3 (by simp), ((HBEL.out.trans HB2.out).trans HB3.out).setCell (p := ⟨w.heap.size + 1 + 1 + 1 + 1, 0, none⟩) (by show w.heap.size ≤ w.heap.size + 1 + 1 + 1 + 1; omega) _, by simp; omega, ?_, ?_⟩
    · rw [HPC.out, e1, List.length_append, hplen]
      exact HRL2.out.kept hg3 (.inr (HBE2.out.not_row (by decide) HRL2.out).symm)
    · rw [e1, skSt_snoc]
      have h2 := HRS2.out.kept hg3 (.inr (HBE2.out.not_row (by decide) HRS2.out).symm)
      dsimp only
      by_cases hc2 : ((skSt (pre.map cl)).1 : Int) < (cl x : Int)
      · rw [if_pos hc2, if_pos hc2] at h2
        rw [if_pos hc2, spanCells_snoc, List.length_append]
        exact h2
      · rw [if_neg hc2, if_neg hc2] at h2
        rw [if_neg hc2]
        exact h2
    · rw [e1, skSt_snoc]
      exact HBE2.out.set _
    · exact (Below.heap_setCell W2 ⟨w.heap.size + 1 + 1 + 1 + 1, 0, none⟩ _ _ (by show _ ≠ w.heap.size + 1 + 1 + 1 + 1; omega)).trans HKK2.out
    · exact (Below.heap_setCell W2 ⟨w.heap.size + 1 + 1 + 1 + 1, 0, none⟩ _ _ (by show _ ≠ w.heap.size + 1 + 1 + 1 + 1; omega)).trans HSS2.out
  case done =>
    rintro D ys W hD ⟨k, hU, hk⟩ ⟨⟨vl, hvl, hrl, _⟩, ⟨vs, hvs, hrs, _⟩, hbe, hbf, hBel, hsz, _, _⟩ hDd
    have hym : ys.map cl = ys := cl_map hU (by rw [HZ.out.1]; exact hn)
    rw [hym] at hrl hrs hbe
    have hsl : (skSt ys).2.length ≤ 32768 := Nat.le_trans (skSt_len _) (by have := hU.le; have := HZ.out.1; omega)
    have HVL := Lib.hid hvl
    have HRL := Lib.hid hrl
    have HVS := Lib.hid hvs
    have HRS := Lib.hid hrs
    have HBEL := Lib.hid hBel
    have HU := Lib.hid hU
    have HDD := Lib.hid hDd
    have x1 : W.cell? ⟨w.heap.size + 1 + 1 + 1, 0, none⟩ = some (.func (.func 139) #[] #[.pointer (some ⟨w.heap.size + 1 + 1, 0, none⟩)]) := hbf.cell
    have x2 := hbe.cell
    clear hvl hrl hvs hrs hBel hU hDd hbe hbf
    go_upto_region 13 with (go_at_call 139; refine (skip_any ((skSt ys).1 : Int) (n : Int) (w.heap.size + 1 + 1) w.heap.size vs _ _ W HVS.out HRS.out (by omega) (by omega) (by omega)).mono ?_; rintro e W2 ⟨rfl, hA2, hB2, vs', hvs2, hrs2⟩)
    have HVL2 : Hid (Boxed W2 (w.heap.size + 1) 118 vl) := hA2.boxed HVL.out (by omega) (by decide)
    have HRL2 : Hid (W2.ownsRow w.heap.size 101 22 vl ys.length (pkCells ks s ys)) := hA2.row HRL.out HVS.out (by decide) (by decide)
    have HDD2 : Hid (W2.heap[D]? = some (.deferred (some []))) := hA2.1.same D _ HDD.out rfl
    have HB2 := Lib.hid hB2
    have HRS2 := Lib.hid hrs2
    have y1 := HVL2.out.cell
    have y2 := hvs2.cell
    clear x1 x2 hA2 hB2 hrs2 hvs2
    go_region
    all_goals go_wp2
    refine ⟨by simp, .inl ⟨_, _, rfl, run_takeDeferred (w := W2.drew) HDD2.out, ?_⟩⟩
    refine ⟨_, results_tmp3 rfl _ _ _, ys, k, vl, vs', HU.out, hk, rfl, ownsRow_putObj (W := W2.drew) HRL2.out (.deferred none) HDD2.out rfl, ?_, ((HBEL.out.trans HB2.out).drew).trans (belowK_b (w := w) (Nat.le_refl _) W2.drew D _ (.deferred none) (by omega) HDD2.out rfl rfl)⟩
    refine ownsRow_putObj (W := W2.drew) ?_ (.deferred none) HDD2.out rfl
    have h2 := HRS2.out
    unfold skipL
    by_cases hc2 : ((skSt ys).1 : Int) < (n : Int)
    · rw [if_pos hc2, if_pos hc2] at h2
      rw [if_pos hc2, spanCells_snoc, List.length_append]
      exact h2
    · rw [if_neg hc2, if_neg hc2] at h2
      rw [if_neg hc2]
      exact h2
  case stop =>
    rintro D c pre W _ _ h _
    exact h.elim
end Go.Proofs.YtoipafnlcchmbaaGreatDoor
