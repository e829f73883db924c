/- A spectrum times weights. A spectrum times weights, by the reference. -/
import Derived.Test.YtnbionhahifacaaDoorQE
import Derived.Laws.CopyOwn
namespace Go.Proofs.YtnbionhahifacaaDoor
open Go.RowKit

def wgt (x w : Int) : Int := roundE (x * w) 1000
def mix (s v : List Int) (k i : Nat) : Int := if i < k then wgt (s.getD i 0) (v.getD i 0) else s.getD i 0
def arrK (s v : List Int) (k : Nat) : Array Value := ((List.range 8).map fun i => Value.int .i64 (mix s v k i)).toArray
theorem arrK_at (s v : List Int) (k i : Nat) (hi : i < 8) : (arrK s v k)[i]? = some (.int .i64 (mix s v k i)) := by
  unfold arrK
  simp [hi]
theorem arrK_set (s v : List Int) (k : Nat) : (arrK s v k).setIfInBounds k (.int .i64 (wgt (s.getD k 0) (v.getD k 0))) = arrK s v (k + 1) := by
  apply Array.ext
  · simp [arrK]
  · intro i h1 h2
    simp only [arrK, List.size_toArray, List.length_map, List.length_range] at h2
    rw [Array.getElem_setIfInBounds]
    simp only [arrK, List.getElem_toArray, List.getElem_map, List.getElem_range, mix]
    by_cases h : k = i
    · subst h; simp
    · rw [if_neg h]
      by_cases h3 : i < k
      · rw [if_pos h3, if_pos (by omega)]
      · rw [if_neg h3, if_neg (by omega)]
    · simp [arrK]; omega
theorem arrK_zero (s0 s1 s2 s3 s4 s5 s6 s7 : Int) (v : List Int) : arrK [s0, s1, s2, s3, s4, s5, s6, s7] v 0 = #[.int .i64 s0, .int .i64 s1, .int .i64 s2, .int .i64 s3, .int .i64 s4, .int .i64 s5, .int .i64 s6, .int .i64 s7] := rfl
theorem arrK_eight (s0 s1 s2 s3 s4 s5 s6 s7 w0 w1 w2 w3 w4 w5 w6 w7 : Int) : arrK [s0, s1, s2, s3, s4, s5, s6, s7] [w0, w1, w2, w3, w4, w5, w6, w7] 8 = #[.int .i64 (wgt s0 w0), .int .i64 (wgt s1 w1), .int .i64 (wgt s2 w2), .int .i64 (wgt s3 w3), .int .i64 (wgt s4 w4), .int .i64 (wgt s5 w5), .int .i64 (wgt s6 w6), .int .i64 (wgt s7 w7)] := rfl

theorem index8 (k : Nat) (hk : k < 8) (w0 w1 w2 w3 w4 w5 w6 w7 : Int) (W : World) :
    (Instr.index 23 (.agg #[.int .i64 w0, .int .i64 w1, .int .i64 w2, .int .i64 w3, .int .i64 w4, .int .i64 w5, .int .i64 w6, .int .i64 w7]) (.int .i64 (k : Int))).run Tryd.prog W = .ok (.int .i64 ([w0, w1, w2, w3, w4, w5, w6, w7].getD k 0)) W := by
  match k, hk with
  | 0, _ => show _ = _; kernel_rfl
  | 1, _ => show _ = _; kernel_rfl
  | 2, _ => show _ = _; kernel_rfl
  | 3, _ => show _ = _; kernel_rfl
  | 4, _ => show _ = _; kernel_rfl
  | 5, _ => show _ = _; kernel_rfl
  | 6, _ => show _ = _; kernel_rfl
  | 7, _ => show _ = _; kernel_rfl

theorem Blk.set8 {w : World} {g : Nat} {t : TypeId} {a0 a1 a2 a3 a4 a5 a6 a7 : Value} (h : Blk w g t #[a0, a1, a2, a3, a4, a5, a6, a7]) (b0 b1 b2 b3 b4 b5 b6 b7 : Value) : Blk ((((((((w.setCell ⟨g, 0, none⟩ b0).setCell ⟨g, 1, none⟩ b1).setCell ⟨g, 2, none⟩ b2).setCell ⟨g, 3, none⟩ b3).setCell ⟨g, 4, none⟩ b4).setCell ⟨g, 5, none⟩ b5).setCell ⟨g, 6, none⟩ b6).setCell ⟨g, 7, none⟩ b7) g t #[b0, b1, b2, b3, b4, b5, b6, b7] := by
  have h1 : Blk _ g t #[b0, a1, a2, a3, a4, a5, a6, a7] := h.set_ 0 b0
  have h2 : Blk _ g t #[b0, b1, a2, a3, a4, a5, a6, a7] := h1.set_ 1 b1
  have h3 : Blk _ g t #[b0, b1, b2, a3, a4, a5, a6, a7] := h2.set_ 2 b2
  have h4 : Blk _ g t #[b0, b1, b2, b3, a4, a5, a6, a7] := h3.set_ 3 b3
  have h5 : Blk _ g t #[b0, b1, b2, b3, b4, a5, a6, a7] := h4.set_ 4 b4
  have h6 : Blk _ g t #[b0, b1, b2, b3, b4, b5, a6, a7] := h5.set_ 5 b5
  have h7 : Blk _ g t #[b0, b1, b2, b3, b4, b5, b6, a7] := h6.set_ 6 b6
  have h8 : Blk _ g t #[b0, b1, b2, b3, b4, b5, b6, b7] := h7.set_ 7 b7
  exact h8
theorem below_set8 {B : Nat} {a w : World} {g : Nat} (h : Below B a w) (hp : B ≤ g) (b0 b1 b2 b3 b4 b5 b6 b7 : Value) : Below B a ((((((((w.setCell ⟨g, 0, none⟩ b0).setCell ⟨g, 1, none⟩ b1).setCell ⟨g, 2, none⟩ b2).setCell ⟨g, 3, none⟩ b3).setCell ⟨g, 4, none⟩ b4).setCell ⟨g, 5, none⟩ b5).setCell ⟨g, 6, none⟩ b6).setCell ⟨g, 7, none⟩ b7) := ((((((((h.setCell (p := ⟨g, 0, none⟩) hp b0).setCell (p := ⟨g, 1, none⟩) hp b1).setCell (p := ⟨g, 2, none⟩) hp b2).setCell (p := ⟨g, 3, none⟩) hp b3).setCell (p := ⟨g, 4, none⟩) hp b4).setCell (p := ⟨g, 5, none⟩) hp b5).setCell (p := ⟨g, 6, none⟩) hp b6).setCell (p := ⟨g, 7, none⟩) hp b7)
theorem results8 {w : World} {g : Nat} {t : TypeId} {a0 a1 a2 a3 a4 a5 a6 a7 : Value} (h : Blk w g t #[a0, a1, a2, a3, a4, a5, a6, a7]) :
    w.cell? ⟨g, 0, none⟩ = some a0 ∧ w.cell? ⟨g, 1, none⟩ = some a1 ∧ w.cell? ⟨g, 2, none⟩ = some a2 ∧ w.cell? ⟨g, 3, none⟩ = some a3 ∧ w.cell? ⟨g, 4, none⟩ = some a4 ∧ w.cell? ⟨g, 5, none⟩ = some a5 ∧ w.cell? ⟨g, 6, none⟩ = some a6 ∧ w.cell? ⟨g, 7, none⟩ = some a7 :=
  ⟨h.cell 0, h.cell 1, h.cell 2, h.cell 3, h.cell 4, h.cell 5, h.cell 6, h.cell 7⟩
theorem size_set8 {w : World} {g : Nat} (b0 b1 b2 b3 b4 b5 b6 b7 : Value) : ((((((((w.setCell ⟨g, 0, none⟩ b0).setCell ⟨g, 1, none⟩ b1).setCell ⟨g, 2, none⟩ b2).setCell ⟨g, 3, none⟩ b3).setCell ⟨g, 4, none⟩ b4).setCell ⟨g, 5, none⟩ b5).setCell ⟨g, 6, none⟩ b6).setCell ⟨g, 7, none⟩ b7).heap.size = w.heap.size := by simp [World.setCell]

def weightedErr (s v : List Int) : Int := firstE [firstInE checkEnergyE s, firstInE checkFactorE v]
theorem enters_CheckEnergy' (args : Array Value) (W : World) : (callFunc 31 args).run Tryd.prog W = .ok (.enter 31 args) W := enters_checkEnergy args W
theorem firstIn_st (F : FuncId) (f : Int → Int) (A : Option Addr) (n c : Nat) (zs : List Int) (w : World) (hn : n ≤ 140737488351232)
    (hE : ∀ (args : Array Value) (W : World), (callFunc F args).run Tryd.prog W = .ok (.enter F args) W)
    (hF : ∀ (x : Int) (W : World), Calls Tryd.prog F #[.int .i64 x] W fun e w' => e = .returned (.int .i64 (f x)) ∧ W = w')
    (hz : IntsAt w A n zs) :
    Calls Tryd.prog 53 #[.slice A n c, .func (.func F) #[] #[]] w fun e w' => e = .returned (.int .i64 (firstInE f zs)) ∧ w' = w :=
  (firstIn_int F f A n c zs w hn hE hF hz).mono fun _ _ ⟨h, e⟩ => ⟨h, e.symm⟩

end Go.Proofs.YtnbionhahifacaaDoor
namespace Go.Proofs.YtnbionhahifacaaDoor
open Go.RowKit

end Go.Proofs.YtnbionhahifacaaDoor
