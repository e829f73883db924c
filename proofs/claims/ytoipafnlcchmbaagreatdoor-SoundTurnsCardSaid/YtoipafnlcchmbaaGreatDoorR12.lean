/- What is received, as lists. -/
import Derived.Test.YtoipafnlcchmbaaGreatDoorR10
import Derived.Test.YtoipafnlcchmbaaGreatDoorR11
import Derived.Test.YtoipafnlcchmbaaGreatDoorR9
namespace Go.Proofs.YtoipafnlcchmbaaGreatDoor
open Go.RowKit

theorem Upto.dec {ks s : List Int} {ys : List Nat} {k : Nat} (h : Upto ks s ys k) : ∀ y ∈ ys, decodeE ks (at32 s y) = 0 := by
  induction h with
  | nil => simp
  | err h h1 h2 ih => exact ih
  | hit h h1 h2 ih =>
    intro y hy
    rcases List.mem_append.1 hy with h3 | h3
    · exact ih y h3
    · rw [List.mem_singleton.1 h3]; exact h2
def recvL (s : List Int) (ys : List Nat) : List Pk := ys.map fun y => readP (at32 s y)
theorem recvL_len (s : List Int) (ys : List Nat) : (recvL s ys).length = ys.length := by simp [recvL]
theorem recv18 (s : List Int) (ys : List Nat) : All18 (recvL s ys) := by
  intro i hi
  rw [recvL_len] at hi
  have e : (recvL s ys).getD i Pk.none = readP (at32 s (ys.getD i 0)) := by simp [recvL, List.getD_eq_getElem?_getD, List.getElem?_eq_getElem hi]
  rw [e]
  simp [readP, at32_len]
theorem recv_cells {ks s : List Int} (ys : List Nat) (h : ∀ y ∈ ys, decodeE ks (at32 s y) = 0) : pkCells ks s ys = pksCells (recvL s ys) := by
  induction ys with
  | nil => rfl
  | cons y ys ih =>
    have h1 := h y (by simp)
    have h2 := ih (fun z hz => h z (by simp [hz]))
    have e1 : pkCells ks s (y :: ys) = (decodeA ks (at32 s y)).toList ++ pkCells ks s ys := rfl
    have e2 : pksCells (recvL s (y :: ys)) = (readP (at32 s y)).cells.toList ++ pksCells (recvL s ys) := rfl
    rw [e1, e2, h2]
    unfold decodeA
    rw [if_pos h1]
theorem pks_of {ks s : List Int} {ys : List Nat} {e : TypeId} {w : World} {base : Nat} {v : Value} (h : w.ownsRow base e 22 v ys.length (pkCells ks s ys)) (hd : ∀ y ∈ ys, decodeE ks (at32 s y) = 0) :
    ∃ A c, v = .slice A ys.length c ∧ PksAt w A ys.length (recvL s ys) := by
  rw [recv_cells ys hd] at h
  have h2 : OwnP e w base v (recvL s ys) := by
    unfold OwnP
    rw [recvL_len]; exact h
  have := h2.at_ (recv18 s ys)
  rwa [recvL_len] at this
theorem spanCells_at0 (l : List (Int × Int)) (i : Nat) (hi : i < l.length) : (spanCells l)[i * 2]? = some (.int .i64 (l.getD i (0, 0)).1) := by
  induction l generalizing i with
  | nil => simp at hi
  | cons p l ih =>
    cases i with
    | zero => rfl
    | succ i =>
      have := ih i (by simpa using hi)
      have e : spanCells (p :: l) = Value.int .i64 p.1 :: Value.int .i64 p.2 :: spanCells l := rfl
      rw [e, show (i + 1) * 2 = i * 2 + 1 + 1 by omega]
      simpa using this
theorem spans_of {e : TypeId} {w : World} {base : Nat} {v : Value} {l : List (Int × Int)} (h : w.ownsRow base e 2 v l.length (spanCells l)) : ∃ A c, v = .slice A l.length c ∧ HeardAt w A l.length l := by
  have h0 := h
  rcases h.2 with ⟨hv, hn⟩ | ⟨g, cap, cur, hv, hb, hg, hnc, hm, hs', ht⟩
  · exact ⟨none, 0, by rw [hv, hn], ⟨rfl, fun h => by omega⟩⟩
  · subst hv
    refine ⟨_, _, rfl, ⟨rfl, fun _ => ⟨g, 0, rfl, fun i hi => ?_⟩⟩⟩
    rw [Nat.zero_add]
    refine ⟨?_, ?_⟩
    · rw [World.ownsRow.cellAt h0 (i * 2) (by omega)]; exact spanCells_at0 l i hi
    · rw [World.ownsRow.cellAt h0 (i * 2 + 1) (by omega)]; exact spanCells_at l i hi
/-- Received, of the copy that the law makes, whatever the stream's length that the law lets pass. -/
theorem Received_law (ks : List Int) (k0 k1 k2 k3 k4 k5 k6 k7 : Int) (HKS : Hid (ks = [k0, k1, k2, k3, k4, k5, k6, k7])) (s : List Int) (n : Nat) (hl : s.length = n) (hkb : AllB ks) (hn : n ≤ 300 ∨ n = 32769) :
    ∃ (ys : List Nat) (sp : List (Int × Int)) (E : Int), (n ≤ 300 → E = 0 ∧ sp = skipL ys n ∧ ∃ k, Upto ks s ys k ∧ n < k + 32) ∧ (n = 32769 → E = 26 ∧ ys = [] ∧ sp = []) ∧ (∀ y ∈ ys, decodeE ks (at32 s y) = 0) ∧
      ∀ (A : Option Addr) (c : Nat) (w : World), n ≤ c → BytesAt w A n s → Calls Tryz.prog 76 #[.agg #[.int .u8 k0, .int .u8 k1, .int .u8 k2, .int .u8 k3, .int .u8 k4, .int .u8 k5, .int .u8 k6, .int .u8 k7], .slice A n c] w fun e w' => ∃ vl vs, e = .returned (.tuple #[vl, vs, .int .i64 E]) ∧
        w'.ownsRow w.heap.size 101 22 vl ys.length (pkCells ks s ys) ∧ w'.ownsRow w.heap.size 184 2 vs sp.length (spanCells sp) ∧ Below w.heap.size w w' := by
  by_cases h3 : n ≤ 300
  · -- the places are determined
    have hu : ∃ ys k, Upto ks s ys k ∧ s.length < k + 32 := by
      have hstep : ∀ f, ∀ ys k, Upto ks s ys k → s.length < k + 32 + f → ∃ ys k, Upto ks s ys k ∧ s.length < k + 32 := by
        intro f
        induction f with
        | zero => intro ys k h h1; exact ⟨ys, k, h, by omega⟩
        | succ f ih =>
          intro ys k h h1
          by_cases h2 : k + 32 ≤ s.length
          · by_cases h4 : decodeE ks (at32 s k) = 0
            · exact ih _ _ (h.hit h2 h4) (by omega)
            · exact ih _ _ (h.err h2 h4) (by omega)
          · exact ⟨ys, k, h, by omega⟩
      exact hstep s.length [] 0 .nil (by omega)
    obtain ⟨ys, k, hu, hk⟩ := hu
    rw [hl] at hk
    refine ⟨ys, skipL ys n, 0, fun _ => ⟨rfl, rfl, k, hu, hk⟩, fun h => by omega, hu.dec, fun A c w hc hz => ?_⟩
    refine (Received_of ks k0 k1 k2 k3 k4 k5 k6 k7 HKS s A n c w hkb (by omega) hc hz).mono ?_
    rintro e w' ⟨ys', k', vl, vs, hu', hk', rfl, h1, h2, hb⟩
    have hy : ys' = ys := hu'.only hu (by rw [hl]; exact hk') (by rw [hl]; exact hk)
    subst hy
    exact ⟨vl, vs, rfl, h1, h2, hb⟩
  · refine ⟨[], [], 26, fun h => absurd h h3, fun _ => ⟨rfl, rfl, rfl⟩, fun y hy => by simp at hy, fun A c w hc hz => ?_⟩
    refine (Received_long k0 k1 k2 k3 k4 k5 k6 k7 A n c w (by omega)).mono ?_
    rintro e w' ⟨rfl, hb⟩
    exact ⟨_, _, rfl, World.ownsRow_nil _ _ _ _, World.ownsRow_nil _ _ _ _, hb⟩
end Go.Proofs.YtoipafnlcchmbaaGreatDoor
