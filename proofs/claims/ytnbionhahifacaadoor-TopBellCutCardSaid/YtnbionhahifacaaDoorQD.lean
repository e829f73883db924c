/- What is heard on a day: structs of a tick and an energy. What is penalized, by the program. What is penalized: the map, and the whole. What is penalized, by the reference; copies of what is heard. -/
import Derived.Test.YtnbionhahifacaaDoorQC
import Derived.Laws.EntriesVeiled
namespace Go.Proofs.YtnbionhahifacaaDoor
open Go.RowKit

def HeardAt (w : World) (A : Option Addr) (n : Nat) (hs : List (Int × Int)) : Prop :=
  hs.length = n ∧ (0 < n → ∃ b off, A = some ⟨b, off, none⟩ ∧ ∀ i, i < n → w.cell? ⟨b, off + i * 2, none⟩ = some (.int .i64 (hs.getD i (0, 0)).1) ∧ w.cell? ⟨b, off + i * 2 + 1, none⟩ = some (.int .i64 (hs.getD i (0, 0)).2))
theorem HeardAt.keep {w w' : World} {A : Option Addr} {n : Nat} {zs : List (Int × Int)} (h : HeardAt w A n zs) (hb : Below w.heap.size w w') : HeardAt w' A n zs := by
  refine ⟨h.1, fun hn => ?_⟩
  obtain ⟨b, off, rfl, hc⟩ := h.2 hn
  refine ⟨b, off, rfl, fun i hi => ?_⟩
  have h1 := hc i hi
  rw [hb.cell (p := ⟨b, off + i * 2, none⟩) (World.block_lt_of_cell? _ _ h1.1), hb.cell (p := ⟨b, off + i * 2 + 1, none⟩) (World.block_lt_of_cell? _ _ h1.2)]
  exact h1

def heardE (h : Int × Int) : Int := firstE [withinE h.1 0 86399, checkEnergyE h.2]

theorem checkEnergy_st (x : Int) (w : World) :
    Calls Tryd.prog 31 #[.int .i64 x] w fun e w' => e = .returned (.int .i64 (checkEnergyE x)) ∧ w' = w :=
  (checkEnergy_any x w).mono fun _ _ ⟨h, e⟩ => ⟨h, e.symm⟩

def firstInH (hs : List (Int × Int)) : Int := firstE (hs.map heardE)
theorem getD_mapH (f : Int × Int → Int) (zs : List (Int × Int)) (i : Nat) (h : i < zs.length) : (zs.map f).getD i 0 = f (zs.getD i (0, 0)) := by
  simp [List.getD_eq_getElem?_getD, List.getElem?_eq_getElem h]
theorem firstInH_hit (zs : List (Int × Int)) (k : Nat) (hk : k < zs.length) (hz : ∀ i, i < k → heardE (zs.getD i (0, 0)) = 0) (h : heardE (zs.getD k (0, 0)) ≠ 0) : firstInH zs = heardE (zs.getD k (0, 0)) := by
  unfold firstInH
  rw [firstE_hit (zs.map heardE) k (by simpa using hk) (fun i hi => by rw [getD_mapH heardE zs i (by omega)]; exact hz i hi) (by rw [getD_mapH heardE zs k hk]; exact h), getD_mapH heardE zs k hk]
theorem firstInH_miss (zs : List (Int × Int)) (hz : ∀ i, i < zs.length → heardE (zs.getD i (0, 0)) = 0) : firstInH zs = 0 := by
  unfold firstInH
  refine firstE_miss _ (fun i hi => ?_)
  rw [List.length_map] at hi
  rw [getD_mapH heardE zs i hi]; exact hz i hi

/-- The table of penalties as it lies in memory. -/
def fnV (F : FuncId) : Value := .func (.func F) #[] #[]
def leB (a b : Int) : Bool := decide (a ≤ b)

end Go.Proofs.YtnbionhahifacaaDoor
namespace Go.Proofs.YtnbionhahifacaaDoor
open Go.RowKit

def fromAt : Nat → Int
  | 0 => 82800 | 1 => 68400 | 2 => 25200 | _ => 0
def idxOf (tick : Int) : Nat := if 82800 ≤ tick then 0 else if 68400 ≤ tick then 1 else if 25200 ≤ tick then 2 else 3
def penF (tick : Int) : Int := if 82800 ≤ tick then 10 else if 68400 ≤ tick then 3 else if 25200 ≤ tick then 1 else 10
theorem leB_true {a b : Int} (h : a ≤ b) : leB a b = true := decide_eq_true h
theorem leB_false {a b : Int} (h : ¬ a ≤ b) : leB a b = false := decide_eq_false h
theorem idxOf_le (tick : Int) : idxOf tick ≤ 3 := by
  unfold idxOf
  split
  · omega
  · split
    · omega
    · split <;> omega

theorem penF_bd (tick x : Int) (h1 : 0 ≤ x) (h2 : x ≤ 10000000000000) : 0 ≤ penF tick * x ∧ penF tick * x ≤ 100000000000000 := by
  unfold penF
  split
  · omega
  · split
    · omega
    · split <;> omega

end Go.Proofs.YtnbionhahifacaaDoor
namespace Go.Proofs.YtnbionhahifacaaDoor
open Go.RowKit

def penL (hs : List (Int × Int)) : List Int := hs.map fun h => penF h.1 * h.2
theorem penL_length (hs : List (Int × Int)) : (penL hs).length = hs.length := by simp [penL]
theorem penL_take (hs : List (Int × Int)) (k : Nat) (h : k < hs.length) : penL (hs.take (k + 1)) = penL (hs.take k) ++ [penF (hs.getD k (0, 0)).1 * (hs.getD k (0, 0)).2] := by
  unfold penL
  rw [List.take_succ_eq_append_getElem h, List.map_append]
  simp [List.getD_eq_getElem?_getD, List.getElem?_eq_getElem h]

def ValidH (hs : List (Int × Int)) : Prop := hs.length ≤ 1024 ∧ ∀ i, i < hs.length → 0 ≤ (hs.getD i (0, 0)).1 ∧ (hs.getD i (0, 0)).1 ≤ 86399 ∧ 0 ≤ (hs.getD i (0, 0)).2 ∧ (hs.getD i (0, 0)).2 ≤ 10000000000000

def penPre (hs : List (Int × Int)) : Int := firstE [atMostE hs.length 1024, firstInH hs]
def penErr (hs : List (Int × Int)) : Int := if penPre hs = 0 then overE (sumL (penL hs)) else penPre hs
def penVal (hs : List (Int × Int)) : Int := if penPre hs = 0 then capE (sumL (penL hs)) else 0
theorem penPre_zero {hs : List (Int × Int)} (h : penPre hs = 0) : ValidH hs := by
  have h2 := firstE2_zero h
  refine ⟨?_, fun i hi => ?_⟩
  · have := h2.1
    unfold atMostE at this
    split at this <;> omega
  · have h3 : heardE (hs.getD i (0, 0)) = 0 := by
      refine firstE_zero h2.2 _ ?_
      rw [List.getD_eq_getElem?_getD, List.getElem?_eq_getElem hi]
      exact List.mem_map.2 ⟨_, List.getElem_mem hi, rfl⟩
    have h4 := firstE2_zero h3
    have h5 := withinE_zero h4.1
    have h6 := withinE_zero h4.2
    exact ⟨h5.1, h5.2, h6.1, h6.2⟩
theorem penL_bd {hs : List (Int × Int)} (hv : ValidH hs) (i : Nat) (hi : i < (penL hs).length) : 0 ≤ (penL hs).getD i 0 ∧ (penL hs).getD i 0 ≤ 100000000000000 := by
  rw [penL_length] at hi
  have := hv.2 i hi
  unfold penL
  rw [getD_mapH (fun h => penF h.1 * h.2) hs i hi]
  exact penF_bd _ _ this.2.2.1 this.2.2.2

end Go.Proofs.YtnbionhahifacaaDoor
namespace Go.Proofs.YtnbionhahifacaaDoor
open Go.RowKit

theorem refCheckEnergy_st (x : Int) (w : World) :
    Calls Tryd.prog 21 #[.int .i64 x] w fun e w' => e = .returned (.int .i64 (checkEnergyE x)) ∧ w' = w :=
  (refCheckEnergy_any x w).mono fun _ _ ⟨h, e⟩ => ⟨h, e.symm⟩

theorem penPre_many (hs : List (Int × Int)) (h : 1024 < hs.length) : penPre hs = 5 := by
  unfold penPre atMostE
  rw [if_pos (by omega)]
  rfl
theorem penPre_few (hs : List (Int × Int)) (h : ¬ 1024 < hs.length) : penPre hs = firstInH hs := by
  unfold penPre atMostE
  rw [if_neg (by omega), firstE_ne, if_pos rfl]

theorem drewN_more {w wr : World} (h : ∃ q, wr = w.drewN q) (m : Nat) : ∃ q, wr.drewN m = w.drewN q := by
  obtain ⟨q, rfl⟩ := h
  exact ⟨q + m, World.drewN_drewN _ _ _⟩

theorem penL_take2 (hs : List (Int × Int)) (k : Nat) : penL (hs.take k) = (penL hs).take k := by unfold penL; rw [List.map_take]
theorem penL_get (hs : List (Int × Int)) (k : Nat) (h : k < hs.length) : (penL hs).getD k 0 = penF (hs.getD k (0, 0)).1 * (hs.getD k (0, 0)).2 := by
  unfold penL; rw [getD_mapH (fun h => penF h.1 * h.2) hs k h]

end Go.Proofs.YtnbionhahifacaaDoor
