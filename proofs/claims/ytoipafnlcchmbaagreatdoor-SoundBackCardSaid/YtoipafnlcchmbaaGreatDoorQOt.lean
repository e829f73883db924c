/- Printed, cut and parsed: what SoundBack needs of energies. -/
import Derived.Test.YtoipafnlcchmbaaGreatDoorQOu
namespace Go.Proofs.YtoipafnlcchmbaaGreatDoor
open Go.RowKit Go.Sort

def natsOf (zs : List Int) : List Nat := zs.map Int.toNat
theorem natsOf_back (zs : List Int) (h : ∀ z ∈ zs, 0 ≤ z) : (natsOf zs).map (fun n : Nat => (n : Int)) = zs := by
  unfold natsOf
  rw [List.map_map]
  conv => rhs; rw [← List.map_id zs]
  exact List.map_congr_left fun z hz => by have := h z hz; simp; omega
theorem lineB_nat (wd : ByteArray) (z : Int) (h : 0 ≤ z) : (lineB wd z).data.toList = lineL wd.data.toList z.toNat := by
  have e : Lib.itoa z = Lib.decDigits z.toNat := by
    have := Lib.itoa_nonneg z.toNat
    rwa [show ((z.toNat : Nat) : Int) = z by omega] at this
  unfold lineB lineL
  simp [e]
theorem fullB_list (zs : List Int) (h : ∀ z ∈ zs, 0 ≤ z) : (fullB zs).data.toList = printL energiesL energyL (natsOf zs) := by
  unfold fullB printL
  rw [joinB_list, List.map_cons, List.flatten_cons, lineB_nat _ _ (by omega)]
  have e1 : countB.data.toList = energiesL := rfl
  have e2 : (linesL zs).map (·.data.toList) = (natsOf zs).map (lineL energyL) := by
    unfold linesL mapS natsOf
    rw [List.map_map, List.map_map]
    exact List.map_congr_left fun z hz => lineB_nat energyB z (h z hz)
  rw [e1, e2]
  simp [natsOf]
theorem validE_nonneg {zs : List Int} (h : ValidE zs) : ∀ z ∈ zs, 0 ≤ z ∧ z ≤ 10000000000000 := by
  intro z hz
  obtain ⟨i, hi, rfl⟩ := List.getElem_of_mem hz
  have := h.2 i hi
  rw [List.getD_eq_getElem?_getD, List.getElem?_eq_getElem hi] at this
  exact this
theorem lineL_len (w : List UInt8) (n : Nat) (h : n ≤ 10000000000000) : (lineL w n).length ≤ w.length + 17 := by
  have := dec_len15 n h
  unfold lineL
  simp
  omega
theorem printL_len (zs : List Int) (hv : ValidE zs) (hn : zs.length ≤ 20) : (printL energiesL energyL (natsOf zs)).length ≤ 600 := by
  unfold printL
  rw [List.length_append]
  have h1 := lineL_len energiesL (natsOf zs).length (by simp [natsOf]; omega)
  have h2 := flat_le 24 ((natsOf zs).map (lineL energyL)) (fun x hx => by
    obtain ⟨n, hn, rfl⟩ := List.mem_map.1 hx
    obtain ⟨z, hz, rfl⟩ := List.mem_map.1 hn
    have := lineL_len energyL z.toNat (by have := validE_nonneg hv z hz; omega)
    have e : energyL.length = 6 := rfl
    omega)
  have e : energiesL.length = 8 := rfl
  have e2 : ((natsOf zs).map (lineL energyL)).length = zs.length := by simp [natsOf]
  rw [e2] at h2
  have h3 : zs.length * 24 ≤ 20 * 24 := Nat.mul_le_mul_right _ hn
  omega
theorem fullB_len (zs : List Int) (hv : ValidE zs) (hn : zs.length ≤ 20) : (fullB zs).size ≤ 600 := by
  have e : (fullB zs).size = (fullB zs).data.toList.length := rfl
  rw [e, fullB_list zs (fun z hz => (validE_nonneg hv z hz).1)]
  exact printL_len zs hv hn
theorem natsOf_le {zs : List Int} (hv : ValidE zs) : ∀ n ∈ natsOf zs, n ≤ 10000000000000 := by
  intro n hn
  obtain ⟨z, hz, rfl⟩ := List.mem_map.1 hn
  have := validE_nonneg hv z hz
  omega
theorem free1 : (10 : UInt8) ∉ energiesL := by decide
theorem free2 : (10 : UInt8) ∉ energyL := by decide
theorem free3 : (32 : UInt8) ∉ energiesL := by decide
theorem free4 : (32 : UInt8) ∉ energyL := by decide
theorem back_parse (zs : List Int) (hv : ValidE zs) (hk : checkEnergiesE zs = 0) (hn : zs.length ≤ 20) : parseR (fullB zs) = (zs, 0, 0) := by
  have h0 : ∀ z ∈ zs, 0 ≤ z := fun z hz => (validE_nonneg hv z hz).1
  have hb := natsOf_back zs h0
  unfold parseR
  rw [fullB_list zs h0]
  have := parse_print energiesL energyL checkEnergiesE free1 free2 free3 free4 (natsOf zs) (by simp [natsOf]; omega) (natsOf_le hv) (Nat.le_trans (printL_len zs hv hn) (by omega)) (by rw [hb]; exact hk)
  rw [this, hb]
theorem back_cut (zs : List Int) (hv : ValidE zs) (hn : zs.length ≤ 20) (t : ByteArray) (ht : t.data.toList = (fullB zs).data.toList.dropLast) : parseR t = ([], zs.length, 25) := by
  have h0 : ∀ z ∈ zs, 0 ≤ z := fun z hz => (validE_nonneg hv z hz).1
  unfold parseR
  rw [ht, fullB_list zs h0]
  have := parse_cut energiesL energyL checkEnergiesE free1 free2 free3 free4 (natsOf zs) (by simp [natsOf]; omega) (natsOf_le hv) (Nat.le_trans (printL_len zs hv hn) (by omega))
  rw [this]
  simp [natsOf]
def bodyN (w : List UInt8) (n : Nat) : List UInt8 := w ++ [32] ++ Lib.decDigits n
theorem lineL_bodyN (w : List UInt8) (n : Nat) : lineL w n = bodyN w n ++ [10] := rfl
theorem back_done (zs : List Int) (h0 : ∀ z ∈ zs, 0 ≤ z) : doneL (fullB zs) = bodyN energiesL zs.length :: (natsOf zs).map (bodyN energyL) ∧ curL (fullB zs) = [] := by
  have e : (fullB zs).data.toList = ((bodyN energiesL zs.length :: (natsOf zs).map (bodyN energyL)).map (· ++ [10])).flatten ++ [] := by
    rw [fullB_list zs h0]
    unfold printL
    simp only [List.map_cons, List.flatten_cons, List.map_map, List.append_nil]
    rw [← lineL_bodyN]
    have : (natsOf zs).length = zs.length := by simp [natsOf]
    rw [this]
    rfl
  have hc := cutSt_of 10 (bodyN energiesL zs.length :: (natsOf zs).map (bodyN energyL)) [] (fun p hp => by
    rcases List.mem_cons.1 hp with rfl | hp
    · exact lineL_free energiesL _ free1
    · obtain ⟨n, _, rfl⟩ := List.mem_map.1 hp
      exact lineL_free energyL _ free2) (by simp)
  unfold doneL curL
  rw [e, hc]
  exact ⟨rfl, rfl⟩
theorem back_lines (zs : List Int) (h0 : ∀ z ∈ zs, 0 ≤ z) : (linesV (fullB zs)).length = zs.length + 2 := by
  rw [linesV_len, (back_done zs h0).1]
  simp [natsOf]
/-- The bytes but the last line. -/
theorem back_less (zs : List Int) (hv : ValidE zs) (hn : zs.length ≤ 20) (hp : 0 < zs.length) : ∃ x : ByteArray, (linesV (fullB zs))[zs.length]? = some x ∧ x.size + 1 ≤ (fullB zs).size ∧
    ∀ t : ByteArray, t.data.toList = (fullB zs).data.toList.take ((fullB zs).size - 1 - x.size) → parseR t = ([], zs.length, 2) := by
  have h0 : ∀ z ∈ zs, 0 ≤ z := fun z hz => (validE_nonneg hv z hz).1
  obtain ⟨hd, hc⟩ := back_done zs h0
  obtain ⟨ms, m, rfl⟩ : ∃ ms m, zs = ms ++ [m] := by
    rcases List.eq_nil_or_concat zs with e | ⟨ms, m, e⟩
    · rw [e] at hp; simp at hp
    · exact ⟨ms, m, by simpa using e⟩
  have hl : (ms ++ [m]).length = ms.length + 1 := by simp
  have hrow : (linesV (fullB (ms ++ [m])))[(ms ++ [m]).length]? = some ⟨(bodyN energyL m.toNat).toArray⟩ := by
    have hlt : (ms ++ [m]).length < (doneL (fullB (ms ++ [m]))).length := by rw [hd]; simp [natsOf]
    rw [linesV_row _ _ hlt]
    unfold rowB
    rw [hd, hl, List.getD_cons_succ]
    simp [natsOf, List.getD_eq_getElem?_getD]
  have hfl : (fullB (ms ++ [m])).data.toList = (lineL energiesL (ms.length + 1) ++ ((natsOf ms).map (lineL energyL)).flatten) ++ (bodyN energyL m.toNat ++ [10]) := by
    rw [fullB_list _ h0]
    unfold printL
    simp [natsOf, lineL_bodyN]
  have hsz : (fullB (ms ++ [m])).size = (fullB (ms ++ [m])).data.toList.length := rfl
  have hxs : (⟨(bodyN energyL m.toNat).toArray⟩ : ByteArray).size = (bodyN energyL m.toNat).length := by
    show (bodyN energyL m.toNat).toArray.size = _
    simp
  refine ⟨_, hrow, ?_, fun t ht => ?_⟩
  · rw [hsz, hfl, hxs]; simp; omega
  · have hpl := printL_len (ms ++ [m]) hv hn
    rw [← fullB_list _ h0, hfl] at hpl
    have ht2 : t.data.toList = lineL energiesL (ms.length + 1) ++ ((natsOf ms).map (lineL energyL)).flatten := by
      rw [ht, hsz, hxs, hfl]
      have : ((lineL energiesL (ms.length + 1) ++ ((natsOf ms).map (lineL energyL)).flatten) ++ (bodyN energyL m.toNat ++ [10])).length - 1 - (bodyN energyL m.toNat).length = (lineL energiesL (ms.length + 1) ++ ((natsOf ms).map (lineL energyL)).flatten).length := by
        generalize lineL energiesL (ms.length + 1) ++ ((natsOf ms).map (lineL energyL)).flatten = P
        generalize bodyN energyL m.toNat = Q
        simp only [List.length_append, List.length_singleton]
        omega
      rw [this]
      exact List.take_left' rfl
    unfold parseR
    rw [ht2]
    have hnl : (natsOf ms).length = ms.length := by simp [natsOf]
    have := parse_less energiesL energyL checkEnergiesE free1 free2 free3 free4 (natsOf ms) (by rw [hnl]; omega) (fun n hn => natsOf_le hv n (by
      unfold natsOf at hn ⊢
      rw [List.map_append]
      exact List.mem_append_left _ hn)) (by rw [hnl]; rw [List.length_append] at hpl; omega)
    rw [hnl] at this
    rw [this, hl]
theorem back_print (s : ByteArray) (h : (parseR s).2.2 = 0) (hs : s.size ≤ 300) : checkEnergiesE (parseR s).1 = 0 ∧ fullB (parseR s).1 = s ∧ joinedV s = s ∧ joinedE s = 0 := by
  obtain ⟨h1, h2, h3, _⟩ := print_parse energiesL energyL checkEnergiesE s.data.toList h
  refine ⟨h1, ?_, if_neg (by omega), if_neg (by omega)⟩
  apply ba_eq
  exact (fullB_list _ h2).trans h3
end Go.Proofs.YtoipafnlcchmbaaGreatDoor
