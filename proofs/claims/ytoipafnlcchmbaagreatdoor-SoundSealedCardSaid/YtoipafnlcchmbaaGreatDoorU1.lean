/- The consequences of packets, as lists: frames and back, frames with a byte changed, other keys, streams, lost counters. -/
import Derived.Test.YtoipafnlcchmbaaGreatDoorR12
import Derived.Test.YtoipafnlcchmbaaGreatDoorR8
import Derived.Test.YtoipafnlcchmbaaGreatDoorT2
namespace Go.Proofs.YtoipafnlcchmbaaGreatDoor
open Go.RowKit

/-- The packets of the consequence: all of one station, every other counter. -/
def conP (st c0 : Int) (i : Nat) (p : Pk) : Pk := ⟨st, p.kd, (c0 + 2 * i) % 65536, p.ln, p.ps⟩
theorem packetE_free (st st' kd ct ct' ln : Int) (ps : List Int) (h : packetE st kd ct ln ps = 0) (hs : 0 ≤ st' ∧ st' ≤ 255) (hc : 0 ≤ ct' ∧ ct' ≤ 65535) : packetE st' kd ct' ln ps = 0 := by
  have hb := packetE_bd ⟨st, kd, ct, ln, ps⟩ h
  obtain ⟨h1, h2, h3, h4⟩ := hb
  dsimp only at h1 h2 h3 h4
  have w : ∀ n b : Int, 0 ≤ n ∧ n ≤ b → withinE n 0 b = 0 := fun n b h => by unfold withinE; rw [if_neg (by omega)]
  have e : ∀ a b : Int, (0 ≤ a ∧ a ≤ 255) → (0 ≤ b ∧ b ≤ 65535) → firstE [withinE a 0 255, withinE kd 0 255, withinE b 0 65535, withinE ln 0 18] = 0 := fun a b ha hb => by
    rw [w a 255 ha, w kd 255 h2, w b 65535 hb, w ln 18 h4]; rfl
  unfold packetE at h ⊢
  simp only [e st ct h1 h3, e st' ct' hs hc, if_true] at h ⊢
  exact h
theorem conP_err (st c0 : Int) (i : Nat) (p : Pk) (h : p.err = 0) (hs : 0 ≤ st ∧ st ≤ 255) : (conP st c0 i p).err = 0 :=
  packetE_free _ _ _ _ ((c0 + 2 * i) % 65536) _ _ h hs (by omega)
theorem byte_parts (c : Int) : c % 256 + c / 256 * 256 = c := by omega
theorem bodyL_len (p : Pk) (hps : p.ps.length = 18) : (bodyL p).length = 24 := by simp [bodyL, hps]
theorem frameL_len (ks : List Int) (p : Pk) (hps : p.ps.length = 18) : (frameL ks p).length = 32 := by simp [frameL, bodyL_len p hps, sealL_len]
theorem frame_take (ks : List Int) (p : Pk) (hps : p.ps.length = 18) : (frameL ks p).take 24 = bodyL p := by
  unfold frameL; rw [List.take_append_of_le_length (by rw [bodyL_len p hps]; exact Nat.le_refl _), List.take_of_length_le (by rw [bodyL_len p hps]; exact Nat.le_refl _)]
theorem frame_drop (ks : List Int) (p : Pk) (hps : p.ps.length = 18) : (frameL ks p).drop 24 = sealL ks (bodyL p) := by
  unfold frameL; rw [List.drop_append_of_le_length (by rw [bodyL_len p hps]; exact Nat.le_refl _), List.drop_of_length_le (by rw [bodyL_len p hps]; exact Nat.le_refl _)]; rfl
theorem read_frame (ks : List Int) (p : Pk) (hps : p.ps.length = 18) : readP (frameL ks p) = p := by
  obtain ⟨st, kd, ct, ln, ps⟩ := p
  have e := byte_parts ct
  have e2 : ∀ s : List Int, (ps ++ s).take 18 = ps := fun s => by
    rw [List.take_append_of_le_length (by dsimp only at hps; omega), List.take_of_length_le (by dsimp only at hps; omega)]
  simp [readP, frameL, bodyL, e]
  exact e2 _
theorem decode_frame (ks : List Int) (p : Pk) (hps : p.ps.length = 18) (h : p.err = 0) : decodeE ks (frameL ks p) = 0 := by
  unfold decodeE
  rw [if_pos (show (frameL ks p).getD 0 0 = 93 from rfl), frame_drop ks p hps, frame_take ks p hps, if_pos rfl, read_frame ks p hps]
  exact h
theorem seal_key {j : Nat} (hj : j < 8) {x y : Int} (hx : 0 ≤ x ∧ x ≤ 255) (hy : 0 ≤ y ∧ y ≤ 255) (a b : Int) (h : sealStep (4 * j + 3) a x b = sealStep (4 * j + 3) a y b) : x = y := by
  unfold sealStep at h
  match j, hj with
  | 0, _ => omega
  | 1, _ => omega
  | 2, _ => omega
  | 3, _ => omega
  | 4, _ => omega
  | 5, _ => omega
  | 6, _ => omega
  | 7, _ => omega
theorem sealStep_bd (f a x b : Int) : 0 ≤ sealStep f a x b ∧ sealStep f a x b ≤ 255 := by unfold sealStep; omega
theorem sealTo_inj {j : Nat} (hj : j < 8) (a : Int) (bs : List Int) : ∀ {x y : Int}, (0 ≤ x ∧ x ≤ 255) → (0 ≤ y ∧ y ≤ 255) → sealTo (4 * j + 3) a x bs = sealTo (4 * j + 3) a y bs → x = y := by
  induction bs with
  | nil => intro x y _ _ h; exact h
  | cons b l ih => intro x y hx hy h; exact seal_key hj hx hy a b (ih (sealStep_bd _ _ _ _) (sealStep_bd _ _ _ _) h)
theorem sealTo_byte {j : Nat} (hj : j < 8) (a : Int) (bs : List Int) : ∀ (i : Nat) (v x : Int), i < bs.length → (0 ≤ v ∧ v ≤ 255) → (0 ≤ bs.getD i 0 ∧ bs.getD i 0 ≤ 255) → sealTo (4 * j + 3) a x (bs.set i v) = sealTo (4 * j + 3) a x bs → v = bs.getD i 0 := by
  induction bs with
  | nil => intro i v x hi; simp at hi
  | cons b l ih =>
    intro i v x hi hv hb h
    cases i with
    | zero =>
      have e : sealStep (4 * j + 3) a x v = sealStep (4 * j + 3) a x b := sealTo_inj hj a l (sealStep_bd _ _ _ _) (sealStep_bd _ _ _ _) h
      unfold sealStep at e
      simp only [List.getD_cons_zero] at hb ⊢
      omega
    | succ i => exact ih i v _ (by simpa using hi) hv (by simpa using hb) h
theorem sealL_at (ks bs : List Int) (j : Nat) (hj : j < 8) : (sealL ks bs).getD j 0 = sealAt j (ks.getD j 0) bs := by
  simp [sealL, List.getD_eq_getElem?_getD, hj]
/-- With a byte changed, all bytes of the seal are others. -/
theorem seal_differs (ks bs : List Int) (i j : Nat) (v : Int) (hj : j < 8) (hi : i < bs.length) (hv : 0 ≤ v ∧ v ≤ 255) (hb : 0 ≤ bs.getD i 0 ∧ bs.getD i 0 ≤ 255) (hne : v ≠ bs.getD i 0) : sealAt j (ks.getD j 0) (bs.set i v) ≠ sealAt j (ks.getD j 0) bs :=
  fun h => hne (sealTo_byte hj _ bs i v _ hi hv hb h)
theorem getD_set_self {α : Type} (l : List α) (i : Nat) (v d : α) (h : i < l.length) : (l.set i v).getD i d = v := by simp [List.getD_eq_getElem?_getD, h]
theorem getD_set_other {α : Type} (l : List α) (i k : Nat) (v d : α) (h : i ≠ k) : (l.set i v).getD k d = l.getD k d := by simp [List.getD_eq_getElem?_getD, List.getElem?_set_ne h]
theorem key_other (ks bs : List Int) (j : Nat) (v : Int) (hk : ks.length = 8) (hj : j < 8) (hv : 0 ≤ v ∧ v ≤ 255) (hb : AllB ks) (hne : v ≠ ks.getD j 0) : sealL (ks.set j v) bs ≠ sealL ks bs := fun h => by
  have h1 : (sealL (ks.set j v) bs).getD j 0 = (sealL ks bs).getD j 0 := by rw [h]
  rw [sealL_at _ _ j hj, sealL_at _ _ j hj, getD_set_self ks j v 0 (by omega)] at h1
  exact hne (sealTo_inj hj _ bs hv (hb j (by omega)) h1)
/-- A frame with a byte changed. -/
theorem decode_broken (ks : List Int) (p : Pk) (i : Nat) (v : Int) (hps : p.ps.length = 18) (hpb : AllB p.ps) (h : p.err = 0) (hi : i < 32) (hv : 0 ≤ v ∧ v ≤ 255) (hne : v ≠ (frameL ks p).getD i 0) :
    decodeE ks ((frameL ks p).set i v) = if i = 0 then 1 else 27 := by
  have hl := frameL_len ks p hps
  by_cases h0 : i = 0
  · subst h0
    unfold decodeE
    rw [getD_set_self _ _ _ _ (by omega), if_neg (by simpa [frameL, bodyL] using hne)]; rfl
  · rw [if_neg h0]
    unfold decodeE
    rw [getD_set_other _ _ _ _ _ h0, if_pos (show (frameL ks p).getD 0 0 = 93 from rfl), if_neg]
    by_cases h2 : i < 24
    · rw [List.drop_set_of_lt h2, List.take_set, frame_drop ks p hps, frame_take ks p hps]
      intro h3
      have h4 := congrArg (fun l : List Int => l.getD 0 0) h3
      rw [sealL_at _ _ 0 (by omega), sealL_at _ _ 0 (by omega)] at h4
      have e : (frameL ks p).getD i 0 = (bodyL p).getD i 0 := by
        unfold frameL; rw [List.getD_eq_getElem?_getD, List.getElem?_append_left (by rw [bodyL_len p hps]; exact h2), List.getD_eq_getElem?_getD]
      exact seal_differs ks (bodyL p) i 0 v (by omega) (by rw [bodyL_len p hps]; exact h2) hv (bodyL_bd p hps hpb h i h2) (by rw [← e]; exact hne) h4.symm
    · rw [List.take_set_of_le (by omega), frame_take ks p hps, List.drop_set, if_neg (by omega), frame_drop ks p hps]
      intro h3
      have h4 := congrArg (fun l : List Int => l.getD (i - 24) 0) h3
      rw [getD_set_self _ _ _ _ (by rw [sealL_len]; omega)] at h4
      apply hne
      rw [h4]
      unfold frameL; rw [List.getD_eq_getElem?_getD, List.getD_eq_getElem?_getD, List.getElem?_append_right (by rw [bodyL_len p hps]; omega), bodyL_len p hps]
/-- A frame by another key. -/
theorem decode_other (ks : List Int) (p : Pk) (j : Nat) (v : Int) (hk : ks.length = 8) (hb : AllB ks) (hps : p.ps.length = 18) (hj : j < 8) (hv : 0 ≤ v ∧ v ≤ 255) (hne : v ≠ ks.getD j 0) : decodeE (ks.set j v) (frameL ks p) = 27 := by
  unfold decodeE
  rw [if_pos (show (frameL ks p).getD 0 0 = 93 from rfl), frame_drop ks p hps, frame_take ks p hps, if_neg (fun h => key_other ks _ j v hk hj hv hb hne h.symm)]
/-- The stream: other bytes, then frames. -/
def streamL (ks os : List Int) (l : List Pk) : List Int := os ++ l.flatMap (frameL ks)
theorem frames_len (ks : List Int) (l : List Pk) (h : ∀ p ∈ l, p.ps.length = 18) : (l.flatMap (frameL ks)).length = 32 * l.length := by
  induction l with
  | nil => rfl
  | cons p l ih => rw [List.flatMap_cons, List.length_append, frameL_len ks p (h p (by simp)), ih (fun q hq => h q (by simp [hq])), List.length_cons]; omega
theorem streamL_len (ks os : List Int) (l : List Pk) (h : ∀ p ∈ l, p.ps.length = 18) : (streamL ks os l).length = os.length + 32 * l.length := by
  rw [streamL, List.length_append, frames_len ks l h]
theorem frames_at (ks : List Int) (l : List Pk) (h : ∀ p ∈ l, p.ps.length = 18) : ∀ i, i < l.length → ((l.flatMap (frameL ks)).drop (32 * i)).take 32 = frameL ks (l.getD i Pk.none) := by
  induction l with
  | nil => intro i hi; simp at hi
  | cons p l ih =>
    intro i hi
    have hp := frameL_len ks p (h p (by simp))
    rw [List.flatMap_cons]
    cases i with
    | zero => rw [Nat.mul_zero, List.drop_zero, List.take_append_of_le_length (by omega), List.take_of_length_le (by omega)]; rfl
    | succ i =>
      rw [show 32 * (i + 1) = (frameL ks p).length + 32 * i by omega, ← List.drop_drop, List.drop_left]
      rw [ih (fun q hq => h q (by simp [hq])) i (by simpa using hi)]
      rfl
theorem at32_of (s : List Int) (i : Nat) (h : i + 32 ≤ s.length) : at32 s i = (s.drop i).take 32 := by
  apply List.ext_getElem
  · rw [at32_len, List.length_take, List.length_drop]; omega
  · intro j h1 h2
    have hj : j < 32 := by rw [at32_len] at h1; exact h1
    simp [at32, List.getD_eq_getElem?_getD, List.getElem?_eq_getElem (show i + j < s.length by omega)]
theorem stream_frame (ks os : List Int) (l : List Pk) (h : ∀ p ∈ l, p.ps.length = 18) (i : Nat) (hi : i < l.length) : at32 (streamL ks os l) (os.length + 32 * i) = frameL ks (l.getD i Pk.none) := by
  rw [at32_of _ _ (by rw [streamL_len ks os l h]; omega), streamL, ← List.drop_drop, List.drop_left]
  exact frames_at ks l h i hi
theorem getD_append_left {α : Type} (a b : List α) (i : Nat) (d : α) (h : i < a.length) : (a ++ b).getD i d = a.getD i d := by
  rw [List.getD_eq_getElem?_getD, List.getElem?_append_left h, List.getD_eq_getElem?_getD]
theorem getD_memU {α : Type} (l : List α) (i : Nat) (d : α) (h : i < l.length) : l.getD i d ∈ l := by
  rw [List.getD_eq_getElem?_getD, List.getElem?_eq_getElem h]; exact List.getElem_mem h
/-- What is received of it: the places of the frames. -/
def placesL (o n : Nat) : List Nat := (List.range n).map fun i => o + 32 * i
theorem placesL_succ (o n : Nat) : placesL o (n + 1) = placesL o n ++ [o + 32 * n] := by simp [placesL, List.range_succ]
theorem stream_upto (ks os : List Int) (l : List Pk) (h : ∀ p ∈ l, p.ps.length = 18 ∧ p.err = 0) (hl : 0 < l.length) (ho : ∀ i, i < os.length → os.getD i 0 ≠ 93) : Upto ks (streamL ks os l) (placesL os.length l.length) (os.length + 32 * l.length) := by
  have h18 : ∀ p ∈ l, p.ps.length = 18 := fun p hp => (h p hp).1
  have hlen := streamL_len ks os l h18
  have h1 : ∀ i, i ≤ os.length → Upto ks (streamL ks os l) [] i := by
    intro i
    induction i with
    | zero => intro _; exact .nil
    | succ i ih =>
      intro hi
      refine .err (ih (by omega)) (by rw [hlen]; omega) ?_
      have e : (at32 (streamL ks os l) i).getD 0 0 ≠ 93 := by
        rw [at32_at _ _ _ (by omega), Nat.add_zero, streamL, getD_append_left _ _ _ _ (by omega)]
        exact ho i (by omega)
      unfold decodeE
      rw [if_neg e]
      decide
  have h2 : ∀ n, n ≤ l.length → Upto ks (streamL ks os l) (placesL os.length n) (os.length + 32 * n) := by
    intro n
    induction n with
    | zero => intro _; exact h1 _ (Nat.le_refl _)
    | succ n ih =>
      intro hn
      rw [placesL_succ, show os.length + 32 * (n + 1) = os.length + 32 * n + 32 by omega]
      refine .hit (ih (by omega)) (by rw [hlen]; omega) ?_
      rw [stream_frame ks os l h18 n (by omega)]
      exact decode_frame ks _ (h _ (getD_memU l n _ (by omega))).1 (h _ (getD_memU l n _ (by omega))).2
  exact h2 _ (Nat.le_refl _)
theorem stream_recv (ks os : List Int) (l : List Pk) (h : ∀ p ∈ l, p.ps.length = 18 ∧ p.err = 0) : recvL (streamL ks os l) (placesL os.length l.length) = l := by
  unfold recvL placesL
  rw [List.map_map]
  apply List.ext_getElem
  · simp
  · intro i h1 h2
    have e := stream_frame ks os l (fun p hp => (h p hp).1) i h2
    have hm := h _ (getD_memU l i Pk.none h2)
    simp only [List.getElem_map, List.getElem_range, Function.comp]
    rw [e, read_frame ks _ hm.1, List.getD_eq_getElem?_getD, List.getElem?_eq_getElem h2]
    rfl
theorem skSt_places (o n : Nat) (hn : 0 < n) : skSt (placesL o n) = (o + 32 * n, if 0 < o then [(0, (o : Int))] else []) := by
  induction n with
  | zero => omega
  | succ n ih =>
    rw [placesL_succ, skSt_snoc]
    by_cases h : n = 0
    · subst h
      simp [placesL, skSt]
    · rw [ih (by omega)]
      simp only
      rw [if_neg (by omega)]
      congr 1
theorem skipL_places (o n : Nat) (hn : 0 < n) : skipL (placesL o n) (o + 32 * n) = if 0 < o then [(0, (o : Int))] else [] := by
  unfold skipL
  rw [skSt_places o n hn]
  simp only
  rw [if_neg (by omega)]
/-- The packets of the consequence. -/
def conL (st c0 : Int) (l : List Pk) : List Pk := (List.range l.length).map fun i => conP st c0 i (l.getD i Pk.none)
theorem conL_len (st c0 : Int) (l : List Pk) : (conL st c0 l).length = l.length := by simp [conL]
theorem conL_at (st c0 : Int) (l : List Pk) (i : Nat) (hi : i < l.length) : (conL st c0 l).getD i Pk.none = conP st c0 i (l.getD i Pk.none) := by
  simp [conL, List.getD_eq_getElem?_getD, hi]
def gapsL (c0 : Int) (n : Nat) : List Int := (List.range n).map fun i : Nat => (c0 + 2 * (i : Int) + 1) % 65536
theorem gapsL_succ (c0 : Int) (n : Nat) : gapsL c0 (n + 1) = gapsL c0 n ++ [(c0 + 2 * (n : Int) + 1) % 65536] := by simp [gapsL, List.range_succ]
theorem gapsL_len (c0 : Int) (n : Nat) : (gapsL c0 n).length = n := by simp [gapsL]
theorem gapsL_at (c0 : Int) (n i : Nat) (h : i < n) : (gapsL c0 n).getD i 0 = (c0 + 2 * (i : Int) + 1) % 65536 := by simp [gapsL, List.getD_eq_getElem?_getD, h]
theorem gap_one (c : Int) : gapN (c % 65536) ((c + 2) % 65536) = 1 := by
  unfold gapN
  rw [show ((c + 2) % 65536 - c % 65536 - 1) % 65536 = 1 by omega]; rfl
theorem lost_con (st c0 : Int) (l : List Pk) : ∀ n, n < l.length → lostTo st (conL st c0 l) (n + 1) = (some ((c0 + 2 * (n : Int)) % 65536), gapsL c0 n) := by
  intro n
  induction n with
  | zero =>
    intro hn
    show lostStep st (none, []) _ = _
    rw [conL_at st c0 l 0 hn]
    unfold lostStep
    rw [if_pos (show (conP st c0 0 (l.getD 0 Pk.none)).st = st from rfl)]
    rfl
  | succ n ih =>
    intro hn
    show lostStep st (lostTo st (conL st c0 l) (n + 1)) _ = _
    rw [ih (by omega), conL_at st c0 l (n + 1) hn]
    unfold lostStep
    rw [if_pos (show (conP st c0 (n + 1) (l.getD (n + 1) Pk.none)).st = st from rfl)]
    have e : (conP st c0 (n + 1) (l.getD (n + 1) Pk.none)).ct = (c0 + 2 * (n : Int) + 2) % 65536 := by
      show (c0 + 2 * ((n + 1 : Nat) : Int)) % 65536 = _
      congr 1
      push_cast
      omega
    rw [e, show c0 + 2 * ((n + 1 : Nat) : Int) = c0 + 2 * (n : Int) + 2 by push_cast; omega]
    simp only
    rw [gap_one (c0 + 2 * (n : Int)), gapsL_succ]
    congr 2
    show [((c0 + 2 * (n : Int)) % 65536 + 1 + ((0 : Nat) : Int)) % 65536] = _
    rw [show ((c0 + 2 * (n : Int)) % 65536 + 1 + ((0 : Nat) : Int)) % 65536 = (c0 + 2 * (n : Int) + 1) % 65536 by push_cast; omega]
theorem lostPre_con (st c0 : Int) (l : List Pk) (hs : 0 ≤ st ∧ st ≤ 255) (hn : l.length ≤ 6) (hv : ∀ i, i < l.length → (l.getD i Pk.none).err = 0) : lostPre (conL st c0 l) st = 0 := by
  have e : firstInP (conL st c0 l) = 0 := firstInP_miss _ (fun i hi => by rw [conL_len] at hi; rw [conL_at st c0 l i hi]; exact conP_err st c0 i _ (hv i hi) hs)
  unfold lostPre
  rw [e, conL_len]
  unfold atMostE withinE
  rw [if_neg (by omega), if_neg (by omega)]
  rfl
theorem lost_law (st c0 : Int) (l : List Pk) (hs : 0 ≤ st ∧ st ≤ 255) (h0 : 0 < l.length) (hn : l.length ≤ 6) (hv : ∀ i, i < l.length → (l.getD i Pk.none).err = 0) : lostE (conL st c0 l) st = 0 ∧ lostL (conL st c0 l) st = gapsL c0 (l.length - 1) := by
  have hp := lostPre_con st c0 l hs hn hv
  have hc := lost_con st c0 l (l.length - 1) (by omega)
  rw [show l.length - 1 + 1 = (conL st c0 l).length by rw [conL_len]; omega] at hc
  have h2 : (lostTo st (conL st c0 l) (conL st c0 l).length).2.length ≤ 256 := by rw [hc]; simp only [gapsL_len]; omega
  unfold lostE lostL
  rw [if_pos hp, if_pos hp, if_pos h2, if_pos h2, hc]
  exact ⟨rfl, rfl⟩
end Go.Proofs.YtoipafnlcchmbaaGreatDoor
