/- Texts Ig It of the proof. -/
import Derived.Test.YtmafmebcgmegeaaGreatDoorFz9
import Derived.Test.YtmafmebcgmegeaaGreatDoorFz2
namespace Go.Proofs.YtmafmebcgmegeaaGreatDoor
open Go.RowKit Go.Sort
theorem srcName_ok (s : ByteArray) (w : World) (hs : s.size ≤ 140737488351232) (hn : nameB s = true) :
    Calls Tryz.prog 108 #[.string s] w fun e w' => e = .returned (.int .i64 0) ∧ Below w.heap.size w w' := by
  have HN := Lib.hid hn; clear hn
  go_enter Tryz.func108, Tryz.ntmps108
  go_wp2_with fail
  refine (isName_any s w hs).mono ?_; rw [HN.out]; rintro e w1 ⟨rfl, hb⟩; have HB := Lib.hid hb; clear hb; go_wp2; go_ret; exact ⟨rfl, HB.out⟩
theorem countInt_ok (A : Option Addr) (n c : Nat) (limit : Int) (w : World) (h0 : 0 < n) (h1 : (n : Int) ≤ limit) :
    Calls Tryz.prog 172 #[.slice A n c, .int .i64 limit] w fun e w' => e = .returned (.int .i64 0) ∧ w' = w := by
  have h2 : ((n : Int) == 0) = false := by simp; omega
  have h3 : Hid (atMostE n limit = 0) := by show _ = _; unfold atMostE; rw [if_neg (by omega)]
  clear h0 h1
  go_enter Tryz.func172, Tryz.ntmps172
  go_wp2_with fail
  refine (atMost_int A n c limit w).mono ?_; rw [h3.out]; rintro e w' ⟨rfl, rfl⟩; go_wp2; go_ret; exact ⟨rfl, rfl⟩
theorem atMostSets_ok (A : Option Addr) (n c : Nat) (limit : Int) (w : World) (h : (n : Int) ≤ limit) :
    Calls Tryz.prog 173 #[.slice A n c, .int .i64 limit] w fun e w' => e = .returned (.int .i64 0) ∧ w' = w := by
  have h2 : ¬ limit < (n : Int) := by omega
  clear h
  go_enter Tryz.func173, Tryz.ntmps173
  go_wp2
  go_ret
  exact ⟨rfl, rfl⟩
theorem countSets_ok (A : Option Addr) (n c : Nat) (limit : Int) (w : World) (h0 : 0 < n) (h1 : (n : Int) ≤ limit) :
    Calls Tryz.prog 114 #[.slice A n c, .int .i64 limit] w fun e w' => e = .returned (.int .i64 0) ∧ w' = w := by
  have h2 : ((n : Int) == 0) = false := by simp; omega
  have H1 := Lib.hid h1; clear h0 h1
  go_enter Tryz.func114, Tryz.ntmps114
  go_wp2_with fail
  refine (atMostSets_ok A n c limit w H1.out).mono ?_; rintro e w' ⟨rfl, rfl⟩; go_wp2; go_ret; exact ⟨rfl, rfl⟩
theorem firstIn_ok (F : FuncId) (lo hi : Int) (A : Option Addr) (n c : Nat) (zs : List Int) (w : World) (hn : n ≤ 140737488351232)
    (hE : ∀ (args : Array Value) (W : World), (callFunc F args).run Tryz.prog W = .ok (.enter F args) W)
    (hF : ∀ (x : Int) (W : World), Calls Tryz.prog F #[.int .i64 x] W fun e w' => e = .returned (.int .i64 (withinE x lo hi)) ∧ w' = W)
    (hz : IntsAt w A n zs) (hv : ∀ x, x ∈ zs → lo ≤ x ∧ x ≤ hi) :
    Calls Tryz.prog 110 #[.slice A n c, .func (.func F) #[] #[]] w fun e w' => e = .returned (.int .i64 0) ∧ w' = w := by
  have h0 : firstInE (fun x => withinE x lo hi) zs = 0 := firstInE_miss _ _ (fun i hi' => by
    have := hv (zs.getD i 0) (Bell.getD_mem hi'); exact withinE_in this.1 this.2)
  refine (firstIn_int F (fun x => withinE x lo hi) A n c zs w hn hE (fun x W => (hF x W).mono (fun _ _ h => ⟨h.1, h.2.symm⟩)) hz).mono ?_; rw [h0]; exact fun _ _ h => ⟨h.1, h.2.symm⟩
theorem sumL_sum (l : List Int) : sumL l = l.sum := by
  induction l with
  | nil => rfl
  | cons a l ih => simp [sumL, ih]
structure GoodSh (l : List Int) : Prop where
  cnt : 0 < l.length ∧ l.length ≤ 8
  rng : ∀ x, x ∈ l → 0 ≤ x ∧ x ≤ 1000
  sum : sumL l = 1000
theorem goodSh_of {l : List Int} (h : Bell.shE l = 0) : GoodSh l := by
  unfold Bell.shE at h; rw [Bell.thenE_zero, Bell.firstE_zero] at h; obtain ⟨h1, h2⟩ := h; refine ⟨Bell.cntE_zero.1 (h1 (Bell.cntE l.length 8) (by simp)), fun x hx => Bell.inR_zero.1 (Bell.eachE_zero.1 (h1 (Bell.eachE (fun n => Bell.inR n 0 1000) l) (by simp)) x hx), ?_⟩; rw [sumL_sum]
  split at h2
  · assumption
  · omega
theorem GoodT.sh {sh : List Int} {T : Bell.Ty} (h : GoodT sh T) : GoodSh sh := by
  have h1 := h.ok; unfold Bell.tyE at h1; rw [Bell.thenE_zero, Bell.firstE_zero] at h1; exact goodSh_of (h1.1 (Bell.shE sh) (by simp))
theorem GoodT.sqr {sh : List Int} {T : Bell.Ty} (h : GoodT sh T) : ∀ x, x ∈ T.squares → 0 ≤ x ∧ x ≤ 100000000000 := by
  have h1 := h.ok; unfold Bell.tyE at h1; rw [Bell.thenE_zero, Bell.firstE_zero] at h1; have h2 := h1.1 (Bell.sqE T.squares) (by simp); unfold Bell.sqE at h2; rw [Bell.thenE_zero, Bell.firstE_zero] at h2; exact fun x hx => Bell.inR_zero.1 (Bell.eachE_zero.1 (h2.1 (Bell.eachE (fun n => Bell.inR n 0 100000000000) T.squares) (by simp)) x hx)
set_option maxHeartbeats 1000000 in
set_option maxRecDepth 100000 in
theorem checkShares_ok (A : Option Addr) (n c : Nat) (l : List Int) (w : World) (hl : IntsAt w A n l) (hg : GoodSh l) :
    Calls Tryz.prog 109 #[.slice A n c] w fun e w' => e = .returned (.int .i64 0) ∧ Below w.heap.size w w' := by
  have HL := Lib.hid hl; have hn := hl.1; have n1 : 0 < n := by have := hg.cnt; omega
  have n2 : n ≤ 8 := by have := hg.cnt; omega
  have HG := Lib.hid hg; have HN := Lib.hid hn; obtain ⟨b, off, rfl, hc⟩ := hl.2 n1; have HC := Lib.hid hc; clear hl hg hn hc
  go_enter Tryz.func109, Tryz.ntmps109
  go_wp2_with fail
  refine (countInt_ok (some ⟨b, off, none⟩) n c 8 w n1 (by omega)).mono ?_; rintro e w' ⟨rfl, rfl⟩
  go_wp2_with fail
  refine (firstIn_ok 112 0 1000 (some ⟨b, off, none⟩) n c l w' (by omega) enters_srcFactor srcFactor_st HL.out HG.out.rng).mono ?_; rintro e w2 ⟨rfl, rfl⟩
  go_wp2_with fail
  refine (first2 _ _ 0 0 _ (by go_simp) (by go_simp)).mono ?_; rw [show firstE [0, 0] = 0 from rfl]; rintro e w3 ⟨rfl, rfl⟩; obtain ⟨w4, hw4⟩ : ∃ W, W = w2.alloc (.cells #[.int .i64 0, .int .i64 0] 37) := ⟨_, rfl⟩; rw [← hw4]; have hb : Below w2.heap.size w2 w4 := by rw [hw4]; exact (Below.refl _ _).alloc (Nat.le_refl _) _
  have HC4 : Hid (∀ i, i < n → w4.cell? ⟨b, off + i, none⟩ = some (.int .i64 (l.getD i 0))) := fun i hi => by
    rw [hb.cell (p := ⟨b, off + i, none⟩) (World.block_lt_of_cell? _ _ (HC.out i hi))]; exact HC.out i hi
  have HB := Lib.hid hb; clear hw4 hb; go_wp2
  go_loop [4, 6, 18] (fun s _ k => ∃ j : Nat, j ≤ n ∧ k = .int .i64 j ∧ s = .int .i64 (1000 - sumL (l.take j))) (fun _ _ k => n - (intOf k).toNat)
  case atStart => exact ⟨0, Nat.zero_le _, rfl, rfl⟩
  case round =>
    obtain ⟨j, hj, rfl, rfl⟩ := hrel; have hv : ∀ i, i < l.length → 0 ≤ l.getD i 0 ∧ l.getD i 0 ≤ 100000000000000 := fun i hi => by have := HG.out.rng _ (Bell.getD_mem hi); omega
    by_cases hlt : j < n
    · have h0 := HC4.out j hlt; have b1 := sumL_bd l hv j (by rw [HN.out]; omega); have b2 := sumL_mono l (fun i hi => (hv i hi).1) j (by rw [HN.out]; omega); have b3 := sumL_mono l (fun i hi => (hv i hi).1) (j + 1) (by rw [HN.out]; omega); have HS := Lib.hid (sumL_succ l j (by rw [HN.out]; exact hlt)); have b4 := (hv j (by rw [HN.out]; exact hlt)).1; rw [HG.out.sum] at b2 b3; rw [HS.out] at b3; obtain ⟨x, hx⟩ : ∃ x, x = l.getD j 0 := ⟨_, rfl⟩; obtain ⟨s, hs⟩ : ∃ s, s = sumL (l.take j) := ⟨_, rfl⟩; rw [← hx] at h0 b3 b4 HS; rw [← hs] at b1 b2 b3 HS ⊢; obtain ⟨b1, _⟩ := b1; clear hx hs hv; go_wp2
      go_round
      case rel => exact ⟨j + 1, by omega, by go_num, by rw [HS.out]; go_num⟩
      case measure => simp [intOf]; omega
    · have hs : Hid (1000 - sumL (l.take j) = 0) := by
        show _ = _
        rw [show l.take j = l by rw [List.take_of_length_le (by rw [HN.out]; omega)], HG.out.sum]; rfl
      rw [hs.out]; clear hv; go_wp2; go_ret; exact ⟨rfl, HB.out⟩
set_option maxHeartbeats 1000000 in
set_option maxRecDepth 100000 in
theorem checkSquares_ok (b off n c : Nat) (l : List Int) (w : World) (hl : IntsAt w (some ⟨b, off, none⟩) n l) (hg : Bell.GoodSq l) (hr : ∀ x, x ∈ l → 0 ≤ x ∧ x ≤ 100000000000) (h8 : n ≤ 8) (hcap : n ≤ c) (hc2 : c ≤ 9223372036854775807) :
    Calls Tryz.prog 113 #[.slice (some ⟨b, off, none⟩) n c] w fun e w' => e = .returned (.int .i64 0) ∧ Below w.heap.size w w' := by
  have HL := Lib.hid hl; have hn := hl.1; have n1 : 0 < n := by have := hg.some; omega
  have HG := Lib.hid hg; have HN := Lib.hid hn; have HR := Lib.hid hr
  have hc : ∀ i, i < n → w.cell? ⟨b, off + i, none⟩ = some (.int .i64 (l.getD i 0)) := fun i hi => by
    obtain ⟨b', off', he, hc⟩ := hl.2 n1; have he := Option.some.inj he
    injection he with e1 e2
    subst e1; subst e2; exact hc i hi
  have HC := Lib.hid hc; clear hl hg hn hc hr; obtain ⟨m, rfl⟩ : ∃ m, n = m + 1 := ⟨n - 1, by omega⟩
  have hsl : ∀ W, (Instr.slice 22 (.slice (some ⟨b, off, none⟩) (m + 1) c) (some (.int .i64 1)) none none).run Tryz.prog W = .ok (.slice (some ⟨b, if c = 1 then off else off + 1, none⟩) m (c - 1)) W := fun W => by
    rw [run_slice_l W _ _ _ _ (by kernel_rfl) .i64 _ (by omega) (by omega), show Tryz.prog.elem 22 = 3 by kernel_rfl, show (Go.sizeOf 3).run Tryz.prog W = .ok 1 W by kernel_rfl]; simp only [Result.andThen, sliced, Int.toNat_one, Option.map_some, Addr.add, Nat.mul_one]
    by_cases h1 : c = 1
    · subst h1; simp
    · simp [h1]
  obtain ⟨of2, hof⟩ : ∃ o, o = (if c = 1 then off else off + 1) := ⟨_, rfl⟩; have HOF : Hid (0 < m → of2 = off + 1) := fun h => by rw [hof, if_neg (by omega)]
  rw [← hof] at hsl; clear hof
  go_enter Tryz.func113, Tryz.ntmps113
  go_wp2_with fail
  refine (countInt_ok (some ⟨b, off, none⟩) (m + 1) c 8 w (by omega) (by omega)).mono ?_; rintro e w' ⟨rfl, rfl⟩
  go_wp2_with fail
  refine (firstIn_ok 89 0 100000000000 (some ⟨b, off, none⟩) (m + 1) c l w' (by omega) enters_srcSquare srcSquare_st HL.out HR.out).mono ?_; rintro e w2 ⟨rfl, rfl⟩
  go_wp2_with fail
  refine (first2 _ _ 0 0 _ (by go_simp) (by go_simp)).mono ?_; rw [show firstE [0, 0] = 0 from rfl]; rintro e w3 ⟨rfl, rfl⟩; obtain ⟨w4, hw4⟩ : ∃ W, W = w2.alloc (.cells #[.int .i64 0, .int .i64 0] 37) := ⟨_, rfl⟩; rw [← hw4]; have hb : Below w2.heap.size w2 w4 := by rw [hw4]; exact (Below.refl _ _).alloc (Nat.le_refl _) _
  have HC4 : Hid (∀ i, i < m + 1 → w4.cell? ⟨b, off + i, none⟩ = some (.int .i64 (l.getD i 0))) := fun i hi => by
    rw [hb.cell (p := ⟨b, off + i, none⟩) (World.block_lt_of_cell? _ _ (HC.out i hi))]; exact HC.out i hi
  have HB := Lib.hid hb; clear hw4 hb; have h0 := HC4.out 0 (by omega); rw [HG.out.zero, Nat.add_zero] at h0; go_wp2; clear h0
  go_loop [4, 5, 22] (fun _ _ k => ∃ j : Nat, j ≤ m ∧ k = .int .i64 j) (fun _ _ k => m - (intOf k).toNat)
  case atStart => exact ⟨0, Nat.zero_le _, rfl⟩
  case round =>
    obtain ⟨j, hj, rfl⟩ := hrel
    by_cases hlt : j < m
    · have h0 := HC4.out j (by omega); have h1 := HC4.out (j + 1) (by omega); have ho := HOF.out (by omega); rw [show off + (j + 1) = of2 + j by omega] at h1; have hup := HG.out.up j (j + 1) (by omega) (by rw [HN.out]; omega); obtain ⟨x, hx⟩ : ∃ x, x = l.getD j 0 := ⟨_, rfl⟩; obtain ⟨y, hy⟩ : ∃ y, y = l.getD (j + 1) 0 := ⟨_, rfl⟩; rw [← hx] at h0 hup; rw [← hy] at h1 hup; clear hx hy ho; go_wp2
      go_round
      case rel => exact ⟨j + 1, by omega, by go_num⟩
      case measure => simp [intOf]; omega
    · obtain rfl : j = m := by omega
      go_wp2
      go_ret
      exact ⟨rfl, HB.out⟩
end Go.Proofs.YtmafmebcgmegeaaGreatDoor

namespace Go.Proofs.YtmafmebcgmegeaaGreatDoor
open Go.RowKit Go.Sort
def Ext (W W' : World) : Prop := Below W.heap.size W W'
theorem Ext.refl (W : World) : Ext W W := Below.refl _ _
theorem Ext.trans {A B C : World} (h : Ext A B) (k : Ext B C) : Ext A C := Below.trans h (Below.mono k (Below.size h))
theorem Ext.below {A B : World} (h : Ext A B) : Below A.heap.size A B := h
theorem Ext.drew (W : World) : Ext W W.drew := (Below.refl _ _).drew
structure GR where
  r : Value → World → Prop
  keep : ∀ {v : Value} {W W' : World}, r v W → Ext W W' → r v W'
def GR.eq (u : Value) : GR := ⟨fun v _ => v = u, fun h _ => h⟩
def GR.at (l : List GR) (i : Nat) : GR := l.getD i ⟨fun _ _ => True, fun _ _ => trivial⟩
def dstAt (ops : Array Oper) (i : Nat) : Option Tmp := (ops[i]?).bind (·.dst)
def updN (vs : Nat → Value) (i : Nat) (v : Value) : Nat → Value := fun j => if j = i then v else vs j
def fillA (ops : Array Oper) (vs : Nat → Value) (seen : Array Bool) (l : List Nat) (f : Act) : Act := l.foldl (fun a i => if seen.getD i false = true then a.put (dstAt ops i) (vs i) else a) f
theorem fillA_cons {ops : Array Oper} {vs : Nat → Value} {seen : Array Bool} (k : Nat) (t : List Nat) (f : Act) : fillA ops vs seen (k :: t) f = fillA ops vs seen t (if seen.getD k false = true then f.put (dstAt ops k) (vs k) else f) := rfl
theorem fillA_comm {ops : Array Oper} {vs : Nat → Value} {seen : Array Bool} {x : Option Tmp} {v : Value} (l : List Nat) : ∀ (f : Act), (∀ j, j ∈ l → ∀ d, dstAt ops j = some d → x ≠ some d) → fillA ops vs seen l (f.put x v) = (fillA ops vs seen l f).put x v := by
  induction l with
  | nil => intro f _; rfl
  | cons k t ih =>
    intro f h; rw [fillA_cons, fillA_cons]; have ht : ∀ j, j ∈ t → ∀ d, dstAt ops j = some d → x ≠ some d := fun j hj => h j (List.mem_cons_of_mem _ hj)
    split
    · rw [← Act.put_comm f (vs k) v (h k (by simp))]; exact ih _ ht
    · exact ih _ ht
theorem fillA_congr {ops : Array Oper} {vs vs' : Nat → Value} {seen seen' : Array Bool} (l : List Nat) : ∀ (f : Act), (∀ j, j ∈ l → seen.getD j false = seen'.getD j false ∧ vs j = vs' j) → fillA ops vs seen l f = fillA ops vs' seen' l f := by
  induction l with
  | nil => intro f _; rfl
  | cons k t ih =>
    intro f h; rw [fillA_cons, fillA_cons]; rw [(h k (by simp)).1, (h k (by simp)).2]; exact ih _ fun j hj => h j (List.mem_cons_of_mem _ hj)
theorem fillA_put {ops : Array Oper} {vs : Nat → Value} {seen : Array Bool} {i : Nat} {v : Value} (hs : seen.getD i false = false) (hi : i < seen.size) (l : List Nat) : ∀ (f : Act), i ∈ l → l.Nodup → (∀ j, j ∈ l → j ≠ i → ∀ d, dstAt ops j = some d → dstAt ops i ≠ some d) →
    fillA ops (updN vs i v) (seen.setIfInBounds i true) l f = (fillA ops vs seen l f).put (dstAt ops i) v := by
  induction l with
  | nil => intro f h; cases h
  | cons k t ih =>
    intro f hm hn hd; obtain ⟨hk, hn⟩ := List.nodup_cons.1 hn
    by_cases hki : k = i
    · subst hki; have e1 : (seen.setIfInBounds k true).getD k false = true := by simp [hi]
      have e2 : updN vs k v k = v := by simp [updN]
      rw [fillA_cons, fillA_cons]; rw [if_pos e1, if_neg (by rw [hs]; decide), e2]; rw [← fillA_comm t f (fun j hj => hd j (List.mem_cons_of_mem _ hj) (fun e => hk (e ▸ hj)))]; refine fillA_congr t _ fun j hj => ?_
      have hne : k ≠ j := fun e => hk (e ▸ hj)
      exact ⟨getD_set_ne false hne, by simp [updN, Ne.symm hne]⟩
    · have hne : i ≠ k := fun e => hki e.symm
      rw [fillA_cons, fillA_cons]; rw [getD_set_ne false hne, show updN vs i v k = vs k by simp [updN, hki]]; refine ih _ ?_ hn fun j hj => hd j (List.mem_cons_of_mem _ hj)
      rcases List.mem_cons.1 hm with e | e
      · exact absurd e.symm hki
      · exact e
theorem put_eval_ne {a : Act} {x : Option Tmp} {v : Value} {t : Tmp} (h : x ≠ some t) : (a.put x v).eval (.tmp t) = a.eval (.tmp t) := by
  cases x with
  | none => rfl
  | some d =>
    have hne : d ≠ t := fun e => h (by rw [e])
    simp [Act.put, Act.eval, Array.getElem?_setIfInBounds_ne hne]
theorem put_eval_eq {a : Act} {v : Value} {t : Tmp} (h : t < a.tmps.size) : (a.put (some t) v).eval (.tmp t) = v := by
  simp [Act.put, Act.eval, h]
theorem put_size {a : Act} {x : Option Tmp} {v : Value} : (a.put x v).tmps.size = a.tmps.size := by cases x <;> simp [Act.put]
theorem fillA_other {ops : Array Oper} {vs : Nat → Value} {seen : Array Bool} {t : Tmp} (l : List Nat) : ∀ (f : Act), (∀ j, j ∈ l → dstAt ops j ≠ some t) → (fillA ops vs seen l f).eval (.tmp t) = f.eval (.tmp t) := by
  induction l with
  | nil => intro f _; rfl
  | cons k r ih =>
    intro f h; rw [fillA_cons]; rw [ih _ fun j hj => h j (List.mem_cons_of_mem _ hj)]
    split
    · exact put_eval_ne (h k (by simp))
    · rfl
theorem fillA_at {ops : Array Oper} {vs : Nat → Value} {seen : Array Bool} {i : Nat} {t : Tmp} (hs : seen.getD i false = true) (ht : dstAt ops i = some t) (l : List Nat) : ∀ (f : Act), t < f.tmps.size → i ∈ l → l.Nodup → (∀ j, j ∈ l → j ≠ i → dstAt ops j ≠ some t) → (fillA ops vs seen l f).eval (.tmp t) = vs i := by
  induction l with
  | nil => intro f _ h; cases h
  | cons k r ih =>
    intro f hf hm hn hd; obtain ⟨hk, hn⟩ := List.nodup_cons.1 hn; rw [fillA_cons]
    by_cases hki : k = i
    · subst hki; rw [fillA_other r _ fun j hj => hd j (List.mem_cons_of_mem _ hj) (fun e => hk (e ▸ hj)), if_pos hs, ht]; exact put_eval_eq hf
    · refine ih _ ?_ ?_ hn fun j hj => hd j (List.mem_cons_of_mem _ hj)
      · split
        · rw [put_size]; exact hf
        · exact hf
      · rcases List.mem_cons.1 hm with e | e
        · exact absurd e.symm hki
        · exact e
theorem eval_getD (a : Act) (t : Tmp) : a.eval (.tmp t) = a.tmps[t]?.getD undef := by simp [Act.eval]
def outOf (ops : Array Oper) (n : Nat) : Operand → Bool
  | .tmp t => (List.range n).all fun j => decide (dstAt ops j ≠ some t)
  | _ => true
def growB (ops : Array Oper) (n : Nat) : Bool :=
  Region.noSelect ops && decide (n < ops.size) && Region.sinkB .any ops n && Region.chainB .any ops n && Region.seqB .any ops (ops.size - n) n ((Array.replicate n true) ++ (Array.replicate (ops.size - n) false)) &&
    (List.range n).all fun i => match ops[i]? with
      | none => false
      | some o => o.guard.isNone && (o.after.all fun e => !Region.binds .any e || decide (e.on < i)) && (match o.dst with | none => false | some t => (List.range n).all fun j => decide (j = i) || decide (dstAt ops j ≠ some t))
def dstB (ops : Array Oper) (n size : Nat) : Bool := (List.range n).all fun i => match dstAt ops i with
  | some t => decide (t < size)
  | none => true
def GrowStep (P : Program) (Q : Exit → Act → World → Prop) (ops : Array Oper) (f : Act) (w : World) (Rs : List GR) (n i : Nat) (o : Oper) : Prop :=
  ∀ (a : Act) (W : World), Ext w W → (∀ j t, (o.after.any fun e => Region.binds .any e && decide (e.on = j)) = true → dstAt ops j = some t → (GR.at Rs j).r (a.tmps[t]?.getD undef) W) → (∀ t, outOf ops n (.tmp t) = true → a.tmps[t]?.getD undef = f.tmps[t]?.getD undef) →
    Oper.wp P o a W (fun a' W' => ∃ v, a' = a.put o.dst v ∧ Ext W W' ∧ (GR.at Rs i).r v W') Q
def growSteps (P : Program) (Q : Exit → Act → World → Prop) (ops : Array Oper) (f : Act) (w : World) (Rs : List GR) (n : Nat) : List Oper → Nat → Prop
  | [], _ => True
  | o :: l, i => GrowStep P Q ops f w Rs n i o ∧ growSteps P Q ops f w Rs n l (i + 1)
theorem growSteps_at {P : Program} {Q : Exit → Act → World → Prop} {ops : Array Oper} {f : Act} {w : World} {Rs : List GR} {n : Nat} (l : List Oper) : ∀ (k : Nat), growSteps P Q ops f w Rs n l k → ∀ (i : Nat) (o : Oper), l[i]? = some o → GrowStep P Q ops f w Rs n (k + i) o := by
  induction l with
  | nil => intro k _ i o h; simp at h
  | cons b t ih =>
    intro k h i o ho
    cases i with
    | zero => simp at ho; subst ho; exact h.1
    | succ i =>
      have := ih (k + 1) h.2 i o (by simpa using ho)
      rwa [show k + 1 + i = k + (i + 1) by omega] at this
theorem growB_spec {ops : Array Oper} {n : Nat} (h : growB ops n = true) : (∀ i, i < n → ∃ o t, ops[i]? = some o ∧ o.guard = none ∧ o.dst = some t ∧ (∀ j, j < n → j ≠ i → dstAt ops j ≠ some t) ∧ ∀ e, e ∈ o.after → Region.binds .any e = true → e.on < i) := by
  intro i hi; unfold growB at h; simp only [Bool.and_eq_true] at h; have h1 := List.all_eq_true.1 h.2 i (by simpa using hi)
  cases ho : ops[i]? with
  | none => rw [ho] at h1; simp at h1
  | some o =>
    rw [ho] at h1; simp only [Bool.and_eq_true] at h1; obtain ⟨⟨h2, h4⟩, h3⟩ := h1
    cases hd : o.dst with
    | none => rw [hd] at h3; simp at h3
    | some t =>
      rw [hd] at h3; refine ⟨o, t, rfl, by simpa using h2, hd, fun j hj hji => ?_, fun e he hb => ?_⟩
      · have := List.all_eq_true.1 h3 j (by simpa using hj)
        simpa [hji] using this
      · have := Array.all_eq_true_iff_forall_mem.1 h4 e he
        simpa [hb] using this
theorem filter_set {seen : Array Bool} {i : Nat} (hs : i < seen.size) (hun : seen.getD i true = false) (n : Nat) (hin : i < n) :
    ((List.range n).filter fun j => !(seen.setIfInBounds i true).getD j true).length + 1 = ((List.range n).filter fun j => !seen.getD j true).length := by
  induction n with
  | zero => omega
  | succ n ih =>
    rw [List.range_succ, List.filter_append, List.filter_append, List.length_append, List.length_append]
    by_cases hni : i = n
    · subst hni
      have e1 : (List.range i).filter (fun j => !(seen.setIfInBounds i true).getD j true) = (List.range i).filter (fun j => !seen.getD j true) := by
        refine List.filter_congr fun j hj => ?_
        have : j < i := by simpa using hj
        rw [getD_set_ne true (by omega)]
      have e2 : (seen.setIfInBounds i true).getD i true = true := by simp [hs]
      rw [e1]; simp only [List.filter_cons, List.filter_nil, e2, hun]
      simp
    · have := ih (by omega); have e1 : (seen.setIfInBounds i true).getD n true = seen.getD n true := getD_set_ne true hni; simp only [List.filter_cons, List.filter_nil, e1]
      omega
theorem headReady {ops : Array Oper} {n : Nat} {seen : Array Bool} (hB : growB ops n = true) (inv : HeadInv .any ops n seen) : ∀ {i : Nat}, i < n → seen.getD i true = false → ∃ k, k < n ∧ k ∈ Region.ready .any ops seen := by
  intro i
  induction i using Nat.strongRecOn with
  | _ i ih =>
    intro hi hun; obtain ⟨o, t, ho, _, _, _, hb⟩ := growB_spec hB i hi
    by_cases hall : ∀ e, e ∈ o.after → Region.binds .any e = true → seen.getD e.on false = true
    · exact ⟨i, hi, mem_ready.2 ⟨hun, o, ho, hall⟩⟩
    · simp only [Classical.not_forall] at hall; obtain ⟨e, he, hbe, hne⟩ := hall; have h1 := hb e he hbe; have hlt : i < ops.size := (Array.getElem?_eq_some_iff.1 ho).1; exact ih e.on h1 (by omega) (getD_in (by rw [inv.size]; omega) (by simpa using hne))
theorem wp_region_grow {P : Program} {id : Nat} {Q : Exit → Act → World → Prop} {f : Act} {w : World} {l : List Oper} (n : Nat) (hm : P.follows .mixedOrders = true) (hB : growB l.toArray n = true) (Rs : List GR) (size : Nat) (hsz : f.tmps.size = size) (hfB : dstB l.toArray n size = true)
    (hstep : growSteps P Q l.toArray f w Rs n (l.take n) 0)
    (h : ∀ (vs : Nat → Value) (W : World), Ext w W → (∀ i, i < n → (GR.at Rs i).r (vs i) W) → wpList P l.toArray Q (l.drop n) ((List.range n).foldl (fun a i => a.put (dstAt l.toArray i) (vs i)) f) W) : (Code.region id l.toArray true).wp P Q f w := by
  have hf : ∀ i t, i < n → dstAt l.toArray i = some t → t < f.tmps.size := fun i t hi ht => by
    have := List.all_eq_true.1 hfB i (by simpa using hi); rw [ht] at this; rw [hsz]
    simpa using this
  have hspec := growB_spec hB; have hB' := hB; unfold growB at hB'; simp only [Bool.and_eq_true, decide_eq_true_eq] at hB'; obtain ⟨⟨⟨⟨⟨hsel, hn⟩, hs⟩, hc⟩, hseq⟩, _⟩ := hB'; have hn' : n < l.length := by simpa using hn
  have hdl : (l.drop n).length = l.toArray.size - n := by simp
  refine wp_region_any hm ?_
  -- the count of operations of the head that are still to come
  have main : ∀ (g : Nat) (seen : Array Bool) (vs : Nat → Value) (W : World), ((List.range n).filter fun i => !seen.getD i true).length = g → HeadInv .any l.toArray n seen → Ext w W → (∀ i, i < n → seen.getD i false = true → (GR.at Rs i).r (vs i) W) →
      wpAny P .any l.toArray Q (g + (l.toArray.size - n)) seen (fillA l.toArray vs seen (List.range n) f) W := by
    intro g
    induction g with
    | zero =>
      intro seen vs W hg inv hE hR
      have hall : ∀ i, i < n → seen.getD i true = true := fun i hi => by
        have := List.eq_nil_of_length_eq_zero hg; rw [List.filter_eq_nil_iff] at this
        simpa using this i (by simpa using hi)
      have hsz := inv.size
      have hall' : ∀ i, i < n → seen.getD i false = true := fun i hi => by
        have h1 : i < seen.size := by rw [hsz]; omega
        have h2 := hall i hi
        simp [h1] at h2 ⊢; exact h2
      have hseen : seen = (Array.replicate n true) ++ (Array.replicate (l.toArray.size - n) false) := by
        refine Array.ext (by simp [hsz]; omega) fun i h1 h2 => ?_
        rcases Nat.lt_or_ge i n with hi | hi
        · have h3 := hall i hi
          simp [h1] at h3
          rw [h3, Array.getElem_append_left (by simpa using hi)]
          simp
        · have h3 := inv.tail i hi (by rw [← hsz]; exact h1)
          simp [h1] at h3
          rw [h3, Array.getElem_append_right (by simpa using hi)]
          simp
      have hfill : fillA l.toArray vs seen (List.range n) f = (List.range n).foldl (fun a i => a.put (dstAt l.toArray i) (vs i)) f := by
        have : ∀ (t : List Nat) (f : Act), (∀ i, i ∈ t → i < n) → fillA l.toArray vs seen t f = t.foldl (fun a i => a.put (dstAt l.toArray i) (vs i)) f := by
          intro t
          induction t with
          | nil => intro f _; rfl
          | cons k t ih =>
            intro f ht; rw [fillA_cons, List.foldl_cons, if_pos (hall' k (ht k (by simp)))]; exact ih _ fun i hi => ht i (List.mem_cons_of_mem _ hi)
        exact this _ _ fun i hi => by simpa using hi
      rw [hfill, Nat.zero_add]; have hs2 : Region.seqB .any l.toArray (l.toArray.size - n) n seen = true := by rw [hseen]; exact hseq
      have := wpAny_of_seq (md := .any) (Q' := Q) (l.drop n) n seen _ W (fun j => by simp [List.getElem?_drop]) (by rw [hdl]; exact hs2) (h vs W hE fun i hi => hR i hi (hall' i hi))
      rwa [hdl] at this
    | succ g ih =>
      intro seen vs W hg inv hE hR
      obtain ⟨i0, hi0⟩ : ∃ i, i ∈ (List.range n).filter fun i => !seen.getD i true := by
        cases hl : (List.range n).filter fun i => !seen.getD i true with
        | nil => rw [hl] at hg; simp at hg
        | cons b t => exact ⟨b, by simp⟩
      rw [List.mem_filter] at hi0; have hi1 : i0 < n := by simpa using hi0.1
      have hi2 : seen.getD i0 true = false := by simpa using hi0.2
      have early : ∀ j, j ∈ Region.ready .any l.toArray seen → j < n := fun j hj => (Nat.lt_or_ge j n).elim (fun h => h) fun hh => absurd hj (tail_waits hs hc hn inv _ i0 rfl hi1 hi2 j hh)
      rw [show g + 1 + (l.toArray.size - n) = (g + (l.toArray.size - n)) + 1 by omega]; refine ⟨fun hnil => ?_, fun i hi => ?_⟩
      · -- some operation of the head is ready: the first of those that are still to come by the order of its waits
        exfalso
        have hmin : ∃ i, i < n ∧ i ∈ Region.ready .any l.toArray seen := by
          exact headReady hB inv hi1 hi2
        obtain ⟨i, _, hir⟩ := hmin; rw [hnil] at hir
        cases hir
      · have hin := early i hi; obtain ⟨hun, o', ho', hall⟩ := mem_ready.1 hi; obtain ⟨o, t, ho, hgd, hdst, hdis, _⟩ := hspec i hin; have : o' = o := Option.some.inj (ho'.symm.trans ho); subst this; have hdi : dstAt l.toArray i = some t := by simp [dstAt, ho, hdst]
        have hlo : (l.take n)[i]? = some o' := by
          rw [List.getElem?_take, if_pos hin]
          simpa using ho
        have st := growSteps_at (l.take n) 0 hstep i o' hlo; rw [Nat.zero_add] at st; have hnd : (List.range n).Nodup := List.nodup_range; have hisz : i < seen.size := by rw [inv.size]; omega
        have hus : seen.getD i false = false := getD_both hun; unfold wpOp; simp only [ho]; rw [if_pos (by simp [Region.wanted, hgd])]; refine Or.inl (Oper.wp_mono ?_ (st _ W hE ?_ ?_))
        · rintro a' W' ⟨v, rfl, hE', hr⟩; rw [hdst, ← hdi, ← fillA_put (vs := vs) (v := v) hus hisz (List.range n) f (by simpa using hin) hnd (fun j hj hji d hd => by rw [hdi]; intro e; exact hdis j (by simpa using hj) hji (hd.trans e.symm))]; refine ih _ _ _ ?_ (inv.set hi hin) (hE.trans hE') fun j hj hsj => ?_
          · have hlen := filter_set hisz hun n hin
            omega
          · by_cases hji : i = j
            · subst hji; rw [show updN vs i v i = v by simp [updN]]; exact hr
            · rw [getD_set_ne false hji] at hsj; rw [show updN vs i v j = vs j by simp [updN, Ne.symm hji]]; exact (GR.at Rs j).keep (hR j hj hsj) hE'
        · intro j t' hj hd; obtain ⟨e, he, hh⟩ := Array.any_eq_true'.1 hj; simp only [Bool.and_eq_true, decide_eq_true_eq] at hh; obtain ⟨hb, rfl⟩ := hh; have hsj := hall e he hb
          have hjn : e.on < n := by
            rcases Nat.lt_or_ge e.on n with h1 | h1
            · exact h1
            · exfalso
              rcases Nat.lt_or_ge e.on l.toArray.size with h2 | h2
              · have h3 := getD_both (inv.tail e.on h1 h2); rw [h3] at hsj; cases hsj
              · rw [Array.getD_eq_getD_getElem?, Array.getElem?_eq_none (by rw [inv.size]; exact h2)] at hsj
                simp at hsj
          rw [← eval_getD, fillA_at hsj hd (List.range n) f (hf _ _ hjn hd) (by simpa using hjn) hnd (fun k hk hkj hk2 => by
            obtain ⟨o2, t2, ho2, _, hd2, hdis2, _⟩ := hspec e.on hjn; have e2 : dstAt l.toArray e.on = some t2 := by simp [dstAt, ho2, hd2]
            rw [e2] at hd; exact hdis2 k (by simpa using hk) hkj (by rw [hk2, hd]))]
          exact hR _ hjn hsj
        · intro t' hx; rw [← eval_getD, ← eval_getD]; refine fillA_other (List.range n) f fun j hj => ?_
          have := List.all_eq_true.1 hx j hj
          simpa using this
  have h0 := main n (Array.replicate l.toArray.size false) (fun _ => undef) w.drew ?_ ⟨by simp, fun j oj _ hl => (by rw [getD_replicate_false] at hl; cases hl), fun t _ ht => getD_in (by simpa using ht) (getD_replicate_false _ _)⟩ (Ext.drew w) (fun i _ hl => by rw [getD_replicate_false] at hl; cases hl)
  · have hfill : fillA l.toArray (fun _ => undef) (Array.replicate l.toArray.size false) (List.range n) f = f := by
      have : ∀ (t : List Nat) (f : Act), fillA l.toArray (fun _ => undef) (Array.replicate l.toArray.size false) t f = f := by
        intro t
        induction t with
        | nil => intro f; rfl
        | cons k t ih =>
          intro f; rw [fillA_cons, if_neg (by rw [getD_replicate_false]; decide)]; exact ih f
      exact this _ _
    rw [hfill, show n + (l.toArray.size - n) = l.toArray.size by omega] at h0; exact h0
  · have : (List.range n).filter (fun i => !(Array.replicate l.toArray.size false).getD i true) = List.range n := by
      rw [List.filter_eq_self]; intro i hi; have : i < n := by simpa using hi
      have : i < l.length := by omega
      simp [this]
    rw [this]
    simp
/-! The steps of a head. -/
section
variable {P : Program} {Q : Exit → Act → World → Prop} {o : Oper} {a : Act} {W W' : World} {r : Value → World → Prop}
theorem gs_val {v : Value} (he : (execOp a.eval o).run P W = .ok (.value v) W') (hE : Ext W W') (hr : r v W') :
    Oper.wp P o a W (fun a' W' => ∃ v, a' = a.put o.dst v ∧ Ext W W' ∧ r v W') Q := by
  unfold Oper.wp; rw [he]; exact ⟨v, rfl, hE, hr⟩
theorem gs_same {v : Value} (he : (execOp a.eval o).run P W = .ok (.value v) W) (hr : r v W) : Oper.wp P o a W (fun a' W' => ∃ v, a' = a.put o.dst v ∧ Ext W W' ∧ r v W') Q := gs_val he (Ext.refl _) hr
theorem gs_call {f : FuncId} {args : Array Value} (he : (execOp a.eval o).run P W = .ok (.enter f args) W) (hc : Calls P f args W fun e w' => ∃ v, e = .returned v ∧ Ext W w' ∧ r v w') :
    Oper.wp P o a W (fun a' W' => ∃ v, a' = a.put o.dst v ∧ Ext W W' ∧ r v W') Q := by
  unfold Oper.wp; rw [he, Oper.upon_enter]; refine hc.mono ?_; rintro e w' ⟨v, rfl, hE, hr⟩; exact ⟨v, rfl, hE, hr⟩
theorem gs_load (ty : TypeId) (x : Operand) (ho : o.op = .load ty x) (p : Addr) (v : Value) (hx : a.eval x = .pointer (some p)) (hl : (loadVar ty p).run P W = .ok v W) (hr : r v W) :
    Oper.wp P o a W (fun a' W' => ∃ v, a' = a.put o.dst v ∧ Ext W W' ∧ r v W') Q := by
  refine gs_same (v := v) ?_ hr; unfold execOp; simp only [ho, hx, Instr.loadAt, Instr.sureAddr, Sem.run_bind, Sem.run_pure, Result.andThen_ok, hl]
end
end Go.Proofs.YtmafmebcgmegeaaGreatDoor
