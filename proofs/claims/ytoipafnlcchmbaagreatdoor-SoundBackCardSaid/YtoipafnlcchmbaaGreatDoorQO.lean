/- Bytes in pieces, numerals, lines, printed and parsed: plain arithmetic. -/
import Derived.Lib.SplitLaws
import Derived.Lib.ItoaNum
namespace Go.Proofs.YtoipafnlcchmbaaGreatDoor

/-- The pieces of bytes that a byte closes, and what follows the last of them. -/
def cutStep (b : UInt8) (st : List (List UInt8) × List UInt8) (c : UInt8) : List (List UInt8) × List UInt8 := if c = b then (st.1 ++ [st.2], []) else (st.1, st.2 ++ [c])
def cutSt (b : UInt8) (l : List UInt8) : List (List UInt8) × List UInt8 := l.foldl (cutStep b) ([], [])
def cuts (b : UInt8) (l : List UInt8) : List (List UInt8) := (cutSt b l).1 ++ [(cutSt b l).2]
theorem cutSt_nil (b : UInt8) : cutSt b [] = ([], []) := rfl
theorem cutSt_snoc (b : UInt8) (l : List UInt8) (c : UInt8) : cutSt b (l ++ [c]) = cutStep b (cutSt b l) c := by
  unfold cutSt; rw [List.foldl_append]; rfl
theorem cutStep_hit (b : UInt8) (d : List (List UInt8)) (cur : List UInt8) : cutStep b (d, cur) b = (d ++ [cur], []) := by unfold cutStep; rw [if_pos rfl]
theorem cutStep_miss {b c : UInt8} (h : c ≠ b) (d : List (List UInt8)) (cur : List UInt8) : cutStep b (d, cur) c = (d, cur ++ [c]) := by unfold cutStep; rw [if_neg h]
theorem cutFold (b : UInt8) (l : List UInt8) : ∀ d cur, l.foldl (cutStep b) (d, cur) = (d ++ (l.foldl (cutStep b) ([], cur)).1, (l.foldl (cutStep b) ([], cur)).2) := by
  induction l with
  | nil => intro d cur; simp
  | cons c l ih =>
    intro d cur
    rw [List.foldl_cons, List.foldl_cons]
    by_cases h : c = b
    · subst h
      rw [cutStep_hit, cutStep_hit, ih (d ++ [cur]) [], ih ([] ++ [cur]) []]
      simp
    · rw [cutStep_miss h, cutStep_miss h, ih d (cur ++ [c])]
theorem cutFold_free (b : UInt8) (l : List UInt8) : b ∉ l → ∀ d cur, l.foldl (cutStep b) (d, cur) = (d, cur ++ l) := by
  induction l with
  | nil => intro _ d cur; simp
  | cons c l ih =>
    intro h d cur
    have h1 : c ≠ b := fun e => h (by simp [e])
    rw [List.foldl_cons]
    have e : cutStep b (d, cur) c = (d, cur ++ [c]) := by unfold cutStep; rw [if_neg h1]
    rw [e, ih (fun m => h (by simp [m]))]
    simp
theorem cutSt_free (b : UInt8) (l : List UInt8) (h : b ∉ l) : cutSt b l = ([], l) := by
  unfold cutSt; rw [cutFold_free b l h]; simp
theorem cutSt_hit (b : UInt8) (p q : List UInt8) (h : b ∉ p) : cutSt b (p ++ b :: q) = (p :: (cutSt b q).1, (cutSt b q).2) := by
  unfold cutSt
  rw [List.foldl_append, cutFold_free b p h, List.foldl_cons]
  have e : cutStep b ([], [] ++ p) b = ([p], []) := by unfold cutStep; rw [if_pos rfl]; simp
  rw [e, cutFold b q [p] []]
  simp
theorem cuts_len (b : UInt8) (l : List UInt8) : (cuts b l).length = (cutSt b l).1.length + 1 := by simp [cuts]
theorem cutSt_free_all (b : UInt8) (l : List UInt8) : (∀ p ∈ (cutSt b l).1, b ∉ p) ∧ b ∉ (cutSt b l).2 := by
  suffices H : ∀ (d : List (List UInt8)) (cur : List UInt8), (∀ p ∈ d, b ∉ p) → b ∉ cur → (∀ p ∈ (l.foldl (cutStep b) (d, cur)).1, b ∉ p) ∧ b ∉ (l.foldl (cutStep b) (d, cur)).2 from H [] [] (by simp) (by simp)
  induction l with
  | nil => intro d cur h1 h2; exact ⟨h1, h2⟩
  | cons c l ih =>
    intro d cur h1 h2
    rw [List.foldl_cons]
    by_cases h : c = b
    · subst h
      rw [cutStep_hit]
      refine ih _ _ (fun p hp => ?_) (by simp)
      rcases List.mem_append.1 hp with hp | hp
      · exact h1 p hp
      · simp at hp; rw [hp]; exact h2
    · rw [cutStep_miss h]
      refine ih _ _ h1 (fun hm => ?_)
      rcases List.mem_append.1 hm with hm | hm
      · exact h2 hm
      · simp at hm; exact h hm.symm
/-- The bytes again, out of their pieces. -/
theorem cutSt_back (b : UInt8) (l : List UInt8) : ((cutSt b l).1.map (· ++ [b])).flatten ++ (cutSt b l).2 = l := by
  suffices H : ∀ (d : List (List UInt8)) (cur : List UInt8), ((l.foldl (cutStep b) (d, cur)).1.map (· ++ [b])).flatten ++ (l.foldl (cutStep b) (d, cur)).2 = (d.map (· ++ [b])).flatten ++ cur ++ l from by
    have := H [] []
    simpa [cutSt] using this
  induction l with
  | nil => intro d cur; simp
  | cons c l ih =>
    intro d cur
    rw [List.foldl_cons]
    by_cases h : c = b
    · subst h
      rw [cutStep_hit, ih (d ++ [cur]) []]
      simp
    · rw [cutStep_miss h, ih d (cur ++ [c])]
      simp
theorem cutSt_suffix (b : UInt8) (l : List UInt8) : ∃ p, l = p ++ (cutSt b l).2 := ⟨_, (cutSt_back b l).symm⟩
theorem cutSt_of (b : UInt8) : ∀ (D : List (List UInt8)) (cur : List UInt8), (∀ p ∈ D, b ∉ p) → b ∉ cur → cutSt b ((D.map (· ++ [b])).flatten ++ cur) = (D, cur)
  | [], cur, _, h => by simpa using cutSt_free b cur h
  | p :: D, cur, hd, h => by
    have e : ((p :: D).map (· ++ [b])).flatten ++ cur = p ++ b :: ((D.map (· ++ [b])).flatten ++ cur) := by simp
    rw [e, cutSt_hit b p _ (hd p (by simp)), cutSt_of b D cur (fun q hq => hd q (by simp [hq])) h]

/-- The first place of a byte. -/
theorem index_one (b : UInt8) : ∀ l : List UInt8, (b ∉ l ∧ Lib.index l [b] = -1) ∨ ∃ p q, l = p ++ b :: q ∧ b ∉ p ∧ Lib.index l [b] = (p.length : Int)
  | [] => Or.inl ⟨by simp, by unfold Lib.index; simp⟩
  | c :: l => by
    by_cases h : c = b
    · subst h
      refine Or.inr ⟨[], l, rfl, by simp, ?_⟩
      unfold Lib.index; simp
    · rcases index_one b l with ⟨h1, h2⟩ | ⟨p, q, e, hp, hi⟩
      · refine Or.inl ⟨by simp [h1, Ne.symm h], ?_⟩
        unfold Lib.index
        have : ([b].isPrefixOf (c :: l)) = false := by simp [List.isPrefixOf, Ne.symm h]
        simp [this, h2]
      · refine Or.inr ⟨c :: p, q, by rw [e]; rfl, by simp [hp, Ne.symm h], ?_⟩
        unfold Lib.index
        have : ([b].isPrefixOf (c :: l)) = false := by simp [List.isPrefixOf, Ne.symm h]
        simp [this, hi]
theorem splitK_cuts (b : UInt8) (sv : Nat) (hsv : sv ≤ 1) : ∀ (k : Nat) (l : List UInt8), l.length ≤ k → Lib.splitK [b] sv (Lib.count l [b]) l = (cutSt b l).1.map (fun p => p ++ [b].take sv) ++ [(cutSt b l).2]
  | k, l, hk => by
    rcases index_one b l with ⟨h1, h2⟩ | ⟨p, q, e, hp, hi⟩
    · rw [Lib.count_miss h2, cutSt_free b l h1]; rfl
    · have hq : q.length < k := by rw [e] at hk; simp at hk; omega
      obtain ⟨k', rfl⟩ : ∃ k', k = k' + 1 := ⟨k - 1, by omega⟩
      have ed : l.drop (p.length + [b].length) = q := by rw [e]; simp [List.drop_append]
      rw [Lib.count_hit (by simp) hi, ed, Nat.add_comm]
      unfold Lib.splitK
      rw [hi]
      rw [if_neg (fun e => by have := beq_iff_eq.1 e; omega)]
      have et : l.take ((p.length : Int).toNat + sv) = p ++ [b].take sv := by
        rw [e]
        rcases Nat.le_one_iff_eq_zero_or_eq_one.1 hsv with rfl | rfl
        · simp
        · simp [List.take_append]; exact List.take_of_length_le (by omega)
      rw [et, Int.toNat_natCast, ed, splitK_cuts b sv hsv k' q (by omega), e, cutSt_hit b p q hp]
      rfl
theorem splitB_cuts (b : UInt8) (sv : Nat) (hsv : sv ≤ 1) (s : ByteArray) : Lib.splitB ⟨#[b]⟩ sv (Lib.countB s ⟨#[b]⟩) s = ((cutSt b s.data.toList).1.map (fun p => p ++ [b].take sv) ++ [(cutSt b s.data.toList).2]).map fun l => (⟨l.toArray⟩ : ByteArray) := by
  have h := Lib.splitB_data ⟨#[b]⟩ sv (Lib.countB s ⟨#[b]⟩) s
  have h2 := splitK_cuts b sv hsv _ s.data.toList (Nat.le_refl _)
  have e : Lib.countB s ⟨#[b]⟩ = Lib.count s.data.toList [b] := rfl
  have h3 := h.trans (show Lib.splitK (ByteArray.mk #[b]).data.toList sv (Lib.countB s ⟨#[b]⟩) s.data.toList = _ from h2)
  rw [← h3, List.map_map]
  have : ((fun l : List UInt8 => (⟨l.toArray⟩ : ByteArray)) ∘ fun x : ByteArray => x.data.toList) = id := by
    funext x; cases x; simp
  rw [this, List.map_id]
theorem countB_cuts (b : UInt8) (s : ByteArray) : Lib.countB s ⟨#[b]⟩ = (cutSt b s.data.toList).1.length := by
  have h := congrArg List.length (splitB_cuts b 0 (by omega) s)
  rw [Lib.splitB_all ⟨#[b]⟩ (Nat.le_refl 1) _ _ _ rfl] at h
  simpa using h

theorem len_pos {α : Type} {l : List α} (h : l ≠ []) : 1 ≤ l.length := by
  cases l with
  | nil => exact absurd rfl h
  | cons a l => simp
theorem head_app {α : Type} {l : List α} (m : List α) (h : l ≠ []) : (l ++ m).head? = l.head? := by
  cases l with
  | nil => exact absurd rfl h
  | cons a l => rfl
/-- A numeral: digits alone, at most k, no leading zero. -/
def isDig (c : UInt8) : Bool := 48 ≤ c && c ≤ 57
def digB (k : Nat) (l : List UInt8) : Bool := !l.isEmpty && decide (l.length ≤ k) && !(decide (1 < l.length) && l.head? == some 48) && l.all isDig
def digV (l : List UInt8) : Int := l.foldl (fun n c => 10 * n + ((c.toNat : Int) - 48)) 0
theorem digV_snoc (l : List UInt8) (c : UInt8) : digV (l ++ [c]) = 10 * digV l + ((c.toNat : Int) - 48) := by unfold digV; rw [List.foldl_append]; rfl
theorem digV_bd (l : List UInt8) : (∀ c ∈ l, isDig c = true) → 0 ≤ digV l ∧ digV l < 10 ^ l.length := by
  suffices H : ∀ k, ∀ l : List UInt8, l.length = k → (∀ c ∈ l, isDig c = true) → 0 ≤ digV l ∧ digV l < 10 ^ l.length from H _ l rfl
  intro k
  induction k with
  | zero => intro l hl _; rw [List.eq_nil_of_length_eq_zero hl]; exact ⟨by decide, by decide⟩
  | succ k ih =>
    intro l hl h
    obtain ⟨m, c, rfl⟩ : ∃ m c, l = m ++ [c] := by
      rcases List.eq_nil_or_concat l with e | ⟨m, c, e⟩
      · rw [e] at hl; simp at hl
      · exact ⟨m, c, by simpa using e⟩
    have h1 := ih m (by simpa using hl) (fun x hx => h x (by simp [hx]))
    have h2 := h c (by simp)
    have h3 : 48 ≤ c.toNat ∧ c.toNat ≤ 57 := by
      unfold isDig at h2
      simp only [Bool.and_eq_true, decide_eq_true_eq, UInt8.le_iff_toNat_le] at h2
      exact h2
    rw [digV_snoc, List.length_append, List.length_singleton, Int.pow_succ]
    omega
/-- The integer of a line without its end: a word and a numeral. -/
def numB (w : List UInt8) (k : Nat) (l : List UInt8) : Bool := match cuts 32 l with | [a, d] => a == w && digB k d | _ => false
def numV (l : List UInt8) : Int := match cuts 32 l with | [_, d] => digV d | _ => 0
theorem numB_of {w : List UInt8} {k : Nat} {l d : List UInt8} (h : (cutSt 32 l).1 = [w]) (h2 : (cutSt 32 l).2 = d) (hd : digB k d = true) : numB w k l = true ∧ numV l = digV d := by
  unfold numB numV cuts
  rw [h, h2]
  simp [hd]
theorem numB_iff (w : List UInt8) (k : Nat) (l : List UInt8) : numB w k l = true ↔ (cutSt 32 l).1 = [w] ∧ digB k (cutSt 32 l).2 = true := by
  unfold numB cuts
  rcases (cutSt 32 l).1 with _ | ⟨a, _ | ⟨c, r⟩⟩
  · simp
  · simp
  · constructor
    · intro h
      rcases r with _ | ⟨x, y⟩ <;> simp at h
    · intro h; simp at h
theorem numV_eq {w : List UInt8} {k : Nat} {l : List UInt8} (h : numB w k l = true) : numV l = digV (cutSt 32 l).2 := by
  obtain ⟨h1, h2⟩ := (numB_iff w k l).1 h
  unfold numV cuts
  rw [h1]
  rfl
theorem digB_digs {k : Nat} {l : List UInt8} (h : digB k l = true) : ∀ c ∈ l, isDig c = true := by
  unfold digB at h
  simp only [Bool.and_eq_true, List.all_eq_true] at h
  exact h.2
theorem digB_len {k : Nat} {l : List UInt8} (h : digB k l = true) : 1 ≤ l.length ∧ l.length ≤ k := by
  unfold digB at h
  simp only [Bool.and_eq_true, decide_eq_true_eq, Bool.not_eq_true', List.isEmpty_eq_false_iff] at h
  have := len_pos h.1.1.1
  exact ⟨this, h.1.1.2⟩
theorem digV_num {k : Nat} {l : List UInt8} (h : digB k l = true) (hk : k ≤ 18) : 0 ≤ digV l ∧ digV l < 1000000000000000000 := by
  have h1 := digV_bd l (digB_digs h)
  have h2 := digB_len h
  have : (10 : Int) ^ l.length ≤ 10 ^ 18 := by
    have := Nat.pow_le_pow_right (n := 10) (by omega) (show l.length ≤ 18 by omega)
    exact_mod_cast this
  have e : (10 : Int) ^ 18 = 1000000000000000000 := by decide
  omega

/-- A numeral is that of its number, and the other way round. -/
theorem dig_of {c : UInt8} (h : isDig c = true) : 48 ≤ c.toNat ∧ c.toNat ≤ 57 := by
  unfold isDig at h
  simp only [Bool.and_eq_true, decide_eq_true_eq, UInt8.le_iff_toNat_le] at h
  exact h
theorem dec_snoc (n : Nat) (h : ¬ n < 10) : Lib.decDigits n = Lib.decDigits (n / 10) ++ [UInt8.ofNat (48 + n % 10)] := by
  rw [Lib.decDigits]
  rw [dif_neg h]
theorem isDig_of (n : Nat) (h : n < 10) : isDig (UInt8.ofNat (48 + n)) = true ∧ (UInt8.ofNat (48 + n)).toNat = 48 + n := by
  have e : (UInt8.ofNat (48 + n)).toNat = 48 + n := by rw [UInt8.toNat_ofNat']; omega
  refine ⟨?_, e⟩
  unfold isDig
  simp only [Bool.and_eq_true, decide_eq_true_eq, UInt8.le_iff_toNat_le]
  rw [e]
  exact ⟨by show 48 ≤ _; omega, by show _ ≤ 57; omega⟩
theorem dec_ne (n : Nat) : Lib.decDigits n ≠ [] := by
  have h1 := Lib.decDigits_length n
  have h2 := Lib.nDigits_pos n
  intro e; rw [e] at h1; simp at h1; omega
theorem dec_good (n : Nat) : (∀ c ∈ Lib.decDigits n, isDig c = true) ∧ digV (Lib.decDigits n) = n ∧ (1 < (Lib.decDigits n).length → (Lib.decDigits n).head? ≠ some 48) := by
  induction n using Nat.strongRecOn with
  | ind n ih =>
    by_cases h : n < 10
    · rw [Lib.decDigits_one h]
      have := isDig_of n h
      refine ⟨by simpa using this.1, ?_, by simp⟩
      unfold digV
      simp only [List.foldl_cons, List.foldl_nil]
      rw [this.2]; omega
    · rw [dec_snoc n h]
      obtain ⟨h1, h2, h3⟩ := ih (n / 10) (by omega)
      have hm := isDig_of (n % 10) (by omega)
      refine ⟨fun c hc => ?_, ?_, fun _ => ?_⟩
      · rcases List.mem_append.1 hc with hc | hc
        · exact h1 c hc
        · simp only [List.mem_singleton] at hc; rw [hc]; exact hm.1
      · rw [digV_snoc, h2, hm.2]; omega
      · have hne := dec_ne (n / 10)
        rw [head_app _ hne]
        by_cases h4 : 1 < (Lib.decDigits (n / 10)).length
        · exact h3 h4
        · intro e
          have h5 : (Lib.decDigits (n / 10)).length = 1 := by have := len_pos hne; omega
          obtain ⟨x, hx⟩ := List.length_eq_one_iff.1 h5
          rw [hx] at e h2
          simp only [List.head?_cons, Option.some.injEq] at e
          rw [e] at h2
          have : digV [48] = 0 := by decide
          omega
theorem dec_B (n k : Nat) (h : (Lib.decDigits n).length ≤ k) : digB k (Lib.decDigits n) = true := by
  obtain ⟨h1, h2, h3⟩ := dec_good n
  unfold digB
  have h4 := dec_ne n
  simp only [Bool.and_eq_true, decide_eq_true_eq, Bool.not_eq_true', List.isEmpty_eq_false_iff, List.all_eq_true]
  refine ⟨⟨⟨h4, h⟩, ?_⟩, h1⟩
  by_cases h5 : 1 < (Lib.decDigits n).length
  · have := h3 h5
    simp [h5, this]
  · simp [h5]
theorem dig_unique : ∀ (k : Nat) (l m : List UInt8), l.length = k → (∀ c ∈ l, isDig c = true) → (∀ c ∈ m, isDig c = true) → digV l = digV m → l.length = m.length → l = m
  | 0, l, m, hk, _, _, _, hl => by
    rw [List.eq_nil_of_length_eq_zero hk] at hl ⊢
    exact (List.eq_nil_of_length_eq_zero (by simpa using hl.symm)).symm
  | k + 1, l, m, hk, h1, h2, hv, hl => by
    obtain ⟨l, a, rfl⟩ : ∃ x c, l = x ++ [c] := by
      rcases List.eq_nil_or_concat l with e | ⟨x, c, e⟩
      · rw [e] at hk; simp at hk
      · exact ⟨x, c, by simpa using e⟩
    obtain ⟨m, b, rfl⟩ : ∃ x c, m = x ++ [c] := by
      rcases List.eq_nil_or_concat m with e | ⟨x, c, e⟩
      · rw [e] at hl; simp at hl
      · exact ⟨x, c, by simpa using e⟩
    have ha := dig_of (h1 a (by simp))
    have hb := dig_of (h2 b (by simp))
    rw [digV_snoc, digV_snoc] at hv
    have e1 : digV l = digV m := by omega
    have e2 : a.toNat = b.toNat := by omega
    rw [dig_unique k l m (by simpa using hk) (fun c hc => h1 c (by simp [hc])) (fun c hc => h2 c (by simp [hc])) e1 (by simpa using hl), UInt8.toNat_inj.1 e2]
theorem dig_low {l : List UInt8} (h : ∀ c ∈ l, isDig c = true) (h0 : l.head? ≠ some 48) (hl : l ≠ []) : (10 : Int) ^ (l.length - 1) ≤ digV l := by
  suffices H : ∀ k, ∀ l : List UInt8, l.length = k + 1 → (∀ c ∈ l, isDig c = true) → l.head? ≠ some 48 → (10 : Int) ^ k ≤ digV l by
    have := len_pos hl
    exact H (l.length - 1) l (by omega) h h0
  intro k
  induction k with
  | zero =>
    intro l hl h h0
    obtain ⟨x, rfl⟩ := List.length_eq_one_iff.1 hl
    have := dig_of (h x (by simp))
    have h1 : x ≠ 48 := fun e => h0 (by simp [e])
    have h2 : x.toNat ≠ 48 := fun e => h1 (UInt8.toNat_inj.1 e)
    unfold digV
    simp only [List.foldl_cons, List.foldl_nil, Int.pow_zero]
    omega
  | succ k ih =>
    intro l hl h h0
    obtain ⟨l, a, rfl⟩ : ∃ x c, l = x ++ [c] := by
      rcases List.eq_nil_or_concat l with e | ⟨x, c, e⟩
      · rw [e] at hl; simp at hl
      · exact ⟨x, c, by simpa using e⟩
    have hne : l ≠ [] := fun e => by rw [e] at hl; simp at hl
    rw [head_app _ hne] at h0
    have := ih l (by simpa using hl) (fun c hc => h c (by simp [hc])) h0
    have ha := dig_of (h a (by simp))
    rw [digV_snoc, Int.pow_succ]
    omega
theorem digV_len (l : List UInt8) (h : ∀ c ∈ l, isDig c = true) (hl : l ≠ []) (h0 : 1 < l.length → l.head? ≠ some 48) : Lib.decDigits (digV l).toNat = l := by
  obtain ⟨g1, g2, g3⟩ := dec_good (digV l).toNat
  have hb := digV_bd l h
  have hp := len_pos hl
  have hv : digV l = digV (Lib.decDigits (digV l).toNat) := by rw [g2]; omega
  have hb2 := digV_bd _ g1
  have hp2 := len_pos (dec_ne (digV l).toNat)
  refine (dig_unique _ l _ rfl h g1 hv ?_).symm
  generalize Lib.decDigits (digV l).toNat = m at *
  have key : ∀ (a b : List UInt8), (∀ c ∈ a, isDig c = true) → a ≠ [] → 1 ≤ b.length → (1 < a.length → a.head? ≠ some 48) → digV a = digV b → digV b < 10 ^ b.length → a.length ≤ b.length := by
    intro a b ha hne hb1 h1 he hlt
    by_cases hlt2 : a.length ≤ b.length
    · exact hlt2
    · have := dig_low ha (h1 (by omega)) hne
      have h5 : (10 : Int) ^ b.length ≤ 10 ^ (a.length - 1) := by
        have := Nat.pow_le_pow_right (n := 10) (by omega) (show b.length ≤ a.length - 1 by omega)
        exact_mod_cast this
      omega
  have k1 := key l m h hl hp2 h0 hv hb2.2
  have k2 := key m l g1 (fun e => by rw [e] at hp2; simp at hp2) hp g3 hv.symm hb.2
  omega
/-- A line with its end: whether it is a word and a numeral; its number. -/
def lnB (w : List UInt8) (k : Nat) (l : List UInt8) : Bool := l.getLast? == some 10 && numB w k l.dropLast
def lnV (l : List UInt8) : Int := numV l.dropLast
theorem lnB_ended (w : List UInt8) (k : Nat) (p : List UInt8) : lnB w k (p ++ [10]) = numB w k p ∧ lnV (p ++ [10]) = numV p := by
  unfold lnB lnV
  simp
theorem lnB_open (w : List UInt8) (k : Nat) (p : List UInt8) (h : (10 : UInt8) ∉ p) : lnB w k p = false := by
  unfold lnB
  have : (p.getLast? == some 10) = false := by
    rw [beq_eq_false_iff_ne]
    intro e
    exact h (List.mem_of_getLast? e)
  rw [this]; rfl
/-- The lines of bytes, each with its end if it has one. -/
def linesOf (l : List UInt8) : List (List UInt8) := (cutSt 10 l).1.map (· ++ [10]) ++ if (cutSt 10 l).2 = [] then [] else [(cutSt 10 l).2]
/-- The first line that is none. -/
def badAt (w : List UInt8) (k : Nat) (L : List (List UInt8)) : Nat := L.findIdx fun l => !lnB w k l
theorem badAt_le (w : List UInt8) (k : Nat) (L : List (List UInt8)) : badAt w k L ≤ L.length := List.findIdx_le_length
theorem badAt_good {w : List UInt8} {k : Nat} {L : List (List UInt8)} {i : Nat} (h : i < badAt w k L) (hi : i < L.length) : lnB w k L[i] = true := by
  have := List.not_of_lt_findIdx h
  simpa using this
theorem badAt_bad {w : List UInt8} {k : Nat} {L : List (List UInt8)} (h : badAt w k L < L.length) : lnB w k L[badAt w k L] = false := by
  have := List.findIdx_getElem (w := h)
  simp only [Bool.not_eq_true'] at this
  exact this
theorem badAt_nil (w : List UInt8) (k : Nat) : badAt w k [] = 0 := rfl
theorem badAt_cons_good {w : List UInt8} {k : Nat} {l : List UInt8} (L : List (List UInt8)) (h : lnB w k l = true) : badAt w k (l :: L) = badAt w k L + 1 := by
  unfold badAt; rw [List.findIdx_cons]; simp [h]
theorem badAt_cons_bad {w : List UInt8} {k : Nat} {l : List UInt8} (L : List (List UInt8)) (h : lnB w k l = false) : badAt w k (l :: L) = 0 := by
  unfold badAt; rw [List.findIdx_cons]; simp [h]
theorem badAt_all {w : List UInt8} {k : Nat} : ∀ {L : List (List UInt8)}, (∀ l ∈ L, lnB w k l = true) → badAt w k L = L.length
  | [], _ => rfl
  | l :: L, h => by rw [badAt_cons_good L (h l (by simp)), badAt_all (fun x hx => h x (by simp [hx]))]; rfl
theorem all_of_badAt {w : List UInt8} {k : Nat} {L : List (List UInt8)} (h : badAt w k L = L.length) : ∀ l ∈ L, lnB w k l = true := by
  intro l hl
  obtain ⟨i, hi, rfl⟩ := List.getElem_of_mem hl
  exact badAt_good (by omega) hi
/-- What Parse returns: the integers, the index, the error. The bytes' lines: the first has the count, all others have an energy each. -/
def parseW (cw ew : List UInt8) (chk : List Int → Int) (s : List UInt8) : List Int × Nat × Int :=
  if 4096 < s.length then ([], 0, 26) else
  match linesOf s with
  | [] => ([], 0, 25)
  | d :: L => if lnB cw 9 d = false then ([], 0, 25) else
      if badAt ew 15 L < L.length then ([], badAt ew 15 L + 1, 25) else
      if lnV d ≠ L.length then ([], L.length + 1, 2) else
      if chk (L.map lnV) ≠ 0 then ([], L.length + 1, chk (L.map lnV)) else (L.map lnV, 0, 0)
theorem linesOf_nil : linesOf [] = [] := rfl
theorem linesOf_hit (p q : List UInt8) (h : (10 : UInt8) ∉ p) : linesOf (p ++ 10 :: q) = (p ++ [10]) :: linesOf q := by
  unfold linesOf
  rw [cutSt_hit 10 p q h]
  rfl
theorem linesOf_free (p : List UInt8) (h : (10 : UInt8) ∉ p) (h0 : p ≠ []) : linesOf p = [p] := by
  unfold linesOf
  rw [cutSt_free 10 p h]
  simp [h0]
theorem linesOf_back (l : List UInt8) : (linesOf l).flatten = l := by
  have h := cutSt_back 10 l
  unfold linesOf
  by_cases e : (cutSt 10 l).2 = []
  · rw [if_pos e, List.append_nil]
    rw [e, List.append_nil] at h
    exact h
  · rw [if_neg e, List.flatten_append]
    simpa using h

/-- The lines of printed integers. -/
def lineL (w : List UInt8) (n : Nat) : List UInt8 := w ++ [32] ++ Lib.decDigits n ++ [10]
theorem dig_not {c : UInt8} (h : isDig c = true) : c ≠ 10 ∧ c ≠ 32 := by
  have := dig_of h
  constructor
  · intro e; rw [e] at this; simp at this
  · intro e; rw [e] at this; simp at this
theorem lineL_body (w : List UInt8) (n k : Nat) (hw : (32 : UInt8) ∉ w) (hk : (Lib.decDigits n).length ≤ k) : lnB w k (lineL w n) = true ∧ lnV (lineL w n) = n := by
  obtain ⟨h1, h2⟩ := lnB_ended w k (w ++ [32] ++ Lib.decDigits n)
  have hg := dec_good n
  have e : cutSt 32 (w ++ [32] ++ Lib.decDigits n) = ([w], Lib.decDigits n) := by
    have := cutSt_of 32 [w] (Lib.decDigits n) (by simpa using hw) (fun hm => (dig_not (hg.1 _ hm)).2 rfl)
    simpa using this
  obtain ⟨g1, g2⟩ := numB_of (w := w) (k := k) (l := w ++ [32] ++ Lib.decDigits n) (d := Lib.decDigits n) (by rw [e]) (by rw [e]) (dec_B n k hk)
  unfold lineL
  rw [h1, h2]
  exact ⟨g1, by rw [g2]; exact hg.2.1⟩
theorem lineL_free (w : List UInt8) (n : Nat) (hw : (10 : UInt8) ∉ w) : (10 : UInt8) ∉ w ++ [32] ++ Lib.decDigits n := by
  have hg := dec_good n
  intro h
  simp only [List.mem_append, List.mem_singleton] at h
  rcases h with (h | h) | h
  · exact hw h
  · exact absurd h (by decide)
  · exact (dig_not (hg.1 _ h)).1 rfl
theorem linesOf_printed (w : List UInt8) (hw : (10 : UInt8) ∉ w) : ∀ (ns : List Nat) (q : List UInt8), linesOf ((ns.map (lineL w)).flatten ++ q) = ns.map (lineL w) ++ linesOf q
  | [], q => rfl
  | n :: ns, q => by
    have e : ((n :: ns).map (lineL w)).flatten ++ q = (w ++ [32] ++ Lib.decDigits n) ++ 10 :: ((ns.map (lineL w)).flatten ++ q) := by simp [lineL]
    rw [e, linesOf_hit _ _ (lineL_free w n hw), linesOf_printed w hw ns q]
    rfl
/-- What is printed is parsed. -/
def printL (cw ew : List UInt8) (ns : List Nat) : List UInt8 := lineL cw ns.length ++ (ns.map (lineL ew)).flatten
theorem linesOf_print (cw ew : List UInt8) (hc : (10 : UInt8) ∉ cw) (he : (10 : UInt8) ∉ ew) (ns : List Nat) (q : List UInt8) : linesOf (printL cw ew ns ++ q) = lineL cw ns.length :: (ns.map (lineL ew) ++ linesOf q) := by
  have e : printL cw ew ns ++ q = (cw ++ [32] ++ Lib.decDigits ns.length) ++ 10 :: ((ns.map (lineL ew)).flatten ++ q) := by simp [printL, lineL]
  rw [e, linesOf_hit _ _ (lineL_free cw _ hc), linesOf_printed ew he ns q]
  rfl
theorem dec_len9 (n : Nat) (h : n ≤ 1024) : (Lib.decDigits n).length ≤ 9 := by
  rw [Lib.decDigits_length]
  by_cases h0 : n < 10
  · rw [Lib.nDigits_small h0]; omega
  · by_cases h1 : n < 100
    · rw [Lib.nDigits_unique 1 n (by omega) (by omega)]; omega
    · by_cases h2 : n < 1000
      · rw [Lib.nDigits_unique 2 n (by omega) (by omega)]; omega
      · rw [Lib.nDigits_unique 3 n (by omega) (by omega)]; omega
theorem nDig_le : ∀ (k n : Nat), 1 ≤ k → n < 10 ^ k → Lib.nDigits n ≤ k
  | 0, _, h, _ => by omega
  | k + 1, n, _, h => by
    by_cases h0 : n < 10
    · rw [Lib.nDigits_small h0]; omega
    · rw [Lib.nDigits_big h0]
      have hk : 1 ≤ k := by
        rcases Nat.eq_zero_or_pos k with e | e
        · subst e; omega
        · exact e
      have := nDig_le k (n / 10) hk (by rw [Nat.pow_succ] at h; omega)
      omega
theorem dec_len15 (n : Nat) (h : n ≤ 10000000000000) : (Lib.decDigits n).length ≤ 15 := by
  rw [Lib.decDigits_length]
  exact nDig_le 15 n (by omega) (by omega)
theorem parse_print (cw ew : List UInt8) (chk : List Int → Int) (hc : (10 : UInt8) ∉ cw) (he : (10 : UInt8) ∉ ew) (hc2 : (32 : UInt8) ∉ cw) (he2 : (32 : UInt8) ∉ ew) (ns : List Nat) (hn : ns.length ≤ 1024) (hv : ∀ n ∈ ns, n ≤ 10000000000000) (hl : (printL cw ew ns).length ≤ 4096) (hk : chk (ns.map fun n : Nat => (n : Int)) = 0) :
    parseW cw ew chk (printL cw ew ns) = (ns.map fun n : Nat => (n : Int), 0, 0) := by
  have e := linesOf_print cw ew hc he ns []
  rw [List.append_nil, linesOf_nil, List.append_nil] at e
  have hcount := lineL_body cw ns.length 9 hc2 (dec_len9 _ hn)
  have hbad : badAt ew 15 (ns.map (lineL ew)) = (ns.map (lineL ew)).length := badAt_all (fun l hl => by
    obtain ⟨n, hn, rfl⟩ := List.mem_map.1 hl
    exact (lineL_body ew n 15 he2 (dec_len15 n (hv n hn))).1)
  have hvals : (ns.map (lineL ew)).map lnV = ns.map fun n : Nat => (n : Int) := by
    rw [List.map_map]
    refine List.map_congr_left fun n hn => ?_
    exact (lineL_body ew n 15 he2 (dec_len15 n (hv n hn))).2
  unfold parseW
  rw [if_neg (by omega), e]
  dsimp only
  rw [if_neg (by rw [hcount.1]; simp), if_neg (by omega), if_neg (by rw [hcount.2]; simp), hvals, if_neg (by simpa using hk)]
/-- Whatever is parsed is what is printed. -/
theorem line_again {w : List UInt8} {k : Nat} {l : List UInt8} (h : lnB w k l = true) : 0 ≤ lnV l ∧ lineL w (lnV l).toNat = l := by
  unfold lnB at h
  simp only [Bool.and_eq_true, beq_iff_eq] at h
  obtain ⟨h1, h2⟩ := h
  have hv : lnV l = digV (cutSt 32 l.dropLast).2 := numV_eq h2
  obtain ⟨h3, h4⟩ := (numB_iff _ _ _).1 h2
  have hd := digB_digs h4
  have hl := digB_len h4
  have h5 : 1 < (cutSt 32 l.dropLast).2.length → (cutSt 32 l.dropLast).2.head? ≠ some 48 := by
    intro hh e
    unfold digB at h4
    simp [hh, e] at h4
  have hb := digV_bd _ hd
  refine ⟨by rw [hv]; exact hb.1, ?_⟩
  unfold lineL
  rw [hv, digV_len _ hd (fun e => by rw [e] at hl; simp at hl) h5]
  have h6 := cutSt_back 32 l.dropLast
  rw [h3] at h6
  have h7 : l.dropLast ++ [10] = l := by
    obtain ⟨ys, e⟩ := List.getLast?_eq_some_iff.1 h1
    rw [e]; simp
  simp only [List.map_cons, List.map_nil, List.flatten_cons, List.flatten_nil, List.append_nil] at h6
  rw [h6, h7]
theorem print_parse (cw ew : List UInt8) (chk : List Int → Int) (s : List UInt8) (h : (parseW cw ew chk s).2.2 = 0) :
    chk (parseW cw ew chk s).1 = 0 ∧ (∀ z ∈ (parseW cw ew chk s).1, 0 ≤ z) ∧ printL cw ew ((parseW cw ew chk s).1.map Int.toNat) = s ∧ (parseW cw ew chk s).2.1 = 0 := by
  unfold parseW at *
  by_cases h0 : 4096 < s.length
  · rw [if_pos h0] at h; simp at h
  rw [if_neg h0] at h ⊢
  have hb := linesOf_back s
  cases hL : linesOf s with
  | nil => rw [hL] at h; simp at h
  | cons d L =>
    rw [hL] at h hb
    dsimp only at h ⊢
    by_cases h1 : lnB cw 9 d = false
    · rw [if_pos h1] at h; simp at h
    rw [if_neg h1] at h ⊢
    by_cases h2 : badAt ew 15 L < L.length
    · rw [if_pos h2] at h; simp at h
    rw [if_neg h2] at h ⊢
    by_cases h3 : lnV d ≠ L.length
    · rw [if_pos h3] at h; simp at h
    rw [if_neg h3] at h ⊢
    by_cases h4 : chk (L.map lnV) ≠ 0
    · rw [if_pos h4] at h; exact absurd h h4
    rw [if_neg h4] at h ⊢
    have hall := all_of_badAt (w := ew) (k := 15) (L := L) (by have := badAt_le ew 15 L; omega)
    have hd := line_again (by simpa using h1 : lnB cw 9 d = true)
    have h3' : lnV d = L.length := by simpa using h3
    refine ⟨by simpa using h4, fun z hz => ?_, ?_, rfl⟩
    · obtain ⟨l, hl, rfl⟩ := List.mem_map.1 hz
      exact (line_again (hall l hl)).1
    · unfold printL
      have e1 : ((L.map lnV).map Int.toNat).map (lineL ew) = L := by
        rw [List.map_map, List.map_map]
        conv => rhs; rw [← List.map_id L]
        refine List.map_congr_left fun l hl => ?_
        exact (line_again (hall l hl)).2
      have e2 : ((L.map lnV).map Int.toNat).length = L.length := by simp
      rw [e1, e2]
      have e3 : lineL cw L.length = d := by
        have := hd.2
        rw [h3'] at this
        simpa using this
      rw [e3, ← hb]
      rfl
/-- Without the last byte, and without the last line. -/
theorem parse_cut (cw ew : List UInt8) (chk : List Int → Int) (hc : (10 : UInt8) ∉ cw) (he : (10 : UInt8) ∉ ew) (hc2 : (32 : UInt8) ∉ cw) (he2 : (32 : UInt8) ∉ ew) (ns : List Nat) (hn : ns.length ≤ 1024) (hv : ∀ n ∈ ns, n ≤ 10000000000000) (hl : (printL cw ew ns).length ≤ 4096) :
    parseW cw ew chk (printL cw ew ns).dropLast = ([], ns.length, 25) := by
  have hlen : ¬ 4096 < (printL cw ew ns).dropLast.length := by rw [List.length_dropLast]; omega
  have hcount := lineL_body cw ns.length 9 hc2 (dec_len9 _ hn)
  rcases List.eq_nil_or_concat ns with e | ⟨ms, m, e⟩
  · subst e
    have e : (printL cw ew []).dropLast = cw ++ [32] ++ Lib.decDigits 0 := by
      have : printL cw ew [] = (cw ++ [32] ++ Lib.decDigits 0) ++ [10] := by simp [printL, lineL]
      rw [this, List.dropLast_concat]
    have hf := lineL_free cw 0 hc
    have e2 : linesOf (cw ++ [32] ++ Lib.decDigits 0) = [cw ++ [32] ++ Lib.decDigits 0] := linesOf_free _ hf (by simp)
    unfold parseW
    rw [if_neg hlen, e, e2]
    dsimp only
    rw [if_pos (lnB_open cw 9 _ hf)]
    rfl
  · have e : ns = ms ++ [m] := by simpa using e
    subst e
    have e : (printL cw ew (ms ++ [m])).dropLast = (cw ++ [32] ++ Lib.decDigits (ms.length + 1)) ++ 10 :: ((ms.map (lineL ew)).flatten ++ (ew ++ [32] ++ Lib.decDigits m)) := by
      have : printL cw ew (ms ++ [m]) = ((cw ++ [32] ++ Lib.decDigits (ms.length + 1)) ++ 10 :: ((ms.map (lineL ew)).flatten ++ (ew ++ [32] ++ Lib.decDigits m))) ++ [10] := by simp [printL, lineL]
      rw [this, List.dropLast_concat]
    have hf := lineL_free ew m he
    have e2 : linesOf (printL cw ew (ms ++ [m])).dropLast = lineL cw (ms.length + 1) :: (ms.map (lineL ew) ++ [ew ++ [32] ++ Lib.decDigits m]) := by
      rw [e, linesOf_hit _ _ (lineL_free cw _ hc), linesOf_printed ew he ms, linesOf_free _ hf (by simp)]
      rfl
    have hb : ∀ L : List (List UInt8), (∀ l ∈ L, lnB ew 15 l = true) → badAt ew 15 (L ++ [ew ++ [32] ++ Lib.decDigits m]) = L.length := by
      intro L
      induction L with
      | nil => intro _; exact badAt_cons_bad [] (lnB_open ew 15 _ hf)
      | cons l L ih =>
        intro h
        rw [List.cons_append, badAt_cons_good _ (h l (by simp)), ih (fun x hx => h x (by simp [hx]))]
        rfl
    have hb2 := hb (ms.map (lineL ew)) (fun l hl => by
      obtain ⟨n, hn, rfl⟩ := List.mem_map.1 hl
      exact (lineL_body ew n 15 he2 (dec_len15 n (hv n (by simp [hn])))).1)
    have hl1 : (ms ++ [m]).length = ms.length + 1 := by simp
    rw [hl1] at hcount
    unfold parseW
    rw [if_neg hlen, e2]
    dsimp only
    rw [if_neg (by rw [hcount.1]; simp), hb2, if_pos (by simp)]
    simp
theorem parse_less (cw ew : List UInt8) (chk : List Int → Int) (hc : (10 : UInt8) ∉ cw) (he : (10 : UInt8) ∉ ew) (hc2 : (32 : UInt8) ∉ cw) (he2 : (32 : UInt8) ∉ ew) (ms : List Nat) (hn : ms.length + 1 ≤ 1024) (hv : ∀ n ∈ ms, n ≤ 10000000000000) (hl : (lineL cw (ms.length + 1) ++ (ms.map (lineL ew)).flatten).length ≤ 4096) :
    parseW cw ew chk (lineL cw (ms.length + 1) ++ (ms.map (lineL ew)).flatten) = ([], ms.length + 1, 2) := by
  have hcount := lineL_body cw (ms.length + 1) 9 hc2 (dec_len9 _ hn)
  have e : linesOf (lineL cw (ms.length + 1) ++ (ms.map (lineL ew)).flatten) = lineL cw (ms.length + 1) :: ms.map (lineL ew) := by
    have e : lineL cw (ms.length + 1) ++ (ms.map (lineL ew)).flatten = (cw ++ [32] ++ Lib.decDigits (ms.length + 1)) ++ 10 :: ((ms.map (lineL ew)).flatten ++ []) := by simp [lineL]
    rw [e, linesOf_hit _ _ (lineL_free cw _ hc), linesOf_printed ew he ms, linesOf_nil, List.append_nil]
    rfl
  have hbad : badAt ew 15 (ms.map (lineL ew)) = (ms.map (lineL ew)).length := badAt_all (fun l hl => by
    obtain ⟨n, hn, rfl⟩ := List.mem_map.1 hl
    exact (lineL_body ew n 15 he2 (dec_len15 n (hv n hn))).1)
  unfold parseW
  rw [if_neg (by omega), e]
  dsimp only
  rw [if_neg (by rw [hcount.1]; simp), if_neg (by omega), if_pos (by rw [hcount.2]; simp; omega)]
  simp
end Go.Proofs.YtoipafnlcchmbaaGreatDoor
