/- Texts I2 I3 of the proof. -/
import Derived.ChangeKeysEq
import Derived.Test.YtmafmebcgmegeaaGreatDoorFz3
import Derived.Deep.Cut
namespace Go.Proofs.YtmafmebcgmegeaaGreatDoor
open Go.RowKit Go.Sort
theorem mul_in {a b m n : Int} (h1 : -m ≤ a) (h2 : a ≤ m) (h3 : -n ≤ b) (h4 : b ≤ n) : -(m * n) ≤ a * b ∧ a * b ≤ m * n := by
  have hm : 0 ≤ m := by omega
  have hn : 0 ≤ n := by omega
  have e1 : a.natAbs ≤ m.natAbs := by omega
  have e2 : b.natAbs ≤ n.natAbs := by omega
  have e3 : (a * b).natAbs ≤ (m * n).natAbs := by rw [Int.natAbs_mul, Int.natAbs_mul]; exact Nat.mul_le_mul e1 e2
  have e4 : 0 ≤ m * n := Int.mul_nonneg hm hn
  omega
theorem sq_in {a m : Int} (h1 : -m ≤ a) (h2 : a ≤ m) : 0 ≤ a * a ∧ a * a ≤ m * m := by
  have h := mul_in h1 h2 h1 h2; refine ⟨?_, h.2⟩; rcases Int.le_total 0 a with h | h
  · exact Int.mul_nonneg h h
  · have := Int.mul_nonneg (show 0 ≤ -a by omega) (show 0 ≤ -a by omega); rw [Int.neg_mul_neg] at this; exact this
theorem minus_any (x y z a b c : Int) (w : World) (hx : -1000000 ≤ x ∧ x ≤ 1000000) (hy : -1000000 ≤ y ∧ y ≤ 1000000) (hz : -1000000 ≤ z ∧ z ≤ 1000000) (ha : -1000000 ≤ a ∧ a ≤ 1000000) (hb : -1000000 ≤ b ∧ b ≤ 1000000) (hc : -1000000 ≤ c ∧ c ≤ 1000000) :
    Calls Tryz.prog 164 #[.agg #[.int .i64 x, .int .i64 y, .int .i64 z], .agg #[.int .i64 a, .int .i64 b, .int .i64 c]] w fun e w' => e = .returned (.agg #[.int .i64 (x - a), .int .i64 (y - b), .int .i64 (z - c)]) ∧ Below w.heap.size w w' := by
  obtain ⟨hx1, hx2⟩ := hx; obtain ⟨hy1, hy2⟩ := hy; obtain ⟨hz1, hz2⟩ := hz; obtain ⟨ha1, ha2⟩ := ha; obtain ⟨hb1, hb2⟩ := hb; obtain ⟨hc1, hc2⟩ := hc
  go_enter Tryz.func164, Tryz.ntmps164
  go_wp2
  (try simp only [Exit.inBlock, Exit.then])
  refine bodyPost_ret (v := .agg #[.int .i64 (x - a), .int .i64 (y - b), .int .i64 (z - c)]) (by simp [results, Tryz.results164, go_sem, asAddr]) rfl ?_; exact ⟨rfl, (((Below.refl _ _).alloc (Nat.le_refl _) _).alloc (by simp) _).alloc (by simp; omega) _⟩
theorem flat_any (x y z : Int) (w : World) :
    Calls Tryz.prog 166 #[.agg #[.int .i64 x, .int .i64 y, .int .i64 z]] w fun e w' => e = .returned (.agg #[.int .i64 x, .int .i64 y]) ∧ Below w.heap.size w w' := by
  go_enter Tryz.func166, Tryz.ntmps166
  go_wp2
  (try simp only [Exit.inBlock, Exit.then])
  refine bodyPost_ret (v := .agg #[.int .i64 x, .int .i64 y]) (by simp [results, Tryz.results166, go_sem, asAddr]) rfl ?_; exact ⟨rfl, ((Below.refl _ _).alloc (Nat.le_refl _) _).alloc (by simp) _⟩
theorem levelSquare_any (x y z : Int) (w : World) (hx : -1000000 ≤ x ∧ x ≤ 1000000) (hy : -1000000 ≤ y ∧ y ≤ 1000000) :
    Calls Tryz.prog 167 #[.agg #[.int .i64 x, .int .i64 y, .int .i64 z]] w fun e w' => e = .returned (.int .i64 (x * x + y * y)) ∧ Below w.heap.size w w' := by
  obtain ⟨a1, a2⟩ := sq_in hx.1 hx.2; obtain ⟨b1, b2⟩ := sq_in hy.1 hy.2
  go_enter Tryz.func167, Tryz.ntmps167
  go_wp2
  go_ret
  exact ⟨rfl, (Below.refl _ _).alloc (Nat.le_refl _) _⟩
set_option maxRecDepth 100000 in
theorem square_any (x y z : Int) (w : World) (hx : -1000000 ≤ x ∧ x ≤ 1000000) (hy : -1000000 ≤ y ∧ y ≤ 1000000) (hz : -1000000 ≤ z ∧ z ≤ 1000000) :
    Calls Tryz.prog 165 #[.agg #[.int .i64 x, .int .i64 y, .int .i64 z]] w fun e w' => e = .returned (.int .i64 (x * x + y * y + z * z)) ∧ Below w.heap.size w w' := by
  obtain ⟨a1, a2⟩ := sq_in hx.1 hx.2; obtain ⟨b1, b2⟩ := sq_in hy.1 hy.2; obtain ⟨c1, c2⟩ := sq_in hz.1 hz.2; have HX := Lib.hid hx; have HY := Lib.hid hy; have w1 : IntKind.i64.wrap (z * z) = z * z := IntWalk.i64_in _ (by omega); have w2 : IntKind.i64.wrap (x * x + y * y + z * z) = x * x + y * y + z * z := IntWalk.i64_in _ (by omega)
  go_enter Tryz.func165, Tryz.ntmps165
  go_wp2_with fail
  obtain ⟨w0, hw0⟩ : ∃ X, X = w.alloc (.cells #[.int .i64 x, .int .i64 y, .int .i64 z] 28) := ⟨_, rfl⟩; rw [← hw0]; have B0 : Blk w0 w.heap.size 28 #[.int .i64 x, .int .i64 y, .int .i64 z] := by rw [hw0]; exact Blk.new w _ _
  have HB : Hid (Below w.heap.size w w0) := by rw [hw0]; exact (Below.refl _ w).alloc (Nat.le_refl _) _
  have bw : ∀ d os, Below w.heap.size w (grow (redrawn w0 d) os) := fun d os => HB.out.trans ((below_regrown w0 d os).mono HB.out.size)
  clear hw0; have c0 := fun d os => cell_regrown (B0.cell 0) d os
  have c1' := fun d os => cell_regrown (B0.cell 1) d os
  have c2' := fun d os => cell_regrown (B0.cell 2) d os
  have cL := fun d os => Calls.regrown_of (levelSquare_any x y z (grow (redrawn w0 d) os) HX.out HY.out)
  clear B0; refine wp_region_quiet_below (by kernel_rfl) (by kernel_rfl) ?_
  repeat (quiet_step (first | exact cL _ _))
  refine wpQuiet_nil ?_; intro _ hw'; obtain ⟨⟨dq, osq⟩, hw''⟩ := hw'; subst hw''; go_wp2; go_ret; exact ⟨rfl, bw dq osq⟩
theorem run_eqItems_i {P : Program} (w : World) (d : Nat) {e : TypeId} {k : IntKind} (he : P.underlying e = some (.int k)) (xs ys : Array Value) (a b : Nat → Int) :
    ∀ (is : List Nat), (∀ i ∈ is, xs[i]? = some (.int k (a i)) ∧ ys[i]? = some (.int k (b i))) → (Op.eqItems (d + 1) e 1 xs ys is).run P w = .ok (is.all fun i => a i == b i) w
  | [], _ => by simp [Op.eqItems]
  | i :: is, h => by
    have h1 := h i (by simp); have ih := run_eqItems_i w d he xs ys a b is (fun j hj => h j (by simp [hj])); have hp : P.plainKey e = true := by simp [Program.plainKey, he]
    have p1 := run_part_plain (P := P) w hp h1.1; have p2 := run_part_plain (P := P) w hp h1.2; unfold Op.eqItems; simp only [Nat.mul_one, Sem.run_bind, p1, p2, Result.andThen_ok, Go.run_equalIn_int w d e k k _ _ he]
    cases hab : (a i == b i)
    · simp [hab]
    · simp only [Bool.not_true, Bool.false_eq_true, if_false]; rw [ih]
      simp [hab]
theorem eq_pair (a b c d : Int) (w : World) :
    (Op.equalIn 10000 253 (.agg #[.int .i64 a, .int .i64 b]) (.agg #[.int .i64 c, .int .i64 d])).run Tryz.prog w = .ok (a == c && b == d) w := by
  obtain ⟨i, hi⟩ : ∃ i, Tryz.prog.info? 3 = some i := Option.isSome_iff_exists.1 (by kernel_rfl); rw [run_equalIn_array w 9999 (n := 2) (e := 3) (i := i) _ _ (by kernel_rfl) hi]; rw [show Tryz.prog.cellsOf 3 = 1 by kernel_rfl]
  have h := run_eqItems_i (P := Tryz.prog) w 9998 (e := 3) (k := .i64) Tryz.underlying3 #[.int .i64 a, .int .i64 b] #[.int .i64 c, .int .i64 d] (fun j => if j = 0 then a else b) (fun j => if j = 0 then c else d) (List.range 2) (fun j hj => by
    have hj2 : j < 2 := List.mem_range.1 hj
    match j, hj2 with
    | 0, _ => exact ⟨rfl, rfl⟩
    | 1, _ => exact ⟨rfl, rfl⟩)
  rw [show ((List.range 2).all fun i => (if i = 0 then a else b) == (if i = 0 then c else d)) = (a == c && b == d) by simp [List.range_succ]] at h; exact h
attribute [local go_sem] eq_pair in
theorem ascending_any (a b : Int) (w : World) :
    Calls Tryz.prog 168 #[.agg #[.int .i64 a, .int .i64 b]] w fun e w' => e = .returned (.bool (decide (a ≤ b))) ∧ Below w.heap.size w w' := by
  rcases Int.lt_trichotomy a b with h | h | h
  · have hr : Hid (decide (a ≤ b) = true) := decide_eq_true (by omega)
    go_enter Tryz.func168, Tryz.ntmps168
    go_wp2
    go_ret
    exact ⟨ret_bool (by rw [hr.out]), (Below.refl _ _).alloc (Nat.le_refl _) _⟩
  · subst h; have hr : Hid (decide (a ≤ a) = true) := decide_eq_true (by omega)
    go_enter Tryz.func168, Tryz.ntmps168
    go_wp2
    go_ret
    exact ⟨ret_bool (by rw [hr.out]), (Below.refl _ _).alloc (Nat.le_refl _) _⟩
  · have hr : Hid (decide (a ≤ b) = false) := decide_eq_false (by omega)
    go_enter Tryz.func168, Tryz.ntmps168
    go_wp2
    go_ret
    exact ⟨ret_bool (by rw [hr.out]; simp; omega), (Below.refl _ _).alloc (Nat.le_refl _) _⟩
theorem near_in {lo hi m : Int} (h1 : -m ≤ lo) (h2 : lo ≤ m) (h3 : -m ≤ hi) (h4 : hi ≤ m) : -m ≤ Bell.nearOf lo hi ∧ Bell.nearOf lo hi ≤ m := by unfold Bell.nearOf; omega
theorem far_in {lo hi m : Int} (h1 : -m ≤ lo) (h2 : lo ≤ m) (h3 : -m ≤ hi) (h4 : hi ≤ m) : -m ≤ Bell.farOf lo hi ∧ Bell.farOf lo hi ≤ m := by unfold Bell.farOf; omega
def nearSq (a b : Int) : Int := Bell.nearOf (min a b) (max a b) * Bell.nearOf (min a b) (max a b)
def farSq (a b : Int) : Int := Bell.farOf (min a b) (max a b) * Bell.farOf (min a b) (max a b)
theorem nearSq_in {a b : Int} (h1 : -1000000 ≤ a) (h2 : a ≤ 1000000) (h3 : -1000000 ≤ b) (h4 : b ≤ 1000000) : 0 ≤ nearSq a b ∧ nearSq a b ≤ 1000000 * 1000000 := by
  have h := near_in (lo := min a b) (hi := max a b) (m := 1000000) (by omega) (by omega) (by omega) (by omega); exact sq_in h.1 h.2
theorem farSq_in {a b : Int} (h1 : -1000000 ≤ a) (h2 : a ≤ 1000000) (h3 : -1000000 ≤ b) (h4 : b ≤ 1000000) : 0 ≤ farSq a b ∧ farSq a b ≤ 1000000 * 1000000 := by
  have h := far_in (lo := min a b) (hi := max a b) (m := 1000000) (by omega) (by omega) (by omega) (by omega); exact sq_in h.1 h.2
theorem run_min2' (P : Program) (a b : Int) (ts : Array TypeId) (t : TypeId) (W : World) : (Builtin.min_ ts t #[.int .i64 a, .int .i64 b]).run P W = .ok (.int .i64 (min a b)) W := by
  rw [run_min_int2]; congr 2; split <;> omega
theorem run_max2' (P : Program) (a b : Int) (ts : Array TypeId) (t : TypeId) (W : World) : (Builtin.max_ ts t #[.int .i64 a, .int .i64 b]).run P W = .ok (.int .i64 (max a b)) W := by
  rw [run_max_int2]; congr 2; split <;> omega
theorem run_max3' (P : Program) (a b c : Int) (ts : Array TypeId) (t : TypeId) (W : World) : (Builtin.max_ ts t #[.int .i64 a, .int .i64 b, .int .i64 c]).run P W = .ok (.int .i64 (max (max a b) c)) W := by
  rw [run_max_int3]; congr 2; split <;> split <;> omega
theorem reaches_st (a b : Int) (w : World) (h1 : -1000000 ≤ a) (h2 : a ≤ 1000000) (h3 : -1000000 ≤ b) (h4 : b ≤ 1000000) :
    Calls Tryz.prog 215 #[.int .i64 a, .int .i64 b] w fun e w' => e = .returned (.agg #[.int .i64 (nearSq a b), .int .i64 (farSq a b)]) ∧ Below w.heap.size w w' := by
  have n1 := nearSq_in h1 h2 h3 h4; have n2 := farSq_in h1 h2 h3 h4; obtain ⟨L, hL⟩ : ∃ L, L = min a b := ⟨_, rfl⟩; obtain ⟨M, hM⟩ : ∃ M, M = max a b := ⟨_, rfl⟩; have l1 : -1000000 ≤ L := by omega
  have l2 : L ≤ 1000000 := by omega
  have m1 : -1000000 ≤ M := by omega
  have m2 : M ≤ 1000000 := by omega
  obtain ⟨N, hN⟩ : ∃ N, N = Bell.nearOf L M := ⟨_, rfl⟩; obtain ⟨F, hF⟩ : ∃ F, F = Bell.farOf L M := ⟨_, rfl⟩; have q1 : Hid (nearSq a b = N * N) := by show _ = _; rw [hN, hL, hM]; rfl
  have q2 : Hid (farSq a b = F * F) := by show _ = _; rw [hF, hL, hM]; rfl
  rw [q1.out] at n1; rw [q2.out] at n2; obtain ⟨n1, n1'⟩ := n1; obtain ⟨n2, n2'⟩ := n2; have r1 : ∀ ts t W, (Builtin.min_ ts t #[.int .i64 a, .int .i64 b]).run Tryz.prog W = .ok (.int .i64 L) W := fun ts t W => by rw [hL]; exact run_min2' _ _ _ _ _ _
  have r2 : ∀ ts t W, (Builtin.max_ ts t #[.int .i64 a, .int .i64 b]).run Tryz.prog W = .ok (.int .i64 M) W := fun ts t W => by rw [hM]; exact run_max2' _ _ _ _ _ _
  have r3 : ∀ ts t W, (Builtin.max_ ts t #[.int .i64 L, .int .i64 (-M), .int .i64 0]).run Tryz.prog W = .ok (.int .i64 N) W := fun ts t W => by rw [hN]; exact run_max3' _ _ _ _ _ _ _
  have r4 : ∀ ts t W, (Builtin.max_ ts t #[.int .i64 (-L), .int .i64 M]).run Tryz.prog W = .ok (.int .i64 F) W := fun ts t W => by rw [hF]; exact run_max2' _ _ _ _ _ _
  clear hL hM hN hF h1 h2 h3 h4; rw [q1.out, q2.out]
  go_enter Tryz.func215, Tryz.ntmps215
  go_wp2
  (try simp only [Exit.inBlock, Exit.then])
  refine bodyPost_ret (v := .agg #[.int .i64 (N * N), .int .i64 (F * F)]) (by simp [results, Tryz.results215, go_sem, asAddr]) rfl ?_; exact ⟨rfl, (Below.refl _ _).alloc (Nat.le_refl _) _⟩
end Go.Proofs.YtmafmebcgmegeaaGreatDoor

namespace Go.Proofs.YtmafmebcgmegeaaGreatDoor
open Go.RowKit Go.Sort
set_option maxHeartbeats 4000000 in
theorem sector_any (hx hy x y : Int) (w : World) (h1 : -1000000 ≤ hx ∧ hx ≤ 1000000) (h2 : -1000000 ≤ hy ∧ hy ≤ 1000000) (h3 : -1000000 ≤ x ∧ x ≤ 1000000) (h4 : -1000000 ≤ y ∧ y ≤ 1000000) :
    Calls Tryz.prog 92 #[.agg #[.int .i64 hx, .int .i64 hy], .agg #[.int .i64 x, .int .i64 y]] w fun e w' => e = .returned (.int .i64 (Bell.sectorOf hx hy x y : Nat)) ∧ Below w.heap.size w w' := by
  obtain ⟨a1, a2⟩ := mul_in h1.1 h1.2 h3.1 h3.2; obtain ⟨b1, b2⟩ := mul_in h2.1 h2.2 h4.1 h4.2; obtain ⟨c1, c2⟩ := mul_in h1.1 h1.2 h4.1 h4.2; obtain ⟨d1, d2⟩ := mul_in h2.1 h2.2 h3.1 h3.2; obtain ⟨u, hu⟩ : ∃ u, hx * x + hy * y = u := ⟨_, rfl⟩; obtain ⟨v, hv⟩ : ∃ v, hx * y - hy * x = v := ⟨_, rfl⟩; have u1 : -2000000000000 ≤ u ∧ u ≤ 2000000000000 := by omega
  have v1 : -2000000000000 ≤ v ∧ v ≤ 2000000000000 := by omega
  obtain ⟨u1, u2⟩ := u1; obtain ⟨v1, v2⟩ := v1; obtain ⟨S, hS⟩ : ∃ S, S = Bell.sectorOf hx hy x y := ⟨_, rfl⟩
  have hc : (S = 0 ∧ v < u ∧ 0 ≤ v) ∨ (S = 0 ∧ u = 0 ∧ v = 0) ∨ (S = 1 ∧ u ≤ v ∧ 0 < u) ∨ (S = 2 ∧ u = 0 ∧ 0 < v) ∨ (S = 2 ∧ -u < v ∧ u < 0) ∨ (S = 3 ∧ v ≤ -u ∧ 0 < v) ∨ (S = 4 ∧ u < v ∧ v ≤ 0) ∨ (S = 5 ∧ v ≤ u ∧ u < 0) ∨ (S = 6 ∧ u = 0 ∧ v < 0) ∨ (S = 6 ∧ u < -v ∧ 0 < u) ∨ (S = 7 ∧ -v ≤ u ∧ v < 0) := by
    rw [hS]; unfold Bell.sectorOf; simp only [hu, hv]; repeat' split
    all_goals (try (rename_i h; rcases h with h | h))
    all_goals (rcases Int.lt_trichotomy u 0 with hu0 | hu0 | hu0)
    all_goals (first | (exfalso; omega) | skip)
    all_goals (repeat (first | exact ⟨rfl, by omega, by omega⟩ | exact Or.inl ⟨rfl, by omega, by omega⟩ | refine Or.inr ?_))
  rw [← hS]; clear hS h1 h2 h3 h4; have HC := Lib.hid hc; clear hc
  go_enter Tryz.func92, Tryz.ntmps92
  go_upto_region 3 with fail
  have HB : Hid (Below w.heap.size w ((w.alloc (.cells #[.int .i64 hx, .int .i64 hy] 30)).alloc (.cells #[.int .i64 x, .int .i64 y] 30))) := ((Below.refl _ _).alloc (Nat.le_refl _) _).alloc (by simp) _
  generalize (w.alloc (.cells #[.int .i64 hx, .int .i64 hy] 30)).alloc (.cells #[.int .i64 x, .int .i64 y] 30) = w1 at HB ⊢
  clear a1 a2 b1 b2 c1 c2 d1 d2 hu hv; have hc := HC.out; clear HC; rcases hc with ⟨rfl, p1, p2⟩ | ⟨rfl, p1, p2⟩ | ⟨rfl, p1, p2⟩ | ⟨rfl, p1, p2⟩ | ⟨rfl, p1, p2⟩ | ⟨rfl, p1, p2⟩ | ⟨rfl, p1, p2⟩ | ⟨rfl, p1, p2⟩ | ⟨rfl, p1, p2⟩ | ⟨rfl, p1, p2⟩ | ⟨rfl, p1, p2⟩
  all_goals
    go_wp2
    all_goals
      go_ret
      exact ⟨rfl, HB.out⟩
theorem betw_in {a b p w m : Int} (hw : 0 < w) (hp : 0 ≤ p) (hq : p ≤ w) (h1 : -m ≤ a) (h2 : a ≤ m) (h3 : -m ≤ b) (h4 : b ≤ m) : -m ≤ Bell.betw a b p w ∧ Bell.betw a b p w ≤ m :=
  Bell.betw_bounds hw hp hq h1 h3 h2 h4
theorem between_st (a b p d : Int) (w : World) (h1 : -1000000000 ≤ a) (h2 : a ≤ 1000000000) (h3 : -1000000000 ≤ b) (h4 : b ≤ 1000000000) (hd : 0 < d) (hd2 : d ≤ 1000000000) (hp : 0 ≤ p) (hq : p ≤ d) :
    Calls Tryz.prog 161 #[.int .i64 a, .int .i64 b, .int .i64 p, .int .i64 d] w fun e w' => e = .returned (.int .i64 (Bell.betw a b p d)) ∧ w' = w := by
  have hr := betw_in (m := 1000000000) hd hp hq h1 h2 h3 h4; obtain ⟨m1, m2⟩ := mul_in (a := b - a) (b := p) (m := 2000000000) (n := 1000000000) (by omega) (by omega) (by omega) (by omega); obtain ⟨q, hq2⟩ : ∃ q, q = (b - a) * p / d := ⟨_, rfl⟩; have hb : Bell.betw a b p d = a + q := by rw [hq2]; rfl
  rw [hb] at hr ⊢; obtain ⟨r1, r2⟩ := hr; have HQ := Lib.hid hq2; clear hq2 hb
  go_enter Tryz.func161, Tryz.ntmps161
  go_wp2_with fail
  refine (floor_st ((b - a) * p) d _ (by omega) (by omega) (by omega) (by omega)).mono ?_; rw [← HQ.out]; rintro e w' ⟨rfl, rfl⟩; go_wp2; go_ret; exact ⟨rfl, rfl⟩
def Three (m : Int) (x y z : Int) : Prop := (-m ≤ x ∧ x ≤ m) ∧ (-m ≤ y ∧ y ≤ m) ∧ (-m ≤ z ∧ z ≤ m)
end Go.Proofs.YtmafmebcgmegeaaGreatDoor
