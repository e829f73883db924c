/- Texts I3 of the proof. -/
import Derived.Deep.Cut
import Derived.Test.YtmafmebcgmegeaaGreatDoorY6
namespace Go.Proofs.YtmafmebcgmegeaaGreatDoor
open Go.RowKit Go.Sort
set_option maxHeartbeats 4000000 in
theorem sector_any (hx hy x y : Int) (w : World) (h1 : -1000000 ≤ hx ∧ hx ≤ 1000000) (h2 : -1000000 ≤ hy ∧ hy ≤ 1000000) (h3 : -1000000 ≤ x ∧ x ≤ 1000000) (h4 : -1000000 ≤ y ∧ y ≤ 1000000) :
    Calls Tryz.prog 92 #[.agg #[.int .i64 hx, .int .i64 hy], .agg #[.int .i64 x, .int .i64 y]] w fun e w' => e = .returned (.int .i64 (Bell.sectorOf hx hy x y : Nat)) ∧ Below w.heap.size w w' := by
  obtain ⟨a1, a2⟩ := mul_in h1.1 h1.2 h3.1 h3.2
  obtain ⟨b1, b2⟩ := mul_in h2.1 h2.2 h4.1 h4.2
  obtain ⟨c1, c2⟩ := mul_in h1.1 h1.2 h4.1 h4.2
  obtain ⟨d1, d2⟩ := mul_in h2.1 h2.2 h3.1 h3.2
  obtain ⟨u, hu⟩ : ∃ u, hx * x + hy * y = u := ⟨_, rfl⟩
  obtain ⟨v, hv⟩ : ∃ v, hx * y - hy * x = v := ⟨_, rfl⟩
  have u1 : -2000000000000 ≤ u ∧ u ≤ 2000000000000 := by omega
  have v1 : -2000000000000 ≤ v ∧ v ≤ 2000000000000 := by omega
  obtain ⟨u1, u2⟩ := u1
  obtain ⟨v1, v2⟩ := v1
  obtain ⟨S, hS⟩ : ∃ S, S = Bell.sectorOf hx hy x y := ⟨_, rfl⟩
  have hc : (S = 0 ∧ v < u ∧ 0 ≤ v) ∨ (S = 0 ∧ u = 0 ∧ v = 0) ∨ (S = 1 ∧ u ≤ v ∧ 0 < u) ∨ (S = 2 ∧ u = 0 ∧ 0 < v) ∨ (S = 2 ∧ -u < v ∧ u < 0) ∨ (S = 3 ∧ v ≤ -u ∧ 0 < v) ∨ (S = 4 ∧ u < v ∧ v ≤ 0) ∨ (S = 5 ∧ v ≤ u ∧ u < 0) ∨ (S = 6 ∧ u = 0 ∧ v < 0) ∨ (S = 6 ∧ u < -v ∧ 0 < u) ∨ (S = 7 ∧ -v ≤ u ∧ v < 0) := by
    rw [hS]; unfold Bell.sectorOf; simp only [hu, hv]; repeat' split
    all_goals (try (rename_i h; rcases h with h | h))
    all_goals (rcases Int.lt_trichotomy u 0 with hu0 | hu0 | hu0)
    all_goals (first | (exfalso; omega) | skip)
    all_goals (repeat (first | exact ⟨rfl, by omega, by omega⟩ | exact Or.inl ⟨rfl, by omega, by omega⟩ | refine Or.inr ?_))
  rw [← hS]
  clear hS h1 h2 h3 h4
  have HC := Lib.hid hc
  clear hc
  go_enter Tryz.func92, Tryz.ntmps92
  go_upto_region 3 with fail
  have HB : Hid (Below w.heap.size w ((w.alloc (.cells #[.int .i64 hx, .int .i64 hy] 30)).alloc (.cells #[.int .i64 x, .int .i64 y] 30))) := ((Below.refl _ _).alloc (Nat.le_refl _) _).alloc (by simp) _
  generalize (w.alloc (.cells #[.int .i64 hx, .int .i64 hy] 30)).alloc (.cells #[.int .i64 x, .int .i64 y] 30) = w1 at HB ⊢
  clear a1 a2 b1 b2 c1 c2 d1 d2 hu hv
  have hc := HC.out
  clear HC
  rcases hc with ⟨rfl, p1, p2⟩ | ⟨rfl, p1, p2⟩ | ⟨rfl, p1, p2⟩ | ⟨rfl, p1, p2⟩ | ⟨rfl, p1, p2⟩ | ⟨rfl, p1, p2⟩ | ⟨rfl, p1, p2⟩ | ⟨rfl, p1, p2⟩ | ⟨rfl, p1, p2⟩ | ⟨rfl, p1, p2⟩ | ⟨rfl, p1, p2⟩
  all_goals
    go_wp2
    all_goals
      go_ret
      exact ⟨rfl, HB.out⟩
theorem betw_in {a b p w m : Int} (hw : 0 < w) (hp : 0 ≤ p) (hq : p ≤ w) (h1 : -m ≤ a) (h2 : a ≤ m) (h3 : -m ≤ b) (h4 : b ≤ m) : -m ≤ Bell.betw a b p w ∧ Bell.betw a b p w ≤ m :=
  Bell.betw_bounds hw hp hq h1 h3 h2 h4
theorem between_st (a b p d : Int) (w : World) (h1 : -1000000000 ≤ a) (h2 : a ≤ 1000000000) (h3 : -1000000000 ≤ b) (h4 : b ≤ 1000000000) (hd : 0 < d) (hd2 : d ≤ 1000000000) (hp : 0 ≤ p) (hq : p ≤ d) :
    Calls Tryz.prog 161 #[.int .i64 a, .int .i64 b, .int .i64 p, .int .i64 d] w fun e w' => e = .returned (.int .i64 (Bell.betw a b p d)) ∧ w' = w := by
  have hr := betw_in (m := 1000000000) hd hp hq h1 h2 h3 h4
  obtain ⟨m1, m2⟩ := mul_in (a := b - a) (b := p) (m := 2000000000) (n := 1000000000) (by omega) (by omega) (by omega) (by omega)
  obtain ⟨q, hq2⟩ : ∃ q, q = (b - a) * p / d := ⟨_, rfl⟩
  have hb : Bell.betw a b p d = a + q := by rw [hq2]; rfl
  rw [hb] at hr ⊢
  obtain ⟨r1, r2⟩ := hr
  have HQ := Lib.hid hq2
  clear hq2 hb
  go_enter Tryz.func161, Tryz.ntmps161
  go_wp2_with fail
  refine (floor_st ((b - a) * p) d _ (by omega) (by omega) (by omega) (by omega)).mono ?_
  rw [← HQ.out]
  rintro e w' ⟨rfl, rfl⟩
  go_wp2
  go_ret
  exact ⟨rfl, rfl⟩
/-- What is known of three numbers. -/
def Three (m : Int) (x y z : Int) : Prop := (-m ≤ x ∧ x ≤ m) ∧ (-m ≤ y ∧ y ≤ m) ∧ (-m ≤ z ∧ z ≤ m)
end Go.Proofs.YtmafmebcgmegeaaGreatDoor
