/- TopBellCut's walk. -/
import Derived.Test.YtnbionhahifacaaDoorIy
import Derived.Test.YtnbionhahifacaaDoorIz
import Derived.Test.YtnbionhahifacaaDoorJe
import Derived.Test.YtnbionhahifacaaDoorIn
import Derived.Test.YtnbionhahifacaaDoorQC
namespace Go.Proofs.YtnbionhahifacaaDoor
open Go.RowKit Go.Sort

/-- A track of one's own. -/
def GR.trk (n : Nat) (l : List Bell.Fx) : GR := ⟨fun v W => ∃ b o c, v = .slice (some ⟨b, o, none⟩) n c ∧ FixesAt W b o n l ∧ n ≤ c ∧ c ≤ 9223372036854775807, fun ⟨b, o, c, e, h1, h2⟩ hE => ⟨b, o, c, e, h1.keep hE, h2⟩⟩
theorem levelOf_lt (e : Int) (n : Nat) : levelOf e n < (n : Int) := by
  induction n with
  | zero => simp [levelOf]
  | succ n ih => rw [levelOf]; split <;> omega
theorem levelOf_ge (e : Int) (n : Nat) : -1 ≤ levelOf e n := by
  induction n with
  | zero => simp [levelOf]
  | succ n ih => rw [levelOf]; split <;> omega
theorem levelOf_mono {a b : Int} (h : a ≤ b) (n : Nat) : levelOf a n ≤ levelOf b n := by
  induction n with
  | zero => simp [levelOf]
  | succ n ih =>
    have := levelOf_lt a n
    rw [levelOf, levelOf]
    by_cases h1 : thr n ≤ a
    · rw [if_pos h1, if_pos (by omega)]; exact Int.le_refl _
    · rw [if_neg h1]
      split <;> omega
theorem levelR_mono {a b : Int} (h0 : 0 ≤ a) (h : a ≤ b) (h1 : b ≤ 10000000000000) : levelR a ≤ levelR b := by
  unfold levelR
  rw [if_pos ⟨h0, by omega⟩, if_pos ⟨by omega, h1⟩]
  exact levelOf_mono h 121

theorem row_far {W W' : World} {base base' : Nat} {e t : TypeId} {size size' n m c ga : Nat} {v : Value} {xs ys : List Value} (h : W.ownsRow base e size v n xs) (hg : W.grownBy W' v.ownBlock) (ho : W.ownsRow base' t size' (.slice (some ⟨ga, 0, none⟩) m c) m ys) (hlt : ga < base) : W'.ownsRow base' t size' (.slice (some ⟨ga, 0, none⟩) m c) m ys := by
  refine World.ownsRow.kept ho hg (.inr fun ej => ?_)
  have h1 := (h.lt ga (by rw [← ej]; rfl)).1
  omega
theorem sumL_upto {zs : List Int} {c : Int} (h : ∀ x, x ∈ zs → 0 ≤ x ∧ x ≤ c) : 0 ≤ zs.sum ∧ zs.sum ≤ c * zs.length := by
  induction zs with
  | nil => simp
  | cons a l ih =>
    have h1 := h a (by simp)
    have h2 := ih fun x hx => h x (by simp [hx])
    simp only [List.sum_cons, List.length_cons]
    rw [Int.natCast_add, Int.mul_add]
    omega
theorem firstE_zeros {l : List Int} (h : ∀ e, e ∈ l → e = 0) : firstE l = 0 := by
  induction l with
  | nil => rfl
  | cons a l ih =>
    unfold firstE
    rw [if_pos (h a (by simp))]
    exact ih fun e he => h e (by simp [he])
theorem sum_small {zs : List Int} (h : ∀ x, x ∈ zs → 0 ≤ x ∧ x ≤ 200000000) (hl : zs.length ≤ 150) : checkEnergiesE zs = 0 ∧ sumErr zs = 0 ∧ sumVal zs = zs.sum := by
  have h1 : checkEnergiesE zs = 0 := by
    unfold checkEnergiesE
    have a1 : atMostE zs.length 1024 = 0 := by unfold atMostE; rw [if_neg (by omega)]
    have a2 : firstInE checkEnergyE zs = 0 := by
      unfold firstInE
      refine firstE_zeros ?_
      intro e he
      obtain ⟨x, hx, rfl⟩ := List.mem_map.1 he
      have := h x hx
      exact withinE_of this.1 (by omega)
    rw [a1, a2]
    rfl
  have h2 := sumL_upto h
  have h3 : zs.sum ≤ 10000000000000 := by
    have : (zs.length : Int) ≤ 150 := by omega
    have h4 : (200000000 : Int) * zs.length ≤ 200000000 * 150 := by omega
    omega
  refine ⟨h1, ?_, ?_⟩
  · unfold sumErr overE
    rw [if_pos h1, sumL_sum, if_neg (by omega)]
  · unfold sumVal capE
    rw [if_pos h1, sumL_sum, if_neg (by omega)]
theorem maxAt_spec (zs : List Int) : ∀ k, 0 < k → (∀ j, j < k → zs.getD j 0 ≤ zs.getD (maxAt zs k) 0) ∧ (∀ j, j < maxAt zs k → zs.getD j 0 < zs.getD (maxAt zs k) 0) := by
  intro k
  induction k with
  | zero => intro h; omega
  | succ k ih =>
    intro _
    rcases Nat.eq_zero_or_pos k with rfl | hk
    · have e : maxAt zs 1 = 0 := by rw [maxAt, if_neg (by simp [maxAt])]; rfl
      rw [e]
      exact ⟨fun j hj => by obtain rfl : j = 0 := (by omega); exact Int.le_refl _, fun j hj => by omega⟩
    · obtain ⟨h1, h2⟩ := ih hk
      by_cases h : zs.getD (maxAt zs k) 0 < zs.getD k 0
      · rw [maxAt_hit h]
        refine ⟨fun j hj => ?_, fun j hj => ?_⟩
        · by_cases hjk : j = k
          · rw [hjk]; exact Int.le_refl _
          · have := h1 j (by omega); omega
        · have := h1 j hj; omega
      · rw [maxAt_miss h]
        refine ⟨fun j hj => ?_, h2⟩
        by_cases hjk : j = k
        · rw [hjk]; omega
        · exact h1 j (by omega)
/-- The greatest of what is heard, by both. -/
theorem most_both {T : Bell.Ty} (gT : Bell.GoodTy T) {l : List Bell.Fx} {r : Bell.Pl} {f0 : Int} {L : Nat} (hf : f0 = (Bell.fxAt l 0).t) (hL : (Bell.allOf T l r).length = L) (h1 : 1 ≤ L) :
    Bell.maxF (Bell.heardAt T l r) f0 L = ((Bell.allOf T l r).getD (maxAt (Bell.allOf T l r) L) 0, f0 + (maxAt (Bell.allOf T l r) L : Int)) := by
  obtain ⟨k1, k2⟩ := maxAt_spec (Bell.allOf T l r) L h1
  have hlt := maxAt_lt (Bell.allOf T l r) L h1
  have at_ : ∀ j, j < L → (Bell.allOf T l r).getD j 0 = Bell.heardAt T l r (f0 + j) := fun j hj => by rw [Bell.all_at (by rw [hL]; exact hj), hf]
  have := Bell.first_most (f := Bell.heardAt T l r) (a := f0) (n := L) (i := maxAt (Bell.allOf T l r) L) (fun i hi => (Bell.heard_range gT _ r).1) hlt
    (fun j hj => by rw [← at_ j hj, ← at_ _ hlt]; exact k1 j hj) (fun j hj => by rw [← at_ j (by omega), ← at_ _ hlt]; exact k2 j hj)
  rw [this, at_ _ hlt]
theorem expo_none {T : Bell.Ty} {l : List Bell.Fx} {r : Bell.Pl} {a : Int} (h1 : (Bell.fxAt l 0).t ≤ a) (h2 : a ≤ (Bell.fxAt l (l.length - 1)).t) : Bell.expoOf T l r a a = 0 := by
  rw [Bell.expo_in h1 h2, Int.sub_self]
  rfl
/-- The four ticks at which the track is cut. -/
def cutAt (a b c d : Int) : Nat → Int
  | 0 => a
  | 1 => b
  | 2 => c
  | _ => d
theorem cut_in {a b c d : Int} (h1 : a ≤ b) (h2 : b ≤ c) (h3 : c ≤ d) (k : Nat) (hk : k < 3) : a ≤ cutAt a b c d k ∧ cutAt a b c d k ≤ cutAt a b c d (k + 1) ∧ cutAt a b c d (k + 1) ≤ d := by
  match k, hk with
  | 0, _ => simp only [cutAt]; omega
  | 1, _ => simp only [cutAt]; omega
  | 2, _ => simp only [cutAt]; omega
theorem expo_two {T : Bell.Ty} {l : List Bell.Fx} {r : Bell.Pl} {a b c : Int} (h0 : (Bell.fxAt l 0).t ≤ a) (h1 : a ≤ b) (h2 : b ≤ c) (h3 : c ≤ (Bell.fxAt l (l.length - 1)).t) : Bell.expoOf T l r a b + Bell.expoOf T l r b c = Bell.expoOf T l r a c := by
  have := Bell.expo_cuts (T := T) (l := l) (r := r) h0 (Int.le_refl a) h1 h2 h3
  rw [expo_none h0 (by omega)] at this
  omega
theorem cut_tail (ga k ca cn : Nat) (h1 : cn < k) (h2 : k ≤ ca) (w : World) : (Instr.sliceAt 22 (.slice (some ⟨ga, 0, none⟩) k ca) (some (.int .i64 (cn : Int))) none none).run Tryd.prog w = .ok (.slice (some ⟨ga, cn, none⟩) (k - cn) (ca - cn)) w := by
  have b1 : (0 : Int) ≤ (cn : Int) := by omega
  have b2 : (cn : Int) ≤ (k : Int) := by omega
  have b3 : (k : Int) ≤ (ca : Int) := by omega
  have b4 : (cn : Int) ≤ (ca : Int) := by omega
  have h : ¬ ca = cn := by omega
  go_simp
  first | done | omega | (intro h3; omega)
theorem cut_head (ga k ca cn : Nat) (h1 : cn ≤ k) (h2 : k ≤ ca) (w : World) : (Instr.sliceAt 22 (.slice (some ⟨ga, 0, none⟩) k ca) none (some (.int .i64 (cn : Int))) none).run Tryd.prog w = .ok (.slice (some ⟨ga, 0, none⟩) cn ca) w := by
  have b1 : (0 : Int) ≤ (cn : Int) := by omega
  have b2 : (cn : Int) ≤ (ca : Int) := by omega
  go_simp

set_option maxHeartbeats 4000000 in
set_option maxRecDepth 100000 in
theorem bellCut_walk {nm : ByteArray} {sh : List Int} {T : Bell.Ty} {sa : Option Addr} {sn sc : Nat} {qa : Option Addr} {qn qc : Nat} {ga : Option Addr} {gn gc : Nat} {cs : Array Value} (A : Option Addr) (n c : Nat) (l : List Bell.Fx) (r : Bell.Pl) (c0 c1 tu : Int) (w : World) (hT : RTy w cs nm sh T sa sn sc qa qn qc ga gn gc) (hd8 : T.direct.length = 8) (hm : gn ≤ 140737488351232) (hl : TrAt w A n l)
    (hc0 : 0 ≤ c0 ∧ c0 ≤ 65535) (hc1 : 0 ≤ c1 ∧ c1 ≤ 65535) (htu : 0 ≤ tu ∧ tu ≤ 255) (hs : Steps w) :
    Calls Tryd.prog 3 #[.agg cs, .slice A n c, .agg #[.int .i64 r.x, .int .i64 r.y, .int .i64 r.z, .int .u16 c0, .int .u16 c1, .int .u8 tu]] w fun e w' => e = .returned (.bool true) ∧ Below w.heap.size w w' := by
  have HT := Lib.hid hT
  have HL := Lib.hid hl
  have HST := Lib.hid hs
  have HC0 := Lib.hid hc0
  have HC1 := Lib.hid hc1
  have HTU := Lib.hid htu
  have IT : Hid ((Tryd.prog.info? 26).map (·.size) = some cs.size) := by show _ = _; rw [hT.cells]; kernel_rfl
  clear hT hl hs hc0 hc1 htu
  go_enter Tryd.func3, Tryd.ntmps3
  go_upto_region 1 with fail
  obtain ⟨w1, hw1⟩ : ∃ W, W = (w.alloc (.cells cs 26)).alloc (.cells #[.int .i64 r.x, .int .i64 r.y, .int .i64 r.z, .int .u16 c0, .int .u16 c1, .int .u8 tu] 33) := ⟨_, rfl⟩
  rw [← hw1]
  have T1 : Hid (Blk w1 w.heap.size 26 cs) := by show Blk _ _ _ _; rw [hw1]; exact (Blk.new _ _ _).alloc _
  have X1 : Hid (Blk w1 (w.heap.size + 1) 33 #[.int .i64 r.x, .int .i64 r.y, .int .i64 r.z, .int .u16 c0, .int .u16 c1, .int .u8 tu]) := by show Blk _ _ _ _; rw [hw1]; exact Blk.at_size _ _ (by simp)
  have HB1 : Hid (Below w.heap.size w w1) := by show Below _ _ _; rw [hw1]; exact ((Below.refl _ _).alloc (Nat.le_refl _) _).alloc (by simp) _
  obtain ⟨g, hg⟩ : ∃ g, g = w.heap.size := ⟨_, rfl⟩
  obtain ⟨g5, hg5⟩ : ∃ g5, g5 = w.heap.size + 1 := ⟨_, rfl⟩
  rw [← hg5] at X1 ⊢
  rw [← hg] at T1 ⊢
  have HG5 : Hid (g < w1.heap.size ∧ g5 < w1.heap.size) := by show _ ∧ _; rw [hw1, hg, hg5]; simp; omega
  clear hw1 hg hg5
  have x0 := X1.out.cell 0
  have x1 := X1.out.cell 1
  have x2 := X1.out.cell 2
  simp only [List.getElem?_toArray, List.getElem?_cons_zero, List.getElem?_cons_succ] at x0 x1 x2
  go_wp2_with (refine wpList_load_row rfl 26 _ rfl g rfl 26 cs (0, 0) _ T1.out Tryd.underlying26 rfl IT.out ?_)
  refine (bellShort_any A n c l r 150 w1 (HT.out.keep HB1.out) hd8 hm (HL.out.keep HB1.out)).mono ?_
  rintro e w2 ⟨bb, rfl, hbb, hb2⟩
  have HB2 := Lib.hid (HB1.out.trans (hb2.mono HB1.out.size))
  have HW2 := Lib.hid hb2
  clear hb2 x0 x1 x2
  cases bb
  · go_wp2_with fail
    refine (bellSum_any w2 (HST.out.keep HB2.out)).mono ?_
    rintro e w3 ⟨rfl, hb3⟩
    have HB3 := Lib.hid (HB2.out.trans (hb3.mono HB2.out.size))
    clear hb3
    go_wp2
    go_ret
    exact ⟨rfl, HB3.out⟩
  have OK := Lib.hid (hbb.out rfl)
  clear hbb
  have hn6 : n ≤ 6 := OK.out.few
  have hnl : Hid (l.length = n) := HL.out.1
  have hn2 : 2 ≤ n := by have h1 := OK.out.tr.lo; rw [hnl.out] at h1; exact h1
  obtain ⟨b, off, rfl, hF⟩ := HL.out.2 (by omega)
  obtain ⟨m, hmn⟩ : ∃ m, m + 1 = n := ⟨n - 1, by omega⟩
  obtain ⟨f0, hf0⟩ : ∃ x, x = (Bell.fxAt l 0).t := ⟨_, rfl⟩
  obtain ⟨f1, hf1⟩ : ∃ x, x = (Bell.fxAt l (l.length - 1)).t := ⟨_, rfl⟩
  have hml : l.length - 1 = m := by rw [hnl.out]; omega
  have u0 : 0 ≤ f0 := by rw [hf0]; exact (OK.out.tr.pts 0 (by rw [hnl.out]; omega)).t0
  have u1 : f1 ≤ 100000000 := by rw [hf1]; exact (OK.out.tr.pts _ (by rw [hnl.out]; omega)).t1
  have u2 : f0 < f1 := by rw [hf0, hf1, hml]; exact OK.out.tr.up 0 m (by omega) (by rw [hnl.out]; omega)
  have u3 : f1 - f0 ≤ 150 := by have h1 := OK.out.span; rw [← hf0, ← hf1] at h1; exact h1
  obtain ⟨L, hL⟩ : ∃ L : Nat, (L : Int) = f1 - f0 := ⟨(f1 - f0).toNat, by omega⟩
  have HRG := Lib.hid (Bell.all_range OK.out.ty.ty l r)
  have HALL : Hid ((Bell.allOf T l r).length = L) := by show _ = _; rw [Bell.all_len, ← hf0, ← hf1]; omega
  have hL1 : 1 ≤ L := by omega
  have hL2 : L ≤ 150 := by omega
  have HF0 := Lib.hid hf0
  have HF1 := Lib.hid hf1
  have HFX := Lib.hid hF
  have HML := Lib.hid hml
  have HMN := Lib.hid hmn
  have HLL := Lib.hid hL
  have HW0 := Lib.hid u2
  clear hF hf0 hf1 hml hmn hL u2
  have T2 := Lib.hid (T1.out.below HW2.out)
  have X2 := Lib.hid (X1.out.below HW2.out)
  have x0 := X2.out.cell 0
  have x1 := X2.out.cell 1
  have x2 := X2.out.cell 2
  simp only [List.getElem?_toArray, List.getElem?_cons_zero, List.getElem?_cons_succ] at x0 x1 x2
  go_wp2_with (refine wpList_load_row rfl 26 _ rfl g rfl 26 cs (0, 0) _ T2.out Tryd.underlying26 rfl IT.out ?_)
  refine (bellHeard_any (some ⟨b, off, none⟩) n c l r w2 (HT.out.keep HB2.out) OK.out.ty OK.out.name OK.out.short.name (HL.out.keep HB2.out) OK.out.tr OK.out.pl).mono ?_
  rintro e w3 ⟨v, rfl, hO, hb3⟩
  obtain ⟨qa9, m9, ca, rfl, hz9⟩ := hO.slice
  obtain rfl : m9 = L := by rw [← hz9.1]; exact HALL.out
  obtain ⟨⟨ga, rfl⟩, hca1, hca2⟩ := hO.room (by omega)
  have HB3 := Lib.hid (HB2.out.trans (hb3.mono HB2.out.size))
  have HO3 : Hid (OwnI w3 w1.heap.size (.slice (some ⟨ga, 0, none⟩) m9 ca) (Bell.allOf T l r)) := hO.mono HW2.out.size
  have HW3 := Lib.hid (HW2.out.trans (hb3.mono HW2.out.size))
  clear hO hb3 hz9 x0 x1 x2 T2 X2 HW2 HB2
  go_upto_region 6 with fail
  refine wp_region_grow 13 (by kernel_rfl) (by kernel_rfl) [GR.eq (.slice (some ⟨b, off, none⟩) n c), GR.eq (.pointer (some ⟨b, off, none⟩)), GR.eq (.pointer (some ⟨b, off, none⟩)), GR.eq (.int .i64 f0), GR.eq (.slice (some ⟨b, off, none⟩) n c), GR.eq (.slice (some ⟨b, off, none⟩) n c), GR.eq (.int .i64 n), GR.eq (.int .i64 m), GR.eq (.pointer (some ⟨b, off + m * 5, none⟩)), GR.eq (.pointer (some ⟨b, off + m * 5, none⟩)), GR.eq (.int .i64 f1), GR.eq (.agg #[.int .i64 f0, .int .i64 f1]), GR.new w1.heap.size 41 #[.int .i64 0, .int .i64 0]] 261 rfl (by kernel_rfl) ?_ ?_
  · refine ⟨?_, ?_, ?_, ?_, ?_, ?_, ?_, ?_, ?_, ?_, ?_, ?_, ?_, trivial⟩
    · intro a W hE hd ho
      have e1 : a.tmps[1]?.getD undef = .slice (some ⟨b, off, none⟩) n c := ho 1 (by kernel_rfl)
      exact gs_same (v := .slice (some ⟨b, off, none⟩) n c) (by go_simp) rfl
    · intro a W hE hd ho
      have e49 : a.tmps[49]?.getD undef = .slice (some ⟨b, off, none⟩) n c := hd 0 49 (by kernel_rfl) (by kernel_rfl)
      have pl : ¬ n = 0 := by omega
      exact gs_same (v := .pointer (some ⟨b, off, none⟩)) (by go_simp) rfl
    · intro a W hE hd ho
      have e50 : a.tmps[50]?.getD undef = .pointer (some ⟨b, off, none⟩) := hd 1 50 (by kernel_rfl) (by kernel_rfl)
      exact gs_same (v := .pointer (some ⟨b, off, none⟩)) (by go_simp) rfl
    · intro a W hE hd ho
      have e51 : a.tmps[51]?.getD undef = .pointer (some ⟨b, off, none⟩) := hd 2 51 (by kernel_rfl) (by kernel_rfl)
      have k0 := ((HFX.out.keep (HB3.out.trans (hE.below.mono HB3.out.size))).2 0 (by omega)).1
      rw [← HF0.out] at k0
      simp only [Nat.zero_mul, Nat.add_zero] at k0
      exact gs_same (v := .int .i64 f0) (by go_simp) rfl
    · intro a W hE hd ho
      have e1 : a.tmps[1]?.getD undef = .slice (some ⟨b, off, none⟩) n c := ho 1 (by kernel_rfl)
      exact gs_same (v := .slice (some ⟨b, off, none⟩) n c) (by go_simp) rfl
    · intro a W hE hd ho
      have e1 : a.tmps[1]?.getD undef = .slice (some ⟨b, off, none⟩) n c := ho 1 (by kernel_rfl)
      exact gs_same (v := .slice (some ⟨b, off, none⟩) n c) (by go_simp) rfl
    · intro a W hE hd ho
      have e54 : a.tmps[54]?.getD undef = .slice (some ⟨b, off, none⟩) n c := hd 5 54 (by kernel_rfl) (by kernel_rfl)
      exact gs_same (v := .int .i64 n) (by go_simp) rfl
    · intro a W hE hd ho
      have e55 : a.tmps[55]?.getD undef = .int .i64 n := hd 6 55 (by kernel_rfl) (by kernel_rfl)
      have wk : IntKind.i64.wrap ((n : Int) - 1) = (m : Int) := by rw [IntWalk.i64_in _ (by omega)]; have := HMN.out; omega
      exact gs_same (v := .int .i64 m) (by go_simp) rfl
    · intro a W hE hd ho
      have e53 : a.tmps[53]?.getD undef = .slice (some ⟨b, off, none⟩) n c := hd 4 53 (by kernel_rfl) (by kernel_rfl)
      have e56 : a.tmps[56]?.getD undef = .int .i64 m := hd 7 56 (by kernel_rfl) (by kernel_rfl)
      have pl : (m : Int) < (n : Int) := by have := HMN.out; omega
      exact gs_same (v := .pointer (some ⟨b, off + m * 5, none⟩)) (by go_simp) rfl
    · intro a W hE hd ho
      have e57 : a.tmps[57]?.getD undef = .pointer (some ⟨b, off + m * 5, none⟩) := hd 8 57 (by kernel_rfl) (by kernel_rfl)
      exact gs_same (v := .pointer (some ⟨b, off + m * 5, none⟩)) (by go_simp) rfl
    · intro a W hE hd ho
      have e58 : a.tmps[58]?.getD undef = .pointer (some ⟨b, off + m * 5, none⟩) := hd 9 58 (by kernel_rfl) (by kernel_rfl)
      have k0 := ((HFX.out.keep (HB3.out.trans (hE.below.mono HB3.out.size))).2 m (by have := HMN.out; omega)).1
      rw [← HML.out, ← HF1.out, HML.out] at k0
      exact gs_same (v := .int .i64 f1) (by go_simp) rfl
    · intro a W hE hd ho
      have e52 : a.tmps[52]?.getD undef = .int .i64 f0 := hd 3 52 (by kernel_rfl) (by kernel_rfl)
      have e59 : a.tmps[59]?.getD undef = .int .i64 f1 := hd 10 59 (by kernel_rfl) (by kernel_rfl)
      exact gs_same (v := .agg #[.int .i64 f0, .int .i64 f1]) (by go_simp) rfl
    · intro a W hE hd ho
      refine gs_val (v := .pointer (some ⟨W.heap.size, 0, none⟩)) (W' := W.alloc (.cells #[.int .i64 0, .int .i64 0] 41)) (by go_simp) ((Below.refl _ _).alloc (Nat.le_refl _) _) ⟨_, rfl, Nat.le_trans HW3.out.size hE.below.size, Blk.new _ _ _⟩
  intro v6 w4 hE hR
  have y0 : v6 0 = .slice (some ⟨b, off, none⟩) n c := hR 0 (by omega)
  have y1 : v6 1 = .pointer (some ⟨b, off, none⟩) := hR 1 (by omega)
  have y2 : v6 2 = .pointer (some ⟨b, off, none⟩) := hR 2 (by omega)
  have y3 : v6 3 = .int .i64 f0 := hR 3 (by omega)
  have y4 : v6 4 = .slice (some ⟨b, off, none⟩) n c := hR 4 (by omega)
  have y5 : v6 5 = .slice (some ⟨b, off, none⟩) n c := hR 5 (by omega)
  have y6 : v6 6 = .int .i64 n := hR 6 (by omega)
  have y7 : v6 7 = .int .i64 m := hR 7 (by omega)
  have y8 : v6 8 = .pointer (some ⟨b, off + m * 5, none⟩) := hR 8 (by omega)
  have y9 : v6 9 = .pointer (some ⟨b, off + m * 5, none⟩) := hR 9 (by omega)
  have y10 : v6 10 = .int .i64 f1 := hR 10 (by omega)
  have y11 : v6 11 = .agg #[.int .i64 f0, .int .i64 f1] := hR 11 (by omega)
  obtain ⟨g9, y12, h9, P9⟩ : ∃ g, v6 12 = .pointer (some ⟨g, 0, none⟩) ∧ w1.heap.size ≤ g ∧ Blk w4 g 41 #[.int .i64 0, .int .i64 0] := hR 12 (by omega)
  simp only [List.range, List.range.loop, List.foldl_cons, List.foldl_nil, y0, y1, y2, y3, y4, y5, y6, y7, y8, y9, y10, y11, y12, List.drop_succ_cons, List.drop_zero]
  simp only [dstAt, List.getElem?_toArray, List.getElem?_cons_zero, List.getElem?_cons_succ, Option.bind_some, Act.put, List.setIfInBounds_toArray, List.set_cons_zero, List.set_cons_succ]
  clear y0 y1 y2 y3 y4 y5 y6 y7 y8 y9 y10 y11 y12 hR
  refine wpList_store_row rfl 41 _ _ rfl g9 #[.int .i64 f0, .int .i64 f1] rfl rfl 41 _ P9 (by kernel_rfl) rfl (by simp [Value.oneCell']) ?_
  obtain ⟨w5, hw5⟩ : ∃ W, W = w4.setRow g9 #[.int .i64 f0, .int .i64 f1] := ⟨_, rfl⟩
  rw [← hw5]
  have S5 : Hid (Blk w5 g9 41 #[.int .i64 f0, .int .i64 f1]) := by show Blk _ _ _ _; rw [hw5]; exact P9.setRow _
  have HO5 : Hid (OwnI w5 w1.heap.size (.slice (some ⟨ga, 0, none⟩) m9 ca) (Bell.allOf T l r)) := by show OwnI _ _ _ _; rw [hw5]; exact OwnI.in_row (HO3.out.below hE) P9 (by decide) _
  have HW5 : Hid (Below w1.heap.size w1 w5) := by show Below _ _ _; rw [hw5]; exact (HW3.out.trans (hE.below.mono HW3.out.size)).setRow' h9 _
  have HB5 := Lib.hid (HB1.out.trans (HW5.out.mono HB1.out.size))
  have T5 := Lib.hid (T1.out.below HW5.out)
  have X5 := Lib.hid (X1.out.below HW5.out)
  have H9 := Lib.hid h9
  clear hw5 P9 h9 hE HO3 HW3 HB3
  go_upto_region 7 with fail
  obtain ⟨N, hN⟩ : ∃ N, N = Bell.expoOf T l r f0 f1 := ⟨_, rfl⟩
  have HN := Lib.hid hN
  clear hN
  refine wp_region_grow 12 (by kernel_rfl) (by kernel_rfl) [GR.eq (.agg cs), GR.tyOk nm sh T sn qn gn, GR.eq (.slice (some ⟨b, off, none⟩) n c), GR.trk n l, GR.eq (.agg #[.int .i64 f0, .int .i64 f1]), GR.eq (.pointer (some ⟨g5, 0, none⟩)), GR.eq (.agg #[.int .i64 r.x, .int .i64 r.y, .int .i64 r.z]), GR.eq (.tuple #[.int .i64 N, .int .i64 0]), GR.eq (.tuple #[.int .i64 N, .int .i64 0]), GR.eq (.int .i64 N), GR.eq (.int .i64 0), GR.eq (.int .i64 N)] 261 rfl (by kernel_rfl) ?_ ?_
  · refine ⟨?_, ?_, ?_, ?_, ?_, ?_, ?_, ?_, ?_, ?_, ?_, ?_, trivial⟩
    · intro a W hE hd ho
      have e3 : a.tmps[3]?.getD undef = .pointer (some ⟨g, 0, none⟩) := ho 3 (by kernel_rfl)
      exact gs_load 26 (.tmp 3) rfl ⟨g, 0, none⟩ (.agg cs) ((eval_getD _ _).trans e3) ((T5.out.below hE).lv Tryd.prog Tryd.underlying26 rfl IT.out) rfl
    · intro a W hE hd ho
      have e62 : a.tmps[62]?.getD undef = .agg cs := hd 0 62 (by kernel_rfl) (by kernel_rfl)
      refine gs_call (f := 8) (args := #[.agg cs]) (by go_simp) ?_
      refine (bellType_any W (HT.out.keep (HB5.out.trans (hE.below.mono HB5.out.size))) OK.out.ty OK.out.name OK.out.short.name).mono ?_
      rintro e w9 ⟨cs', sa', sc', qb, qo, qc', gb, go, gc', rfl, h1, h2⟩
      exact ⟨_, rfl, h2, cs', sa', sc', qb, qo, qc', gb, go, gc', rfl, h1⟩
    · intro a W hE hd ho
      have e1 : a.tmps[1]?.getD undef = .slice (some ⟨b, off, none⟩) n c := ho 1 (by kernel_rfl)
      exact gs_same (v := .slice (some ⟨b, off, none⟩) n c) (by go_simp) rfl
    · intro a W hE hd ho
      have e64 : a.tmps[64]?.getD undef = .slice (some ⟨b, off, none⟩) n c := hd 2 64 (by kernel_rfl) (by kernel_rfl)
      refine gs_call (f := 9) (args := #[.slice (some ⟨b, off, none⟩) n c]) (by go_simp) ?_
      refine (bellTrack_any _ n c l W (HL.out.keep (HB5.out.trans (hE.below.mono HB5.out.size))) (by omega)).mono ?_
      rintro e w9 ⟨A9, c9, rfl, h1, h2, h3⟩
      obtain ⟨b9, o9, rfl, h4⟩ := h1.2 (by omega)
      exact ⟨_, rfl, h3, b9, o9, c9, rfl, h4, h2.1, h2.2⟩
    · intro a W hE hd ho
      have e9 : a.tmps[9]?.getD undef = .pointer (some ⟨g9, 0, none⟩) := ho 9 (by kernel_rfl)
      have q0 := (S5.out.below hE).cell 0
      have q1 := (S5.out.below hE).cell 1
      simp only [List.getElem?_toArray, List.getElem?_cons_zero, List.getElem?_cons_succ] at q0 q1
      exact gs_same (v := .agg #[.int .i64 f0, .int .i64 f1]) (by go_simp) rfl
    · intro a W hE hd ho
      have e5 : a.tmps[5]?.getD undef = .pointer (some ⟨g5, 0, none⟩) := ho 5 (by kernel_rfl)
      exact gs_same (v := .pointer (some ⟨g5, 0, none⟩)) (by go_simp) rfl
    · intro a W hE hd ho
      have e67 : a.tmps[67]?.getD undef = .pointer (some ⟨g5, 0, none⟩) := hd 5 67 (by kernel_rfl) (by kernel_rfl)
      have q0 := (X5.out.below hE).cell 0
      have q1 := (X5.out.below hE).cell 1
      have q2 := (X5.out.below hE).cell 2
      simp only [List.getElem?_toArray, List.getElem?_cons_zero, List.getElem?_cons_succ] at q0 q1 q2
      exact gs_same (v := .agg #[.int .i64 r.x, .int .i64 r.y, .int .i64 r.z]) (by go_simp) rfl
    · intro a W hE hd ho
      have e66 : a.tmps[66]?.getD undef = .agg #[.int .i64 f0, .int .i64 f1] := hd 4 66 (by kernel_rfl) (by kernel_rfl)
      have e68 : a.tmps[68]?.getD undef = .agg #[.int .i64 r.x, .int .i64 r.y, .int .i64 r.z] := hd 6 68 (by kernel_rfl) (by kernel_rfl)
      obtain ⟨cs', sa', sc', qb, qo, qc', gb, go, gc', e63, h1⟩ : ∃ cs sa sc qb qo qc gb go gc, a.tmps[63]?.getD undef = .agg cs ∧ TyOk W cs nm sh T sa sn sc qb qo qn qc gb go gn gc := hd 1 63 (by kernel_rfl) (by kernel_rfl)
      obtain ⟨b9, o9, c9, e65, h2, h3, h4⟩ : ∃ b o c, a.tmps[65]?.getD undef = .slice (some ⟨b, o, none⟩) n c ∧ FixesAt W b o n l ∧ n ≤ c ∧ c ≤ 9223372036854775807 := hd 3 65 (by kernel_rfl) (by kernel_rfl)
      refine gs_call (f := 7) (args := #[.agg cs', .slice (some ⟨b9, o9, none⟩) n c9, .agg #[.int .i64 f0, .int .i64 f1], .agg (plV r)]) (by unfold plV; go_simp) ?_
      refine (Exposure_ok b9 o9 n c9 l f0 f1 r W h1 h2 OK.out.tr OK.out.pl u0 (Int.le_of_lt HW0.out) u1).mono ?_
      rintro e w9 ⟨rfl, h5⟩
      exact ⟨_, rfl, h5, by rw [← HN.out]; rfl⟩
    · intro a W hE hd ho
      have e69 : a.tmps[69]?.getD undef = .tuple #[.int .i64 N, .int .i64 0] := hd 7 69 (by kernel_rfl) (by kernel_rfl)
      exact gs_same (v := .tuple #[.int .i64 N, .int .i64 0]) (by go_simp) rfl
    · intro a W hE hd ho
      have e61 : a.tmps[61]?.getD undef = .tuple #[.int .i64 N, .int .i64 0] := hd 8 61 (by kernel_rfl) (by kernel_rfl)
      exact gs_same (v := .int .i64 N) (by go_simp) rfl
    · intro a W hE hd ho
      have e61 : a.tmps[61]?.getD undef = .tuple #[.int .i64 N, .int .i64 0] := hd 8 61 (by kernel_rfl) (by kernel_rfl)
      exact gs_same (v := .int .i64 0) (by go_simp) rfl
    · intro a W hE hd ho
      have e70 : a.tmps[70]?.getD undef = .int .i64 N := hd 9 70 (by kernel_rfl) (by kernel_rfl)
      exact gs_same (v := .int .i64 N) (by go_simp) rfl
  intro v7 w6 hE hR
  have y0 : v7 0 = .agg cs := hR 0 (by omega)
  obtain ⟨z1, y1⟩ : ∃ v, v7 1 = v := ⟨_, rfl⟩
  have y2 : v7 2 = .slice (some ⟨b, off, none⟩) n c := hR 2 (by omega)
  obtain ⟨z3, y3⟩ : ∃ v, v7 3 = v := ⟨_, rfl⟩
  have y4 : v7 4 = .agg #[.int .i64 f0, .int .i64 f1] := hR 4 (by omega)
  have y5 : v7 5 = .pointer (some ⟨g5, 0, none⟩) := hR 5 (by omega)
  have y6 : v7 6 = .agg #[.int .i64 r.x, .int .i64 r.y, .int .i64 r.z] := hR 6 (by omega)
  have y7 : v7 7 = .tuple #[.int .i64 N, .int .i64 0] := hR 7 (by omega)
  have y8 : v7 8 = .tuple #[.int .i64 N, .int .i64 0] := hR 8 (by omega)
  have y9 : v7 9 = .int .i64 N := hR 9 (by omega)
  have y10 : v7 10 = .int .i64 0 := hR 10 (by omega)
  have y11 : v7 11 = .int .i64 N := hR 11 (by omega)
  simp only [List.range, List.range.loop, List.foldl_cons, List.foldl_nil, y0, y1, y2, y3, y4, y5, y6, y7, y8, y9, y10, y11, List.drop_succ_cons, List.drop_zero]
  simp only [dstAt, List.getElem?_toArray, List.getElem?_cons_zero, List.getElem?_cons_succ, Option.bind_some, Act.put, List.setIfInBounds_toArray, List.set_cons_zero, List.set_cons_succ]
  clear y0 y1 y2 y3 y4 y5 y6 y7 y8 y9 y10 y11 hR
  have HW6 := Lib.hid (HW5.out.trans (hE.below.mono HW5.out.size))
  have HB6 := Lib.hid (HB1.out.trans (HW6.out.mono HB1.out.size))
  have T6 := Lib.hid (T1.out.below HW6.out)
  have X6 := Lib.hid (X1.out.below HW6.out)
  have S6 := Lib.hid (S5.out.below hE)
  have HO6 := Lib.hid (HO5.out.below hE)
  clear hE T5 X5 S5 HO5 HW5 HB5
  obtain ⟨by_, hby⟩ : ∃ q : Nat, (q : Int) = tu % (m9 : Int) := ⟨(tu % (m9 : Int)).toNat, by have := Int.emod_nonneg tu (show (m9 : Int) ≠ 0 by omega); omega⟩
  have hbl : by_ < m9 := by have := Int.emod_lt_of_pos tu (show (0 : Int) < (m9 : Int) by omega); omega
  have HBY := Lib.hid hby
  have x5 := X6.out.cell 5
  simp only [List.getElem?_toArray, List.getElem?_cons_zero, List.getElem?_cons_succ] at x5
  have tu0 := HTU.out.1
  have tu1 := HTU.out.2
  clear hby
  go_upto_region 9 with fail
  rw [show tu % (m9 : Int) = (by_ : Int) from HBY.out.symm]
  have hs1 := fun W => cut_tail ga m9 ca by_ hbl hca1 W
  have hs2 := fun W => cut_head ga m9 ca by_ (Nat.le_of_lt hbl) hca1 W
  have HS1 := Lib.hid hs1
  have HS2 := Lib.hid hs2
  have ID : Hid (IntsAt w6 (some ⟨ga, by_, none⟩) (m9 - by_) ((Bell.allOf T l r).drop by_)) := by
    have h1 := HO6.out.at_
    refine ⟨by rw [List.length_drop, HALL.out], fun h0 => ⟨ga, by_, rfl, fun i hi => ?_⟩⟩
    obtain ⟨b3, o3, he, hh⟩ := h1.2 (by omega)
    cases he
    have h3 := hh (by_ + i) (by omega)
    rw [Nat.zero_add] at h3
    rw [h3]
    simp [List.getD_eq_getElem?_getD, List.getElem?_drop]
  have IK : Hid (IntsAt w6 (some ⟨ga, 0, none⟩) by_ ((Bell.allOf T l r).take by_)) := by
    have h1 := HO6.out.at_
    refine ⟨by rw [List.length_take, HALL.out]; omega, fun h0 => ⟨ga, 0, rfl, fun i hi => ?_⟩⟩
    obtain ⟨b3, o3, he, hh⟩ := h1.2 (by omega)
    cases he
    rw [hh i (by omega)]
    simp [List.getD_eq_getElem?_getD, List.getElem?_take, hi]
  clear hs1 hs2 x5 tu0 tu1
  refine wp_region_growA 8 (by kernel_rfl) (by kernel_rfl) [GR.bare, GR.eq (.slice (some ⟨ga, 0, none⟩) m9 ca), GR.eq (.int .i64 (by_ : Int)), GR.eq (.slice (some ⟨ga, by_, none⟩) (m9 - by_) (ca - by_)), GR.ints w6.heap.size ((Bell.allOf T l r).drop by_), GR.eq (.slice (some ⟨ga, 0, none⟩) m9 ca), GR.eq (.int .i64 (by_ : Int)), GR.eq (.slice (some ⟨ga, 0, none⟩) by_ ca)] 261 rfl (by kernel_rfl) ?_ ?_
  · refine ⟨?_, ?_, ?_, ?_, ?_, ?_, ?_, ?_, trivial⟩
    · intro a W hE hd ho
      refine gs_val (v := .slice (some ⟨W.heap.size, 0, none⟩) 0 0) (W' := W.alloc (.cells #[] 3)) (by go_simp) ((Below.refl _ _).alloc (Nat.le_refl _) _) ⟨_, rfl⟩
    · intro a W hE hd ho
      have e7 : a.tmps[7]?.getD undef = .slice (some ⟨ga, 0, none⟩) m9 ca := ho 7 (by kernel_rfl)
      exact gs_same (v := .slice (some ⟨ga, 0, none⟩) m9 ca) (by go_simp) rfl
    · intro a W hE hd ho
      have e12 : a.tmps[12]?.getD undef = .int .i64 (by_ : Int) := ho 12 (by kernel_rfl)
      exact gs_same (v := .int .i64 (by_ : Int)) (by go_simp) rfl
    · intro a W hE hd ho
      have e80 : a.tmps[80]?.getD undef = .slice (some ⟨ga, 0, none⟩) m9 ca := hd 1 80 (by kernel_rfl) (by kernel_rfl)
      have e81 : a.tmps[81]?.getD undef = .int .i64 (by_ : Int) := hd 2 81 (by kernel_rfl) (by kernel_rfl)
      have hs1 := HS1.out W
      refine gs_same (v := .slice (some ⟨ga, by_, none⟩) (m9 - by_) (ca - by_)) ?_ rfl
      simp only [execOp, eval_getD, e80, e81, Option.map_some, Option.map_none, Sem.run_bind, hs1, Result.andThen_ok, Sem.run_pure]
    · intro a W hE hd ho
      have e82 : a.tmps[82]?.getD undef = .slice (some ⟨ga, by_, none⟩) (m9 - by_) (ca - by_) := hd 3 82 (by kernel_rfl) (by kernel_rfl)
      have es : ∃ g, a.tmps[79]?.getD undef = .slice (some ⟨g, 0, none⟩) 0 0 := hd 0 79 (by kernel_rfl) (by kernel_rfl)
      exact gs_copy (.tmp 79) (.tmp 82) rfl (by rw [eval_getD]; exact es) ((eval_getD _ _).trans e82) (ID.out.keep hE) (by omega) (by omega) hE.below.size
    · intro a W hE hd ho
      have e7 : a.tmps[7]?.getD undef = .slice (some ⟨ga, 0, none⟩) m9 ca := ho 7 (by kernel_rfl)
      exact gs_same (v := .slice (some ⟨ga, 0, none⟩) m9 ca) (by go_simp) rfl
    · intro a W hE hd ho
      have e12 : a.tmps[12]?.getD undef = .int .i64 (by_ : Int) := ho 12 (by kernel_rfl)
      exact gs_same (v := .int .i64 (by_ : Int)) (by go_simp) rfl
    · intro a W hE hd ho
      have e84 : a.tmps[84]?.getD undef = .slice (some ⟨ga, 0, none⟩) m9 ca := hd 5 84 (by kernel_rfl) (by kernel_rfl)
      have e85 : a.tmps[85]?.getD undef = .int .i64 (by_ : Int) := hd 6 85 (by kernel_rfl) (by kernel_rfl)
      have hs2 := HS2.out W
      refine gs_same (v := .slice (some ⟨ga, 0, none⟩) by_ ca) ?_ rfl
      simp only [execOp, eval_getD, e84, e85, Option.map_some, Option.map_none, Sem.run_bind, hs2, Result.andThen_ok, Sem.run_pure]
  intro v9 w7 hE hR
  obtain ⟨z0, y0⟩ : ∃ v, v9 0 = v := ⟨_, rfl⟩
  have y1 : v9 1 = .slice (some ⟨ga, 0, none⟩) m9 ca := hR 1 (by omega)
  have y2 : v9 2 = .int .i64 (by_ : Int) := hR 2 (by omega)
  have y3 : v9 3 = .slice (some ⟨ga, by_, none⟩) (m9 - by_) (ca - by_) := hR 3 (by omega)
  obtain ⟨z4, y4, o4⟩ : ∃ v, v9 4 = v ∧ OwnI w7 w6.heap.size v ((Bell.allOf T l r).drop by_) := ⟨_, rfl, hR 4 (by omega)⟩
  have y5 : v9 5 = .slice (some ⟨ga, 0, none⟩) m9 ca := hR 5 (by omega)
  have y6 : v9 6 = .int .i64 (by_ : Int) := hR 6 (by omega)
  have y7 : v9 7 = .slice (some ⟨ga, 0, none⟩) by_ ca := hR 7 (by omega)
  simp only [List.range, List.range.loop, List.foldl_cons, List.foldl_nil, y0, y1, y2, y3, y4, y5, y6, y7, List.drop_succ_cons, List.drop_zero]
  simp only [dstAt, List.getElem?_toArray, List.getElem?_cons_zero, List.getElem?_cons_succ, Option.bind_some, Act.put, List.setIfInBounds_toArray, List.set_cons_zero, List.set_cons_succ]
  clear y0 y1 y2 y3 y4 y5 y6 y7 hR
  have HE7 := Lib.hid hE
  have HW7 := Lib.hid (HW6.out.trans (hE.below.mono HW6.out.size))
  have o4' : w7.ownsRow w6.heap.size 3 1 z4 (m9 - by_) (((Bell.allOf T l r).drop by_).map (Value.int .i64)) := by have h1 := o4; unfold OwnI at h1; rwa [List.length_drop, HALL.out] at h1
  have IK7 := IK.out.keep hE
  have hs7 := hE.below.size
  clear hE
  obtain ⟨i0, hi, hz0, hz1, hz2⟩ := info_parts infoInt
  refine any_next (fuel := 6) (k := 8) (by kernel_rfl) rfl rfl ?_
  refine wp_append_own w7 (.tmp 83) (.tmp 86) 22 rfl w6.heap.size 3 i0 (.int .i64 0) 1 8 Tryd.underlying22 hi hz0 hz1 hz2 rfl (by decide) z4 (m9 - by_) _ rfl o4' ⟨ga, 0, none⟩ by_ ca (((Bell.allOf T l r).take by_).map (Value.int .i64)) rfl (by rw [List.length_map, IK7.1, Nat.mul_one]) IK7.cellsAt (ints_cell1 _) (by unfold maxLen; omega) (by omega) hs7 ?_
  intro v' w8 hown' hgrow _
  have hga : ga < w6.heap.size := by obtain ⟨cur, h1⟩ := row_type HO6.out (b := ga) rfl; exact (Array.getElem?_eq_some_iff.1 h1).1
  have HO8 : Hid (OwnI w8 w1.heap.size (.slice (some ⟨ga, 0, none⟩) m9 ca) (Bell.allOf T l r)) := by
    have h1 := HO6.out.below HE7.out
    unfold OwnI at h1
    rw [HALL.out] at h1
    have h2 := row_far o4' hgrow h1 hga
    show OwnI _ _ _ _
    unfold OwnI
    rw [HALL.out]
    exact h2
  have T8 := Lib.hid (row_blk o4' hgrow (T6.out.below HE7.out) (by decide))
  have X8 := Lib.hid (row_blk o4' hgrow (X6.out.below HE7.out) (by decide))
  have S8 := Lib.hid (row_blk o4' hgrow (S6.out.below HE7.out) (by decide))
  have HW8 : Hid (Below w1.heap.size w1 w8) := Below.grown HW7.out hgrow HW7.out.size (fun j hj => Nat.le_trans HW6.out.size (o4'.lt j hj).1)
  have HB8 := Lib.hid (HB1.out.trans (HW8.out.mono HB1.out.size))
  have o8 : OwnI w8 w6.heap.size v' ((Bell.allOf T l r).drop by_ ++ (Bell.allOf T l r).take by_) := by
    unfold OwnI
    rw [List.length_append, List.length_drop, List.length_take, HALL.out, Nat.min_eq_left (Nat.le_of_lt hbl), List.map_append]
    exact hown'
  have hlz : ((Bell.allOf T l r).drop by_ ++ (Bell.allOf T l r).take by_).length = m9 := by rw [List.length_append, List.length_drop, List.length_take, HALL.out, Nat.min_eq_left (Nat.le_of_lt hbl)]; omega
  obtain ⟨A8, n8, c8, rfl, hz8⟩ := o8.slice
  obtain rfl : m9 = n8 := by rw [← hz8.1]; exact hlz.symm
  obtain ⟨hv0, hv1, hv2⟩ := sum_small (zs := ((Bell.allOf T l r).drop by_ ++ (Bell.allOf T l r).take by_)) (fun x hx => HRG.out x (by rcases List.mem_append.1 hx with h | h; exact List.mem_of_mem_drop h; exact List.mem_of_mem_take h)) (by rw [hlz]; exact hL2)
  have hv3 : ((Bell.allOf T l r).drop by_ ++ (Bell.allOf T l r).take by_).sum = N := by rw [Bell.all_sum, ← HF0.out, ← HF1.out, ← HN.out]
  rw [hv3] at hv2
  have HZ8 := Lib.hid hz8
  have HV1 := Lib.hid hv1
  have HV2 := Lib.hid hv2
  clear hown' hgrow o4' o8 hlz hz8 hv0 hv1 hv2 hv3 T6 X6 S6 HO6 HW6 HW7 HE7 HB6 IK7 ID IK HS1 HS2 hs7 hga
  simp only [Act.put, List.setIfInBounds_toArray, List.set_cons_zero, List.set_cons_succ]
  refine any_next (fuel := 5) (k := 9) (by kernel_rfl) rfl rfl (wp_enter_call (f := 10) (args := #[.slice A8 m9 c8]) (by go_simp) ?_)
  refine (Sum_any A8 m9 c8 ((Bell.allOf T l r).drop by_ ++ (Bell.allOf T l r).take by_) w8 HZ8.out (by omega)).mono ?_
  rw [HV1.out, HV2.out]
  rintro e w9 ⟨rfl, hb9⟩
  refine ⟨_, rfl, ?_⟩
  have HW9 := Lib.hid (HW8.out.trans (hb9.mono HW8.out.size))
  have HB9 := Lib.hid (HB1.out.trans (HW9.out.mono HB1.out.size))
  have T9 := Lib.hid (T8.out.below hb9)
  have X9 := Lib.hid (X8.out.below hb9)
  have S9 := Lib.hid (S8.out.below hb9)
  have HO9 := Lib.hid (HO8.out.below hb9)
  clear hb9 T8 X8 S8 HO8 HW8 HB8 HZ8 HV1 HV2
  simp only [Act.put, List.setIfInBounds_toArray, List.set_cons_zero, List.set_cons_succ]
  refine any_take (fuel := 4) (k := 10) (v := .tuple #[.int .i64 N, .int .i64 0]) rfl (by kernel_rfl) (by kernel_rfl) (by kernel_rfl) (fun _ _ _ h => h) rfl (fun w => by go_simp) ?_
  simp only [Act.put, List.setIfInBounds_toArray, List.set_cons_zero, List.set_cons_succ]
  refine any_take (fuel := 3) (k := 11) (v := .int .i64 N) rfl (by kernel_rfl) (by kernel_rfl) (by kernel_rfl) (fun _ _ _ h => h) rfl (fun w => by go_simp) ?_
  simp only [Act.put, List.setIfInBounds_toArray, List.set_cons_zero, List.set_cons_succ]
  refine any_take (fuel := 2) (k := 12) (v := .int .i64 0) rfl (by kernel_rfl) (by kernel_rfl) (by kernel_rfl) (fun _ _ _ h => h) rfl (fun w => by go_simp) ?_
  simp only [Act.put, List.setIfInBounds_toArray, List.set_cons_zero, List.set_cons_succ]
  refine any_take (fuel := 1) (k := 13) (v := .int .i64 N) rfl (by kernel_rfl) (by kernel_rfl) (by kernel_rfl) (fun _ _ _ h => h) rfl (fun w => by go_simp) ?_
  simp only [Act.put, List.setIfInBounds_toArray, List.set_cons_zero, List.set_cons_succ]
  refine any_take (fuel := 0) (k := 14) (v := .int .i64 0) rfl (by kernel_rfl) (by kernel_rfl) (by kernel_rfl) (fun _ _ _ h => h) rfl (fun w => by go_simp) ?_
  simp only [Act.put, List.setIfInBounds_toArray, List.set_cons_zero, List.set_cons_succ]
  refine any_done (by kernel_rfl) ?_
  have hN0 := (Bell.expo_range OK.out.ty.ty OK.out.tr r f0 f1).1
  have hN1 := (Bell.expo_range OK.out.ty.ty OK.out.tr r f0 f1).2
  rw [← HN.out] at hN0 hN1
  have hNE : checkEnergyE N = 0 := withinE_of hN0 (by omega)
  have HNE := Lib.hid hNE
  have HN0 := Lib.hid hN0
  have HN1 := Lib.hid hN1
  clear hNE hN0 hN1
  go_wp2_with fail
  refine (Level_any N w9 (HST.out.keep HB9.out)).mono ?_
  rw [HNE.out]
  rintro e w10 ⟨rfl, hb10⟩
  obtain ⟨lv, hlv⟩ : ∃ x, x = levelR N := ⟨_, rfl⟩
  rw [← hlv]
  have HLV := Lib.hid hlv
  have HWa := Lib.hid (HW9.out.trans (hb10.mono HW9.out.size))
  have HBa := Lib.hid (HB1.out.trans (HWa.out.mono HB1.out.size))
  have Ta := Lib.hid (T9.out.below hb10)
  have Xa := Lib.hid (X9.out.below hb10)
  have Sa := Lib.hid (S9.out.below hb10)
  have HOa := Lib.hid (HO9.out.below hb10)
  clear hlv hb10 T9 X9 S9 HO9 HW9 HB9
  have nn : (N != N) = false := by simp
  have HQa := Lib.hid (And.intro (Int.emod_nonneg c0 (show (m9 : Int) + 1 ≠ 0 by omega)) (Int.emod_lt_of_pos c0 (show (0 : Int) < (m9 : Int) + 1 by omega)))
  obtain ⟨q0, hq0⟩ : ∃ q, q = c0 % ((m9 : Int) + 1) := ⟨_, rfl⟩
  rw [← hq0] at HQa
  have q00 : 0 ≤ q0 := HQa.out.1
  have q01 : q0 ≤ (m9 : Int) := by have := HQa.out.2; omega
  have HQ0 := Lib.hid hq0
  have d11 : f0 + q0 ≤ f1 := by have := HLL.out; omega
  have d12 : f0 + q0 ≤ 100000000 := by omega
  clear hq0 HQa
  go_upto_region 17 with fail
  refine wp_region_grow 17 (by kernel_rfl) (by kernel_rfl) [GR.eq (.pointer (some ⟨g9, 0, none⟩)), GR.eq (.int .i64 f0), GR.eq (.pointer (some ⟨g9, 0, none⟩)), GR.eq (.int .i64 f0), GR.eq (.pointer (some ⟨g5, 3, none⟩)), GR.eq (.pointer (some ⟨g5, 3, none⟩)), GR.eq (.int .u16 c0), GR.eq (.int .i64 c0), GR.eq (.slice (some ⟨ga, 0, none⟩) m9 ca), GR.eq (.int .i64 m9), GR.eq (.int .i64 ((m9 : Int) + 1)), GR.eq (.int .i64 q0), GR.eq (.int .i64 (f0 + q0)), GR.eq (.pointer (some ⟨g9, 1, none⟩)), GR.eq (.int .i64 f1), GR.eq (.agg #[.int .i64 f0, .int .i64 (f0 + q0), .int .i64 0, .int .i64 f1]), GR.new w10.heap.size 53 #[.int .i64 0, .int .i64 0, .int .i64 0, .int .i64 0]] 261 rfl (by kernel_rfl) ?_ ?_
  · refine ⟨?_, ?_, ?_, ?_, ?_, ?_, ?_, ?_, ?_, ?_, ?_, ?_, ?_, ?_, ?_, ?_, ?_, trivial⟩
    · intro a W hE hd ho
      have e9 : a.tmps[9]?.getD undef = .pointer (some ⟨g9, 0, none⟩) := ho 9 (by kernel_rfl)
      exact gs_same (v := .pointer (some ⟨g9, 0, none⟩)) (by go_simp) rfl
    · intro a W hE hd ho
      have e116 : a.tmps[116]?.getD undef = .pointer (some ⟨g9, 0, none⟩) := hd 0 116 (by kernel_rfl) (by kernel_rfl)
      have k0 := (Sa.out.below hE).cell 0
      simp only [List.getElem?_toArray, List.getElem?_cons_zero, List.getElem?_cons_succ] at k0
      exact gs_same (v := .int .i64 f0) (by go_simp) rfl
    · intro a W hE hd ho
      have e9 : a.tmps[9]?.getD undef = .pointer (some ⟨g9, 0, none⟩) := ho 9 (by kernel_rfl)
      exact gs_same (v := .pointer (some ⟨g9, 0, none⟩)) (by go_simp) rfl
    · intro a W hE hd ho
      have e118 : a.tmps[118]?.getD undef = .pointer (some ⟨g9, 0, none⟩) := hd 2 118 (by kernel_rfl) (by kernel_rfl)
      have k0 := (Sa.out.below hE).cell 0
      simp only [List.getElem?_toArray, List.getElem?_cons_zero, List.getElem?_cons_succ] at k0
      exact gs_same (v := .int .i64 f0) (by go_simp) rfl
    · intro a W hE hd ho
      have e5 : a.tmps[5]?.getD undef = .pointer (some ⟨g5, 0, none⟩) := ho 5 (by kernel_rfl)
      exact gs_same (v := .pointer (some ⟨g5, 3, none⟩)) (by go_simp) rfl
    · intro a W hE hd ho
      have e120 : a.tmps[120]?.getD undef = .pointer (some ⟨g5, 3, none⟩) := hd 4 120 (by kernel_rfl) (by kernel_rfl)
      exact gs_same (v := .pointer (some ⟨g5, 3, none⟩)) (by go_simp) rfl
    · intro a W hE hd ho
      have e121 : a.tmps[121]?.getD undef = .pointer (some ⟨g5, 3, none⟩) := hd 5 121 (by kernel_rfl) (by kernel_rfl)
      have k3 := (Xa.out.below hE).cell 3
      simp only [List.getElem?_toArray, List.getElem?_cons_zero, List.getElem?_cons_succ] at k3
      exact gs_same (v := .int .u16 c0) (by go_simp) rfl
    · intro a W hE hd ho
      have e122 : a.tmps[122]?.getD undef = .int .u16 c0 := hd 6 122 (by kernel_rfl) (by kernel_rfl)
      have v0 := HC0.out.1
      have v1 := HC0.out.2
      have wv : IntKind.i64.wrap c0 = c0 := IntWalk.i64_in _ (by omega)
      exact gs_same (v := .int .i64 c0) (by go_simp) rfl
    · intro a W hE hd ho
      have e7 : a.tmps[7]?.getD undef = .slice (some ⟨ga, 0, none⟩) m9 ca := ho 7 (by kernel_rfl)
      exact gs_same (v := .slice (some ⟨ga, 0, none⟩) m9 ca) (by go_simp) rfl
    · intro a W hE hd ho
      have e124 : a.tmps[124]?.getD undef = .slice (some ⟨ga, 0, none⟩) m9 ca := hd 8 124 (by kernel_rfl) (by kernel_rfl)
      exact gs_same (v := .int .i64 m9) (by go_simp) rfl
    · intro a W hE hd ho
      have e125 : a.tmps[125]?.getD undef = .int .i64 m9 := hd 9 125 (by kernel_rfl) (by kernel_rfl)
      have wv : IntKind.i64.wrap ((m9 : Int) + 1) = (m9 : Int) + 1 := IntWalk.i64_in _ (by omega)
      exact gs_same (v := .int .i64 ((m9 : Int) + 1)) (by go_simp) rfl
    · intro a W hE hd ho
      have e123 : a.tmps[123]?.getD undef = .int .i64 c0 := hd 7 123 (by kernel_rfl) (by kernel_rfl)
      have e126 : a.tmps[126]?.getD undef = .int .i64 ((m9 : Int) + 1) := hd 10 126 (by kernel_rfl) (by kernel_rfl)
      have v0 := HC0.out.1
      have v1 := HC0.out.2
      have v2 : ¬ ((m9 : Int) + 1 = 0) := by omega
      have v3 : c0.tmod ((m9 : Int) + 1) = q0 := by rw [HQ0.out]; exact Int.tmod_eq_emod_of_nonneg v0
      exact gs_same (v := .int .i64 q0) (by go_simp) rfl
    · intro a W hE hd ho
      have e119 : a.tmps[119]?.getD undef = .int .i64 f0 := hd 3 119 (by kernel_rfl) (by kernel_rfl)
      have e127 : a.tmps[127]?.getD undef = .int .i64 q0 := hd 11 127 (by kernel_rfl) (by kernel_rfl)
      have wv : IntKind.i64.wrap (f0 + q0) = f0 + q0 := IntWalk.i64_in _ (by omega)
      exact gs_same (v := .int .i64 (f0 + q0)) (by go_simp) rfl
    · intro a W hE hd ho
      have e9 : a.tmps[9]?.getD undef = .pointer (some ⟨g9, 0, none⟩) := ho 9 (by kernel_rfl)
      exact gs_same (v := .pointer (some ⟨g9, 1, none⟩)) (by go_simp) rfl
    · intro a W hE hd ho
      have e129 : a.tmps[129]?.getD undef = .pointer (some ⟨g9, 1, none⟩) := hd 13 129 (by kernel_rfl) (by kernel_rfl)
      have k1 := (Sa.out.below hE).cell 1
      simp only [List.getElem?_toArray, List.getElem?_cons_zero, List.getElem?_cons_succ] at k1
      exact gs_same (v := .int .i64 f1) (by go_simp) rfl
    · intro a W hE hd ho
      have e117 : a.tmps[117]?.getD undef = .int .i64 f0 := hd 1 117 (by kernel_rfl) (by kernel_rfl)
      have e128 : a.tmps[128]?.getD undef = .int .i64 (f0 + q0) := hd 12 128 (by kernel_rfl) (by kernel_rfl)
      have e130 : a.tmps[130]?.getD undef = .int .i64 f1 := hd 14 130 (by kernel_rfl) (by kernel_rfl)
      exact gs_same (v := .agg #[.int .i64 f0, .int .i64 (f0 + q0), .int .i64 0, .int .i64 f1]) (by go_simp) rfl
    · intro a W hE hd ho
      refine gs_val (v := .pointer (some ⟨W.heap.size, 0, none⟩)) (W' := W.alloc (.cells #[.int .i64 0, .int .i64 0, .int .i64 0, .int .i64 0] 53)) (by go_simp) ((Below.refl _ _).alloc (Nat.le_refl _) _) ⟨_, rfl, hE.below.size, Blk.new _ _ _⟩
  intro v17 w11 hE hR
  have y0 : v17 0 = .pointer (some ⟨g9, 0, none⟩) := hR 0 (by omega)
  have y1 : v17 1 = .int .i64 f0 := hR 1 (by omega)
  have y2 : v17 2 = .pointer (some ⟨g9, 0, none⟩) := hR 2 (by omega)
  have y3 : v17 3 = .int .i64 f0 := hR 3 (by omega)
  have y4 : v17 4 = .pointer (some ⟨g5, 3, none⟩) := hR 4 (by omega)
  have y5 : v17 5 = .pointer (some ⟨g5, 3, none⟩) := hR 5 (by omega)
  have y6 : v17 6 = .int .u16 c0 := hR 6 (by omega)
  have y7 : v17 7 = .int .i64 c0 := hR 7 (by omega)
  have y8 : v17 8 = .slice (some ⟨ga, 0, none⟩) m9 ca := hR 8 (by omega)
  have y9 : v17 9 = .int .i64 m9 := hR 9 (by omega)
  have y10 : v17 10 = .int .i64 ((m9 : Int) + 1) := hR 10 (by omega)
  have y11 : v17 11 = .int .i64 q0 := hR 11 (by omega)
  have y12 : v17 12 = .int .i64 (f0 + q0) := hR 12 (by omega)
  have y13 : v17 13 = .pointer (some ⟨g9, 1, none⟩) := hR 13 (by omega)
  have y14 : v17 14 = .int .i64 f1 := hR 14 (by omega)
  have y15 : v17 15 = .agg #[.int .i64 f0, .int .i64 (f0 + q0), .int .i64 0, .int .i64 f1] := hR 15 (by omega)
  obtain ⟨gc_, y16, hgc, Pc⟩ : ∃ g, v17 16 = .pointer (some ⟨g, 0, none⟩) ∧ w10.heap.size ≤ g ∧ Blk w11 g 53 #[.int .i64 0, .int .i64 0, .int .i64 0, .int .i64 0] := hR 16 (by omega)
  simp only [List.range, List.range.loop, List.foldl_cons, List.foldl_nil, y0, y1, y2, y3, y4, y5, y6, y7, y8, y9, y10, y11, y12, y13, y14, y15, y16, List.drop_succ_cons, List.drop_zero]
  simp only [dstAt, List.getElem?_toArray, List.getElem?_cons_zero, List.getElem?_cons_succ, Option.bind_some, Act.put, List.setIfInBounds_toArray, List.set_cons_zero, List.set_cons_succ]
  clear y0 y1 y2 y3 y4 y5 y6 y7 y8 y9 y10 y11 y12 y13 y14 y15 y16 hR
  refine wpList_store_row rfl 53 _ _ rfl gc_ #[.int .i64 f0, .int .i64 (f0 + q0), .int .i64 0, .int .i64 f1] rfl rfl 53 _ Pc (by kernel_rfl) rfl (by simp [Value.oneCell']) ?_
  obtain ⟨w12, hw12⟩ : ∃ W, W = w11.setRow gc_ #[.int .i64 f0, .int .i64 (f0 + q0), .int .i64 0, .int .i64 f1] := ⟨_, rfl⟩
  rw [← hw12]
  have Cc : Hid (Blk w12 gc_ 53 #[.int .i64 f0, .int .i64 (f0 + q0), .int .i64 0, .int .i64 f1]) := by show Blk _ _ _ _; rw [hw12]; exact Pc.setRow _
  have hb12 : Below w10.heap.size w10 w12 := by rw [hw12]; exact hE.below.setRow' hgc _
  have HWc := Lib.hid (HWa.out.trans (hb12.mono HWa.out.size))
  have HBc := Lib.hid (HB1.out.trans (HWc.out.mono HB1.out.size))
  have Tc := Lib.hid (Ta.out.below hb12)
  have Xc := Lib.hid (Xa.out.below hb12)
  have Sc := Lib.hid (Sa.out.below hb12)
  have HOc := Lib.hid (HOa.out.below hb12)
  have Hgc : Hid (w1.heap.size ≤ gc_) := Nat.le_trans HWa.out.size hgc
  have hgs : g9 < gc_ ∧ g < gc_ ∧ g5 < gc_ ∧ ga < gc_ := by
    have h1 := lt_of_block Sa.out
    have h2 := lt_of_block Ta.out
    have h3 := lt_of_block Xa.out
    have h4 : ga < w10.heap.size := by obtain ⟨cur, h1⟩ := row_type HOa.out (b := ga) rfl; exact (Array.getElem?_eq_some_iff.1 h1).1
    omega
  have HGS := Lib.hid hgs
  clear hw12 hb12 hE Pc hgc hgs Ta Xa Sa HOa HWa HBa
  have HQb := Lib.hid (And.intro (Int.emod_nonneg c1 (show f1 - (f0 + q0) + 1 ≠ 0 by omega)) (Int.emod_lt_of_pos c1 (show (0 : Int) < f1 - (f0 + q0) + 1 by omega)))
  obtain ⟨q1, hq1⟩ : ∃ q, q = c1 % (f1 - (f0 + q0) + 1) := ⟨_, rfl⟩
  rw [← hq1] at HQb
  have HQ1 := Lib.hid hq1
  obtain ⟨d1, hd1⟩ : ∃ d, d = f0 + q0 := ⟨_, rfl⟩
  rw [← hd1] at Cc HQ1 HQb d11 d12 ⊢
  have d10 : f0 ≤ d1 := by omega
  have q10 : 0 ≤ q1 := HQb.out.1
  have d21 : d1 + q1 ≤ f1 := by have := HQb.out.2; omega
  clear hq1 hd1 HQb
  go_upto_region 18 with fail
  refine wp_region_grow 15 (by kernel_rfl) (by kernel_rfl) [GR.eq (.pointer (some ⟨gc_, 1, none⟩)), GR.eq (.int .i64 d1), GR.eq (.pointer (some ⟨g5, 3, none⟩)), GR.eq (.pointer (some ⟨g5, 4, none⟩)), GR.eq (.int .u16 c1), GR.eq (.int .i64 c1), GR.eq (.pointer (some ⟨g9, 1, none⟩)), GR.eq (.int .i64 f1), GR.eq (.pointer (some ⟨gc_, 1, none⟩)), GR.eq (.int .i64 d1), GR.eq (.int .i64 (f1 - d1)), GR.eq (.int .i64 (f1 - d1 + 1)), GR.eq (.int .i64 q1), GR.eq (.int .i64 (d1 + q1)), GR.eq (.pointer (some ⟨gc_, 2, none⟩))] 261 rfl (by kernel_rfl) ?_ ?_
  · refine ⟨?_, ?_, ?_, ?_, ?_, ?_, ?_, ?_, ?_, ?_, ?_, ?_, ?_, ?_, ?_, trivial⟩
    · intro a W hE hd ho
      have e17 : a.tmps[17]?.getD undef = .pointer (some ⟨gc_, 0, none⟩) := ho 17 (by kernel_rfl)
      exact gs_same (v := .pointer (some ⟨gc_, 1, none⟩)) (by go_simp) rfl
    · intro a W hE hd ho
      have e132 : a.tmps[132]?.getD undef = .pointer (some ⟨gc_, 1, none⟩) := hd 0 132 (by kernel_rfl) (by kernel_rfl)
      have k1 := (Cc.out.below hE).cell 1
      simp only [List.getElem?_toArray, List.getElem?_cons_zero, List.getElem?_cons_succ] at k1
      exact gs_same (v := .int .i64 d1) (by go_simp) rfl
    · intro a W hE hd ho
      have e5 : a.tmps[5]?.getD undef = .pointer (some ⟨g5, 0, none⟩) := ho 5 (by kernel_rfl)
      exact gs_same (v := .pointer (some ⟨g5, 3, none⟩)) (by go_simp) rfl
    · intro a W hE hd ho
      have e134 : a.tmps[134]?.getD undef = .pointer (some ⟨g5, 3, none⟩) := hd 2 134 (by kernel_rfl) (by kernel_rfl)
      exact gs_same (v := .pointer (some ⟨g5, 4, none⟩)) (by go_simp) rfl
    · intro a W hE hd ho
      have e135 : a.tmps[135]?.getD undef = .pointer (some ⟨g5, 4, none⟩) := hd 3 135 (by kernel_rfl) (by kernel_rfl)
      have k4 := (Xc.out.below hE).cell 4
      simp only [List.getElem?_toArray, List.getElem?_cons_zero, List.getElem?_cons_succ] at k4
      exact gs_same (v := .int .u16 c1) (by go_simp) rfl
    · intro a W hE hd ho
      have e136 : a.tmps[136]?.getD undef = .int .u16 c1 := hd 4 136 (by kernel_rfl) (by kernel_rfl)
      have v0 := HC1.out.1
      have v1 := HC1.out.2
      have wv : IntKind.i64.wrap c1 = c1 := IntWalk.i64_in _ (by omega)
      exact gs_same (v := .int .i64 c1) (by go_simp) rfl
    · intro a W hE hd ho
      have e9 : a.tmps[9]?.getD undef = .pointer (some ⟨g9, 0, none⟩) := ho 9 (by kernel_rfl)
      exact gs_same (v := .pointer (some ⟨g9, 1, none⟩)) (by go_simp) rfl
    · intro a W hE hd ho
      have e138 : a.tmps[138]?.getD undef = .pointer (some ⟨g9, 1, none⟩) := hd 6 138 (by kernel_rfl) (by kernel_rfl)
      have k1 := (Sc.out.below hE).cell 1
      simp only [List.getElem?_toArray, List.getElem?_cons_zero, List.getElem?_cons_succ] at k1
      exact gs_same (v := .int .i64 f1) (by go_simp) rfl
    · intro a W hE hd ho
      have e17 : a.tmps[17]?.getD undef = .pointer (some ⟨gc_, 0, none⟩) := ho 17 (by kernel_rfl)
      exact gs_same (v := .pointer (some ⟨gc_, 1, none⟩)) (by go_simp) rfl
    · intro a W hE hd ho
      have e140 : a.tmps[140]?.getD undef = .pointer (some ⟨gc_, 1, none⟩) := hd 8 140 (by kernel_rfl) (by kernel_rfl)
      have k1 := (Cc.out.below hE).cell 1
      simp only [List.getElem?_toArray, List.getElem?_cons_zero, List.getElem?_cons_succ] at k1
      exact gs_same (v := .int .i64 d1) (by go_simp) rfl
    · intro a W hE hd ho
      have e139 : a.tmps[139]?.getD undef = .int .i64 f1 := hd 7 139 (by kernel_rfl) (by kernel_rfl)
      have e141 : a.tmps[141]?.getD undef = .int .i64 d1 := hd 9 141 (by kernel_rfl) (by kernel_rfl)
      have wv : IntKind.i64.wrap (f1 - d1) = f1 - d1 := IntWalk.i64_in _ (by omega)
      exact gs_same (v := .int .i64 (f1 - d1)) (by go_simp) rfl
    · intro a W hE hd ho
      have e142 : a.tmps[142]?.getD undef = .int .i64 (f1 - d1) := hd 10 142 (by kernel_rfl) (by kernel_rfl)
      have wv : IntKind.i64.wrap (f1 - d1 + 1) = f1 - d1 + 1 := IntWalk.i64_in _ (by omega)
      exact gs_same (v := .int .i64 (f1 - d1 + 1)) (by go_simp) rfl
    · intro a W hE hd ho
      have e137 : a.tmps[137]?.getD undef = .int .i64 c1 := hd 5 137 (by kernel_rfl) (by kernel_rfl)
      have e143 : a.tmps[143]?.getD undef = .int .i64 (f1 - d1 + 1) := hd 11 143 (by kernel_rfl) (by kernel_rfl)
      have v0 := HC1.out.1
      have v1 := HC1.out.2
      have v2 : ¬ (f1 - d1 + 1 = 0) := by omega
      have v3 : c1.tmod (f1 - d1 + 1) = q1 := by rw [HQ1.out]; exact Int.tmod_eq_emod_of_nonneg v0
      exact gs_same (v := .int .i64 q1) (by go_simp) rfl
    · intro a W hE hd ho
      have e133 : a.tmps[133]?.getD undef = .int .i64 d1 := hd 1 133 (by kernel_rfl) (by kernel_rfl)
      have e144 : a.tmps[144]?.getD undef = .int .i64 q1 := hd 12 144 (by kernel_rfl) (by kernel_rfl)
      have wv : IntKind.i64.wrap (d1 + q1) = d1 + q1 := IntWalk.i64_in _ (by omega)
      exact gs_same (v := .int .i64 (d1 + q1)) (by go_simp) rfl
    · intro a W hE hd ho
      have e17 : a.tmps[17]?.getD undef = .pointer (some ⟨gc_, 0, none⟩) := ho 17 (by kernel_rfl)
      exact gs_same (v := .pointer (some ⟨gc_, 2, none⟩)) (by go_simp) rfl
  intro v18 w13 hE hR
  have y0 : v18 0 = .pointer (some ⟨gc_, 1, none⟩) := hR 0 (by omega)
  have y1 : v18 1 = .int .i64 d1 := hR 1 (by omega)
  have y2 : v18 2 = .pointer (some ⟨g5, 3, none⟩) := hR 2 (by omega)
  have y3 : v18 3 = .pointer (some ⟨g5, 4, none⟩) := hR 3 (by omega)
  have y4 : v18 4 = .int .u16 c1 := hR 4 (by omega)
  have y5 : v18 5 = .int .i64 c1 := hR 5 (by omega)
  have y6 : v18 6 = .pointer (some ⟨g9, 1, none⟩) := hR 6 (by omega)
  have y7 : v18 7 = .int .i64 f1 := hR 7 (by omega)
  have y8 : v18 8 = .pointer (some ⟨gc_, 1, none⟩) := hR 8 (by omega)
  have y9 : v18 9 = .int .i64 d1 := hR 9 (by omega)
  have y10 : v18 10 = .int .i64 (f1 - d1) := hR 10 (by omega)
  have y11 : v18 11 = .int .i64 (f1 - d1 + 1) := hR 11 (by omega)
  have y12 : v18 12 = .int .i64 q1 := hR 12 (by omega)
  have y13 : v18 13 = .int .i64 (d1 + q1) := hR 13 (by omega)
  have y14 : v18 14 = .pointer (some ⟨gc_, 2, none⟩) := hR 14 (by omega)
  simp only [List.range, List.range.loop, List.foldl_cons, List.foldl_nil, y0, y1, y2, y3, y4, y5, y6, y7, y8, y9, y10, y11, y12, y13, y14, List.drop_succ_cons, List.drop_zero]
  simp only [dstAt, List.getElem?_toArray, List.getElem?_cons_zero, List.getElem?_cons_succ, Option.bind_some, Act.put, List.setIfInBounds_toArray, List.set_cons_zero, List.set_cons_succ]
  clear y0 y1 y2 y3 y4 y5 y6 y7 y8 y9 y10 y11 y12 y13 y14 hR
  have Cd := Cc.out.below hE
  have k2 := Cd.cell 2
  have z2 := Cd.frozen 2
  simp only [List.getElem?_toArray, List.getElem?_cons_zero, List.getElem?_cons_succ] at k2
  obtain ⟨d2, hd2⟩ : ∃ d, d = d1 + q1 := ⟨_, rfl⟩
  rw [← hd2] at d21 ⊢
  have d20 : d1 ≤ d2 := by omega
  have Ce : Hid (Blk (w13.setCell ⟨gc_, 2, none⟩ (.int .i64 d2)) gc_ 53 #[.int .i64 f0, .int .i64 d1, .int .i64 d2, .int .i64 f1]) := Cd.set_ 2 _
  have Te : Hid (Blk (w13.setCell ⟨gc_, 2, none⟩ (.int .i64 d2)) g 26 cs) := (Tc.out.below hE).far (p := ⟨gc_, 2, none⟩) (show g ≠ gc_ by have := HGS.out; omega) _
  have Xe : Hid (Blk (w13.setCell ⟨gc_, 2, none⟩ (.int .i64 d2)) g5 33 #[.int .i64 r.x, .int .i64 r.y, .int .i64 r.z, .int .u16 c0, .int .u16 c1, .int .u8 tu]) := (Xc.out.below hE).far (p := ⟨gc_, 2, none⟩) (show g5 ≠ gc_ by have := HGS.out; omega) _
  have Se : Hid (Blk (w13.setCell ⟨gc_, 2, none⟩ (.int .i64 d2)) g9 41 #[.int .i64 f0, .int .i64 f1]) := (Sc.out.below hE).far (p := ⟨gc_, 2, none⟩) (show g9 ≠ gc_ by have := HGS.out; omega) _
  have HOe : Hid (OwnI (w13.setCell ⟨gc_, 2, none⟩ (.int .i64 d2)) w1.heap.size (.slice (some ⟨ga, 0, none⟩) m9 ca) (Bell.allOf T l r)) := row_cell (HOc.out.below hE) Cd (by decide) 2 _
  have HWe : Hid (Below w1.heap.size w1 (w13.setCell ⟨gc_, 2, none⟩ (.int .i64 d2))) := (HWc.out.trans (hE.below.mono HWc.out.size)).setCell Hgc.out _
  obtain ⟨w14, hw14⟩ : ∃ W, W = w13.setCell ⟨gc_, 2, none⟩ (.int .i64 d2) := ⟨_, rfl⟩
  rw [← hw14] at Ce Te Xe Se HOe HWe
  clear hd2 hE Tc Xc Sc HOc HWc HBc Cc Cd
  go_wp2_with fail
  rw [← hw14]
  clear hw14 k2 z2
  have Ck : Hid (∀ k, k < 4 → w14.cell? ⟨gc_, k, none⟩ = some (.int .i64 (cutAt f0 d1 d2 f1 k))) := fun k hk => by
    match k, hk with
    | 0, _ => exact Ce.out.cell 0
    | 1, _ => exact Ce.out.cell 1
    | 2, _ => exact Ce.out.cell 2
    | 3, _ => exact Ce.out.cell 3
  have HCUT := Lib.hid (fun k hk => cut_in d10 d20 d21 k hk)
  have HL0 : Hid ((Bell.fxAt l 0).t ≤ f0) := by show _ ≤ _; rw [← HF0.out]; exact Int.le_refl _
  have HL1 : Hid (f1 ≤ (Bell.fxAt l (l.length - 1)).t) := by show _ ≤ _; rw [← HF1.out]; exact Int.le_refl _
  clear d10 d20 d21 d11 d12 q00 q01 q10
  go_loopw [18, 19, 20, 21, 22, 23, 147] (fun p _ _ _ _ _ i wr => ∃ k : Nat, k ≤ 3 ∧ i = .int .i64 k ∧ p = .int .i64 (Bell.expoOf T l r f0 (cutAt f0 d1 d2 f1 k)) ∧ Hid (Below w14.heap.size w14 wr)) (fun _ _ _ _ _ _ i _ => 3 - (intOf i).toNat)
  case atStart => exact ⟨0, by omega, rfl, by rw [show cutAt f0 d1 d2 f1 0 = f0 from rfl, expo_none HL0.out (Int.le_trans (Int.le_of_lt HW0.out) HL1.out)], Below.refl _ _⟩
  case round =>
    obtain ⟨k, hk, rfl, rfl, hbw⟩ := hrel
    by_cases hlt : k < 3
    rotate_left
    · obtain rfl : k = 3 := by omega
      rw [show cutAt f0 d1 d2 f1 3 = f1 from rfl, ← HN.out]
      clear hk hlt
      have HOr := Lib.hid (HOe.out.below hbw.out)
      have Tr := Lib.hid (Te.out.below hbw.out)
      have Xr := Lib.hid (Xe.out.below hbw.out)
      have Sr := Lib.hid (Se.out.below hbw.out)
      have HWr := Lib.hid (HWe.out.trans (hbw.out.mono HWe.out.size))
      have HBr := Lib.hid (HB1.out.trans (HWr.out.mono HB1.out.size))
      clear hbw Te Xe Se Ce HOe HWe Ck
      have Hb0 := Lib.hid ((Below.refl wr.heap.size wr).alloc (Nat.le_refl _) (.cells #[] 3))
      have IA := Lib.hid (HOr.out.at_.keep Hb0.out)
      have H1 : Hid (((Bell.allOf T l r).map (Value.int .i64)).length = m9 * 1) := by show _ = _; rw [List.length_map, HALL.out, Nat.mul_one]
      have H2 := Lib.hid IA.out.cellsAt
      have H3 := Lib.hid (ints_cell1 (Bell.allOf T l r))
      go_wp2_with (at_builtin; refine wpList_append_arg _ rfl _ _ 22 rfl 3 i0 (.int .i64 0) 1 8 Tryd.underlying22 hi hz0 hz1 hz2 rfl (by decide) wr.heap.size 0 0 0 [] rfl rfl (fun j u h => by simp at h) ⟨ga, 0, none⟩ m9 ca ((Bell.allOf T l r).map (Value.int .i64)) rfl H1.out H2.out H3.out (fun h => by omega) (by unfold maxLen; omega) (by omega) (fun h => by omega) ?_; intro _ v' w15 hown hgrow)
      have hO : OwnI w15 (wr.alloc (.cells #[] 3)).heap.size v' (Bell.allOf T l r) := by
        unfold OwnI
        rw [HALL.out]
        have := hown
        rw [Nat.zero_add] at this
        exact this
      have hb15 : Below wr.heap.size wr w15 := Below.grown Hb0.out hgrow (by simp) (fun k hk => by cases hk)
      obtain ⟨A9, n9, c9, rfl, hz⟩ := hO.slice
      obtain rfl : m9 = n9 := by rw [← hz.1, HALL.out]
      have HZ := Lib.hid hz
      have T15 := Lib.hid (Tr.out.below hb15)
      have X15 := Lib.hid (Xr.out.below hb15)
      have S15 := Lib.hid (Sr.out.below hb15)
      have HW15 := Lib.hid (HWr.out.trans (hb15.mono HWr.out.size))
      have HB15 := Lib.hid (HBr.out.trans (hb15.mono HBr.out.size))
      clear hown hgrow hO hb15 hz HOr Tr Xr Sr HWr HBr Hb0 IA H1 H2 H3
      go_wp2_with fail
      refine (Maximum_any A9 m9 c9 (Bell.allOf T l r) w15 HZ.out (by omega)).mono ?_
      have hv0 := (sum_small (zs := Bell.allOf T l r) HRG.out (by rw [HALL.out]; exact hL2)).1
      obtain ⟨mi, hmi⟩ : ∃ x, x = maxAt (Bell.allOf T l r) m9 := ⟨_, rfl⟩
      obtain ⟨mv, hmv⟩ : ∃ x, x = (Bell.allOf T l r).getD mi 0 := ⟨_, rfl⟩
      have hme : maxErr (Bell.allOf T l r) = 0 := by unfold maxErr; rw [if_pos hv0, HALL.out, if_neg (by omega)]
      have hmx : maxVal (Bell.allOf T l r) = mv := by unfold maxVal; rw [if_pos hv0, HALL.out, ← hmi, hmv]
      have hmn : maxIdx (Bell.allOf T l r) = mi := by unfold maxIdx; rw [if_pos hv0, HALL.out, ← hmi]
      have MB := most_both (T := T) (r := r) OK.out.ty.ty HF0.out HALL.out hL1
      rw [← hmi, ← hmv] at MB
      have hmi2 : mi < m9 := by rw [hmi]; exact maxAt_lt _ _ hL1
      have HMB := Lib.hid MB
      rw [hmx, hmn, hme]
      rintro e w16 ⟨rfl, hb16⟩
      have T16 := Lib.hid (T15.out.below hb16)
      have X16 := Lib.hid (X15.out.below hb16)
      have S16 := Lib.hid (S15.out.below hb16)
      have HW16 := Lib.hid (HW15.out.trans (hb16.mono HW15.out.size))
      have HB16 := Lib.hid (HB15.out.trans (hb16.mono HB15.out.size))
      clear hb16 hmi hmv hme hmx hmn MB hv0 HZ T15 X15 S15 HW15 HB15
      go_upto_region 30 with fail
      refine wp_region_grow 14 (by kernel_rfl) (by kernel_rfl) [GR.eq (.agg cs), GR.tyOk nm sh T sn qn gn, GR.eq (.slice (some ⟨b, off, none⟩) n c), GR.trk n l, GR.eq (.agg #[.int .i64 f0, .int .i64 f1]), GR.eq (.pointer (some ⟨g5, 0, none⟩)), GR.eq (.agg #[.int .i64 r.x, .int .i64 r.y, .int .i64 r.z]), GR.eq (.tuple #[.int .i64 mv, .int .i64 (f0 + (mi : Int)), .int .i64 0]), GR.eq (.tuple #[.int .i64 mv, .int .i64 (f0 + (mi : Int)), .int .i64 0]), GR.eq (.int .i64 mv), GR.eq (.int .i64 (f0 + (mi : Int))), GR.eq (.int .i64 0), GR.eq (.int .i64 mv), GR.eq (.int .i64 (f0 + (mi : Int)))] 261 rfl (by kernel_rfl) ?_ ?_
      · refine ⟨?_, ?_, ?_, ?_, ?_, ?_, ?_, ?_, ?_, ?_, ?_, ?_, ?_, ?_, trivial⟩
        · intro a W hE hd ho
          have e3 : a.tmps[3]?.getD undef = .pointer (some ⟨g, 0, none⟩) := ho 3 (by kernel_rfl)
          exact gs_load 26 (.tmp 3) rfl ⟨g, 0, none⟩ (.agg cs) ((eval_getD _ _).trans e3) ((T16.out.below hE).lv Tryd.prog Tryd.underlying26 rfl IT.out) rfl
        · intro a W hE hd ho
          have e197 : a.tmps[197]?.getD undef = .agg cs := hd 0 197 (by kernel_rfl) (by kernel_rfl)
          refine gs_call (f := 8) (args := #[.agg cs]) (by go_simp) ?_
          refine (bellType_any W (HT.out.keep (HB16.out.trans (hE.below.mono HB16.out.size))) OK.out.ty OK.out.name OK.out.short.name).mono ?_
          rintro e w9 ⟨cs', sa', sc', qb, qo, qc', gb, go, gc', rfl, h1, h2⟩
          exact ⟨_, rfl, h2, cs', sa', sc', qb, qo, qc', gb, go, gc', rfl, h1⟩
        · intro a W hE hd ho
          have e1 : a.tmps[1]?.getD undef = .slice (some ⟨b, off, none⟩) n c := ho 1 (by kernel_rfl)
          exact gs_same (v := .slice (some ⟨b, off, none⟩) n c) (by go_simp) rfl
        · intro a W hE hd ho
          have e199 : a.tmps[199]?.getD undef = .slice (some ⟨b, off, none⟩) n c := hd 2 199 (by kernel_rfl) (by kernel_rfl)
          refine gs_call (f := 9) (args := #[.slice (some ⟨b, off, none⟩) n c]) (by go_simp) ?_
          refine (bellTrack_any _ n c l W (HL.out.keep (HB16.out.trans (hE.below.mono HB16.out.size))) (by omega)).mono ?_
          rintro e w9 ⟨A9, c9, rfl, h1, h2, h3⟩
          obtain ⟨b9, o9, rfl, h4⟩ := h1.2 (by omega)
          exact ⟨_, rfl, h3, b9, o9, c9, rfl, h4, h2.1, h2.2⟩
        · intro a W hE hd ho
          have e9 : a.tmps[9]?.getD undef = .pointer (some ⟨g9, 0, none⟩) := ho 9 (by kernel_rfl)
          have q0 := (S16.out.below hE).cell 0
          have q1 := (S16.out.below hE).cell 1
          simp only [List.getElem?_toArray, List.getElem?_cons_zero, List.getElem?_cons_succ] at q0 q1
          exact gs_same (v := .agg #[.int .i64 f0, .int .i64 f1]) (by go_simp) rfl
        · intro a W hE hd ho
          have e5 : a.tmps[5]?.getD undef = .pointer (some ⟨g5, 0, none⟩) := ho 5 (by kernel_rfl)
          exact gs_same (v := .pointer (some ⟨g5, 0, none⟩)) (by go_simp) rfl
        · intro a W hE hd ho
          have e202 : a.tmps[202]?.getD undef = .pointer (some ⟨g5, 0, none⟩) := hd 5 202 (by kernel_rfl) (by kernel_rfl)
          have q0 := (X16.out.below hE).cell 0
          have q1 := (X16.out.below hE).cell 1
          have q2 := (X16.out.below hE).cell 2
          simp only [List.getElem?_toArray, List.getElem?_cons_zero, List.getElem?_cons_succ] at q0 q1 q2
          exact gs_same (v := .agg #[.int .i64 r.x, .int .i64 r.y, .int .i64 r.z]) (by go_simp) rfl
        · intro a W hE hd ho
          have e201 : a.tmps[201]?.getD undef = .agg #[.int .i64 f0, .int .i64 f1] := hd 4 201 (by kernel_rfl) (by kernel_rfl)
          have e203 : a.tmps[203]?.getD undef = .agg #[.int .i64 r.x, .int .i64 r.y, .int .i64 r.z] := hd 6 203 (by kernel_rfl) (by kernel_rfl)
          obtain ⟨cs', sa', sc', qb, qo, qc', gb, go, gc', e198, h1⟩ : ∃ cs sa sc qb qo qc gb go gc, a.tmps[198]?.getD undef = .agg cs ∧ TyOk W cs nm sh T sa sn sc qb qo qn qc gb go gn gc := hd 1 198 (by kernel_rfl) (by kernel_rfl)
          obtain ⟨b9, o9, c9, e200, h2, h3, h4⟩ : ∃ b o c, a.tmps[200]?.getD undef = .slice (some ⟨b, o, none⟩) n c ∧ FixesAt W b o n l ∧ n ≤ c ∧ c ≤ 9223372036854775807 := hd 3 200 (by kernel_rfl) (by kernel_rfl)
          refine gs_call (f := 13) (args := #[.agg cs', .slice (some ⟨b9, o9, none⟩) n c9, .agg #[.int .i64 f0, .int .i64 f1], .agg (plV r)]) (by unfold plV; go_simp) ?_
          refine (Maximum_ok b9 o9 n c9 l f0 f1 f0 f1 m9 r W h1 h2 OK.out.tr OK.out.pl u0 (Int.le_of_lt HW0.out) u1 (by rw [HF0.out]; omega) (by rw [HF1.out]; omega) (by have := HLL.out; omega) (by omega)).mono ?_
          rw [HMB.out]
          rintro e w9 ⟨rfl, h5⟩
          exact ⟨_, rfl, h5, rfl⟩
        · intro a W hE hd ho
          have e204 : a.tmps[204]?.getD undef = .tuple #[.int .i64 mv, .int .i64 (f0 + (mi : Int)), .int .i64 0] := hd 7 204 (by kernel_rfl) (by kernel_rfl)
          exact gs_same (v := .tuple #[.int .i64 mv, .int .i64 (f0 + (mi : Int)), .int .i64 0]) (by go_simp) rfl
        · intro a W hE hd ho
          have e196 : a.tmps[196]?.getD undef = .tuple #[.int .i64 mv, .int .i64 (f0 + (mi : Int)), .int .i64 0] := hd 8 196 (by kernel_rfl) (by kernel_rfl)
          exact gs_same (v := .int .i64 mv) (by go_simp) rfl
        · intro a W hE hd ho
          have e196 : a.tmps[196]?.getD undef = .tuple #[.int .i64 mv, .int .i64 (f0 + (mi : Int)), .int .i64 0] := hd 8 196 (by kernel_rfl) (by kernel_rfl)
          exact gs_same (v := .int .i64 (f0 + (mi : Int))) (by go_simp) rfl
        · intro a W hE hd ho
          have e196 : a.tmps[196]?.getD undef = .tuple #[.int .i64 mv, .int .i64 (f0 + (mi : Int)), .int .i64 0] := hd 8 196 (by kernel_rfl) (by kernel_rfl)
          exact gs_same (v := .int .i64 0) (by go_simp) rfl
        · intro a W hE hd ho
          have e205 : a.tmps[205]?.getD undef = .int .i64 mv := hd 9 205 (by kernel_rfl) (by kernel_rfl)
          exact gs_same (v := .int .i64 mv) (by go_simp) rfl
        · intro a W hE hd ho
          have e206 : a.tmps[206]?.getD undef = .int .i64 (f0 + (mi : Int)) := hd 10 206 (by kernel_rfl) (by kernel_rfl)
          exact gs_same (v := .int .i64 (f0 + (mi : Int))) (by go_simp) rfl
      intro v30 w17 hE hR
      have y0 : v30 0 = .agg cs := hR 0 (by omega)
      obtain ⟨z1, y1⟩ : ∃ v, v30 1 = v := ⟨_, rfl⟩
      have y2 : v30 2 = .slice (some ⟨b, off, none⟩) n c := hR 2 (by omega)
      obtain ⟨z3, y3⟩ : ∃ v, v30 3 = v := ⟨_, rfl⟩
      have y4 : v30 4 = .agg #[.int .i64 f0, .int .i64 f1] := hR 4 (by omega)
      have y5 : v30 5 = .pointer (some ⟨g5, 0, none⟩) := hR 5 (by omega)
      have y6 : v30 6 = .agg #[.int .i64 r.x, .int .i64 r.y, .int .i64 r.z] := hR 6 (by omega)
      have y7 : v30 7 = .tuple #[.int .i64 mv, .int .i64 (f0 + (mi : Int)), .int .i64 0] := hR 7 (by omega)
      have y8 : v30 8 = .tuple #[.int .i64 mv, .int .i64 (f0 + (mi : Int)), .int .i64 0] := hR 8 (by omega)
      have y9 : v30 9 = .int .i64 mv := hR 9 (by omega)
      have y10 : v30 10 = .int .i64 (f0 + (mi : Int)) := hR 10 (by omega)
      have y11 : v30 11 = .int .i64 0 := hR 11 (by omega)
      have y12 : v30 12 = .int .i64 mv := hR 12 (by omega)
      have y13 : v30 13 = .int .i64 (f0 + (mi : Int)) := hR 13 (by omega)
      simp only [List.range, List.range.loop, List.foldl_cons, List.foldl_nil, y0, y1, y2, y3, y4, y5, y6, y7, y8, y9, y10, y11, y12, y13, List.drop_succ_cons, List.drop_zero]
      simp only [dstAt, List.getElem?_toArray, List.getElem?_cons_zero, List.getElem?_cons_succ, Option.bind_some, Act.put, List.setIfInBounds_toArray, List.set_cons_zero, List.set_cons_succ]
      clear y0 y1 y2 y3 y4 y5 y6 y7 y8 y9 y10 y11 y12 y13 hR
      have T17 := Lib.hid (T16.out.below hE)
      have X17 := Lib.hid (X16.out.below hE)
      have S17 := Lib.hid (S16.out.below hE)
      have HW17 := Lib.hid (HW16.out.trans (hE.below.mono HW16.out.size))
      have HB17 := Lib.hid (HB16.out.trans (hE.below.mono HB16.out.size))
      clear hE T16 X16 S16 HW16 HB16
      go_upto_region 31 with fail
      obtain ⟨lo, hlo⟩ : ∃ x, x = Bell.encLow T l r (l.length - 1) := ⟨_, rfl⟩
      obtain ⟨hi_, hhi⟩ : ∃ x, x = Bell.encHigh T l r (l.length - 1) := ⟨_, rfl⟩
      have EW := Bell.expo_whole OK.out.ty.ty OK.out.tr r
      rw [← hlo, ← hhi, ← HF0.out, ← HF1.out, ← HN.out] at EW
      have HEW := Lib.hid EW
      have HLO := Lib.hid hlo
      have HHI := Lib.hid hhi
      clear EW hlo hhi
      refine wp_region_growQ 11 9 (by kernel_rfl) (by kernel_rfl) [GR.eq (.agg cs), GR.tyOk nm sh T sn qn gn, GR.eq (.slice (some ⟨b, off, none⟩) n c), GR.trk n l, GR.eq (.pointer (some ⟨g5, 0, none⟩)), GR.eq (.agg #[.int .i64 r.x, .int .i64 r.y, .int .i64 r.z]), GR.eq (.tuple #[.agg #[.int .i64 lo, .int .i64 hi_], .int .i64 0]), GR.eq (.tuple #[.agg #[.int .i64 lo, .int .i64 hi_], .int .i64 0]), GR.eq (.agg #[.int .i64 lo, .int .i64 hi_]), GR.eq (.int .i64 0), GR.new w17.heap.size 58 #[.int .i64 0, .int .i64 0]] 261 rfl (by kernel_rfl) (fun c a d v w h => by cases d <;> exact h) ?_ ?_ ?_
      · intro oq a W hoq hE hd
        obtain rfl := Option.some.inj hoq.symm
        have e208 : a.tmps[208]?.getD undef = .tuple #[.agg #[.int .i64 lo, .int .i64 hi_], .int .i64 0] := hd 7 208 (by kernel_rfl) (by kernel_rfl)
        exact ⟨.int .i64 0, fun w' => by go_simp, rfl⟩
      · refine ⟨?_, ?_, ?_, ?_, ?_, ?_, ?_, ?_, ?_, ?_, ?_, trivial⟩
        · intro a W hE hd ho
          have e3 : a.tmps[3]?.getD undef = .pointer (some ⟨g, 0, none⟩) := ho 3 (by kernel_rfl)
          exact gs_load 26 (.tmp 3) rfl ⟨g, 0, none⟩ (.agg cs) ((eval_getD _ _).trans e3) ((T17.out.below hE).lv Tryd.prog Tryd.underlying26 rfl IT.out) rfl
        · intro a W hE hd ho
          have e209 : a.tmps[209]?.getD undef = .agg cs := hd 0 209 (by kernel_rfl) (by kernel_rfl)
          refine gs_call (f := 8) (args := #[.agg cs]) (by go_simp) ?_
          refine (bellType_any W (HT.out.keep (HB17.out.trans (hE.below.mono HB17.out.size))) OK.out.ty OK.out.name OK.out.short.name).mono ?_
          rintro e w9 ⟨cs', sa', sc', qb, qo, qc', gb, go, gc', rfl, h1, h2⟩
          exact ⟨_, rfl, h2, cs', sa', sc', qb, qo, qc', gb, go, gc', rfl, h1⟩
        · intro a W hE hd ho
          have e1 : a.tmps[1]?.getD undef = .slice (some ⟨b, off, none⟩) n c := ho 1 (by kernel_rfl)
          exact gs_same (v := .slice (some ⟨b, off, none⟩) n c) (by go_simp) rfl
        · intro a W hE hd ho
          have e211 : a.tmps[211]?.getD undef = .slice (some ⟨b, off, none⟩) n c := hd 2 211 (by kernel_rfl) (by kernel_rfl)
          refine gs_call (f := 9) (args := #[.slice (some ⟨b, off, none⟩) n c]) (by go_simp) ?_
          refine (bellTrack_any _ n c l W (HL.out.keep (HB17.out.trans (hE.below.mono HB17.out.size))) (by omega)).mono ?_
          rintro e w9 ⟨A9, c9, rfl, h1, h2, h3⟩
          obtain ⟨b9, o9, rfl, h4⟩ := h1.2 (by omega)
          exact ⟨_, rfl, h3, b9, o9, c9, rfl, h4, h2.1, h2.2⟩
        · intro a W hE hd ho
          have e5 : a.tmps[5]?.getD undef = .pointer (some ⟨g5, 0, none⟩) := ho 5 (by kernel_rfl)
          exact gs_same (v := .pointer (some ⟨g5, 0, none⟩)) (by go_simp) rfl
        · intro a W hE hd ho
          have e213 : a.tmps[213]?.getD undef = .pointer (some ⟨g5, 0, none⟩) := hd 4 213 (by kernel_rfl) (by kernel_rfl)
          have q0 := (X17.out.below hE).cell 0
          have q1 := (X17.out.below hE).cell 1
          have q2 := (X17.out.below hE).cell 2
          simp only [List.getElem?_toArray, List.getElem?_cons_zero, List.getElem?_cons_succ] at q0 q1 q2
          exact gs_same (v := .agg #[.int .i64 r.x, .int .i64 r.y, .int .i64 r.z]) (by go_simp) rfl
        · intro a W hE hd ho
          have e214 : a.tmps[214]?.getD undef = .agg #[.int .i64 r.x, .int .i64 r.y, .int .i64 r.z] := hd 5 214 (by kernel_rfl) (by kernel_rfl)
          obtain ⟨cs', sa', sc', qb, qo, qc', gb, go, gc', e210, h1⟩ : ∃ cs sa sc qb qo qc gb go gc, a.tmps[210]?.getD undef = .agg cs ∧ TyOk W cs nm sh T sa sn sc qb qo qn qc gb go gn gc := hd 1 210 (by kernel_rfl) (by kernel_rfl)
          obtain ⟨b9, o9, c9, e212, h2, h3, h4⟩ : ∃ b o c, a.tmps[212]?.getD undef = .slice (some ⟨b, o, none⟩) n c ∧ FixesAt W b o n l ∧ n ≤ c ∧ c ≤ 9223372036854775807 := hd 3 212 (by kernel_rfl) (by kernel_rfl)
          refine gs_call (f := 14) (args := #[.agg cs', .slice (some ⟨b9, o9, none⟩) n c9, .agg (plV r)]) (by unfold plV; go_simp) ?_
          refine (Enclosed_ok b9 o9 n c9 l r W h1 h2 OK.out.tr OK.out.pl h3 h4).mono ?_
          rw [← HLO.out, ← HHI.out]
          rintro e w9 ⟨rfl, h5⟩
          exact ⟨_, rfl, h5, rfl⟩
        · intro a W hE hd ho
          have e215 : a.tmps[215]?.getD undef = .tuple #[.agg #[.int .i64 lo, .int .i64 hi_], .int .i64 0] := hd 6 215 (by kernel_rfl) (by kernel_rfl)
          exact gs_same (v := .tuple #[.agg #[.int .i64 lo, .int .i64 hi_], .int .i64 0]) (by go_simp) rfl
        · intro a W hE hd ho
          have e208 : a.tmps[208]?.getD undef = .tuple #[.agg #[.int .i64 lo, .int .i64 hi_], .int .i64 0] := hd 7 208 (by kernel_rfl) (by kernel_rfl)
          exact gs_same (v := .agg #[.int .i64 lo, .int .i64 hi_]) (by go_simp) rfl
        · intro a W hE hd ho
          have e208 : a.tmps[208]?.getD undef = .tuple #[.agg #[.int .i64 lo, .int .i64 hi_], .int .i64 0] := hd 7 208 (by kernel_rfl) (by kernel_rfl)
          exact gs_same (v := .int .i64 0) (by go_simp) rfl
        · intro a W hE hd ho
          refine gs_val (v := .pointer (some ⟨W.heap.size, 0, none⟩)) (W' := W.alloc (.cells #[.int .i64 0, .int .i64 0] 58)) (by go_simp) ((Below.refl _ _).alloc (Nat.le_refl _) _) ⟨_, rfl, hE.below.size, Blk.new _ _ _⟩
      intro v31 w18 hE hR
      have y0 : v31 0 = .agg cs := hR 0 (by omega)
      obtain ⟨z1, y1⟩ : ∃ v, v31 1 = v := ⟨_, rfl⟩
      have y2 : v31 2 = .slice (some ⟨b, off, none⟩) n c := hR 2 (by omega)
      obtain ⟨z3, y3⟩ : ∃ v, v31 3 = v := ⟨_, rfl⟩
      have y4 : v31 4 = .pointer (some ⟨g5, 0, none⟩) := hR 4 (by omega)
      have y5 : v31 5 = .agg #[.int .i64 r.x, .int .i64 r.y, .int .i64 r.z] := hR 5 (by omega)
      have y6 : v31 6 = .tuple #[.agg #[.int .i64 lo, .int .i64 hi_], .int .i64 0] := hR 6 (by omega)
      have y7 : v31 7 = .tuple #[.agg #[.int .i64 lo, .int .i64 hi_], .int .i64 0] := hR 7 (by omega)
      have y8 : v31 8 = .agg #[.int .i64 lo, .int .i64 hi_] := hR 8 (by omega)
      have y9 : v31 9 = .int .i64 0 := hR 9 (by omega)
      obtain ⟨ge, y10, hge, Pe⟩ : ∃ g, v31 10 = .pointer (some ⟨g, 0, none⟩) ∧ w17.heap.size ≤ g ∧ Blk w18 g 58 #[.int .i64 0, .int .i64 0] := hR 10 (by omega)
      simp only [List.range, List.range.loop, List.foldl_cons, List.foldl_nil, y0, y1, y2, y3, y4, y5, y6, y7, y8, y9, y10, List.drop_succ_cons, List.drop_zero]
      simp only [dstAt, List.getElem?_toArray, List.getElem?_cons_zero, List.getElem?_cons_succ, Option.bind_some, Act.put, List.setIfInBounds_toArray, List.set_cons_zero, List.set_cons_succ]
      clear y0 y1 y2 y3 y4 y5 y6 y7 y8 y9 y10 hR
      try simp only [Act.put, List.setIfInBounds_toArray, List.set_cons_zero, List.set_cons_succ]
      refine any_next (fuel := 1) (k := 11) (by kernel_rfl) rfl rfl ?_
      refine wp_store_row 58 (.tmp 30) (.tmp 216) rfl ge #[.int .i64 lo, .int .i64 hi_] rfl rfl 58 _ Pe (by kernel_rfl) rfl (by simp [Value.oneCell']) ?_
      obtain ⟨w19, hw19⟩ : ∃ W, W = w18.setRow ge #[.int .i64 lo, .int .i64 hi_] := ⟨_, rfl⟩
      rw [← hw19]
      have hb19 : Below w17.heap.size w17 w19 := by rw [hw19]; exact hE.below.setRow' hge _
      have Ie : Blk w19 ge 58 #[.int .i64 lo, .int .i64 hi_] := by rw [hw19]; exact Pe.setRow _
      have i0_ := Ie.cell 0
      have i1_ := Ie.cell 1
      have s0_ := (S17.out.below hb19).cell 0
      simp only [List.getElem?_toArray, List.getElem?_cons_zero, List.getElem?_cons_succ] at i0_ i1_ s0_
      have HB19 := Lib.hid (HB17.out.trans (hb19.mono HB17.out.size))
      clear hw19 hb19 Ie hE Pe hge S17 T17 X17 HW17 HB17
      try simp only [Act.put, List.setIfInBounds_toArray, List.set_cons_zero, List.set_cons_succ]
      refine any_take (fuel := 0) (k := 12) (v := .int .i64 0) rfl (by kernel_rfl) (by kernel_rfl) (by kernel_rfl) (fun _ _ _ h => h) rfl (fun w => by go_simp) ?_
      simp only [Act.put, List.setIfInBounds_toArray, List.set_cons_zero, List.set_cons_succ]
      refine any_done (by kernel_rfl) ?_
      have t1 : decide (lo ≤ N) = true := decide_eq_true HEW.out.1
      have t2 : decide (N ≤ hi_) = true := decide_eq_true HEW.out.2
      have wv : IntKind.i64.wrap (f0 + (mi : Int)) = f0 + (mi : Int) := IntWalk.i64_in _ (by have := HW0.out; omega)
      go_wp2_with fail
      refine (bellSum_any w19 (HST.out.keep HB19.out)).mono ?_
      rintro e w20 ⟨rfl, hb20⟩
      have HB20 := Lib.hid (HB19.out.trans (hb20.mono HB19.out.size))
      clear hb20
      go_wp2
      go_ret
      exact ⟨rfl, HB20.out⟩
    obtain ⟨a1, a2, a3⟩ := HCUT.out k hlt
    have ck0 := (cell_same (A := w14) (B := wr) (p := ⟨gc_, k, none⟩) (hbw.out.block gc_ (lt_of_block Ce.out))).trans (Ck.out k (by omega))
    have ck1 := (cell_same (A := w14) (B := wr) (p := ⟨gc_, k + 1, none⟩) (hbw.out.block gc_ (lt_of_block Ce.out))).trans (Ck.out (k + 1) (by omega))
    obtain ⟨ta, hta⟩ : ∃ x, x = cutAt f0 d1 d2 f1 k := ⟨_, rfl⟩
    obtain ⟨tb, htb⟩ : ∃ x, x = cutAt f0 d1 d2 f1 (k + 1) := ⟨_, rfl⟩
    rw [← hta] at a1 a2 ck0 ⊢
    rw [← htb] at a2 a3 ck1
    have HTA := Lib.hid hta
    have HTB := Lib.hid htb
    have CK0 := Lib.hid ck0
    have CK1 := Lib.hid ck1
    obtain ⟨PP, hPP⟩ : ∃ x, x = Bell.expoOf T l r ta tb := ⟨_, rfl⟩
    obtain ⟨QQ, hQQ⟩ : ∃ x, x = Bell.expoOf T l r f0 ta := ⟨_, rfl⟩
    have e2 := expo_two (T := T) (l := l) (r := r) HL0.out a1 a2 (Int.le_trans a3 HL1.out)
    have e3 := expo_two (T := T) (l := l) (r := r) HL0.out (Int.le_trans a1 a2) a3 HL1.out
    have r1 := (Bell.expo_range OK.out.ty.ty OK.out.tr r ta tb).1
    have r2 := (Bell.expo_range OK.out.ty.ty OK.out.tr r f0 ta).1
    have r3 := (Bell.expo_range OK.out.ty.ty OK.out.tr r tb f1).1
    rw [← hPP] at e2 r1
    rw [← hQQ] at e2 r2 ⊢
    rw [← HN.out, ← e2] at e3
    have p1 : QQ + PP ≤ N := by omega
    have p2 := HN1.out
    have HE2 := Lib.hid e2
    have HPP := Lib.hid hPP
    have LV : Hid (levelR PP ≤ lv) := by show _ ≤ _; rw [HLV.out]; exact levelR_mono r1 (by omega) (by omega)
    have hPE : checkEnergyE PP = 0 := withinE_of r1 (by omega)
    have HPE := Lib.hid hPE
    have R1 := Lib.hid r1
    have R2 := Lib.hid r2
    have P1 := Lib.hid p1
    have HA1 := Lib.hid a1
    have HA2 := Lib.hid a2
    have HA3 := Lib.hid a3
    have Tr := Lib.hid (Te.out.below hbw.out)
    have Xr := Lib.hid (Xe.out.below hbw.out)
    have Cr := Lib.hid (Ce.out.below hbw.out)
    have HWr := Lib.hid (HWe.out.trans (hbw.out.mono HWe.out.size))
    have HBr := Lib.hid (HB1.out.trans (HWr.out.mono HB1.out.size))
    have hk3 : (k : Int) < 3 := by omega
    clear e2 e3 r1 r2 r3 p1 p2 hPP hQQ hta htb hPE ck0 ck1 a1 a2 a3 hk
    go_upto_region 23 with fail
    refine wp_region_grow 19 (by kernel_rfl) (by kernel_rfl) [GR.eq (.agg cs), GR.tyOk nm sh T sn qn gn, GR.eq (.slice (some ⟨b, off, none⟩) n c), GR.trk n l, GR.eq (.int .i64 k), GR.eq (.pointer (some ⟨gc_, k, none⟩)), GR.eq (.int .i64 ta), GR.eq (.int .i64 k), GR.eq (.int .i64 ((k : Int) + 1)), GR.eq (.pointer (some ⟨gc_, k + 1, none⟩)), GR.eq (.int .i64 tb), GR.eq (.agg #[.int .i64 ta, .int .i64 tb]), GR.eq (.pointer (some ⟨g5, 0, none⟩)), GR.eq (.agg #[.int .i64 r.x, .int .i64 r.y, .int .i64 r.z]), GR.eq (.tuple #[.int .i64 PP, .int .i64 0]), GR.eq (.tuple #[.int .i64 PP, .int .i64 0]), GR.eq (.int .i64 PP), GR.eq (.int .i64 0), GR.eq (.int .i64 PP)] 261 rfl (by kernel_rfl) ?_ ?_
    · refine ⟨?_, ?_, ?_, ?_, ?_, ?_, ?_, ?_, ?_, ?_, ?_, ?_, ?_, ?_, ?_, ?_, ?_, ?_, ?_, trivial⟩
      · intro a W hE hd ho
        have e3 : a.tmps[3]?.getD undef = .pointer (some ⟨g, 0, none⟩) := ho 3 (by kernel_rfl)
        exact gs_load 26 (.tmp 3) rfl ⟨g, 0, none⟩ (.agg cs) ((eval_getD _ _).trans e3) ((Tr.out.below hE).lv Tryd.prog Tryd.underlying26 rfl IT.out) rfl
      · intro a W hE hd ho
        have e151 : a.tmps[151]?.getD undef = .agg cs := hd 0 151 (by kernel_rfl) (by kernel_rfl)
        refine gs_call (f := 8) (args := #[.agg cs]) (by go_simp) ?_
        refine (bellType_any W (HT.out.keep (HBr.out.trans (hE.below.mono HBr.out.size))) OK.out.ty OK.out.name OK.out.short.name).mono ?_
        rintro e w9 ⟨cs', sa', sc', qb, qo, qc', gb, go, gc', rfl, h1, h2⟩
        exact ⟨_, rfl, h2, cs', sa', sc', qb, qo, qc', gb, go, gc', rfl, h1⟩
      · intro a W hE hd ho
        have e1 : a.tmps[1]?.getD undef = .slice (some ⟨b, off, none⟩) n c := ho 1 (by kernel_rfl)
        exact gs_same (v := .slice (some ⟨b, off, none⟩) n c) (by go_simp) rfl
      · intro a W hE hd ho
        have e153 : a.tmps[153]?.getD undef = .slice (some ⟨b, off, none⟩) n c := hd 2 153 (by kernel_rfl) (by kernel_rfl)
        refine gs_call (f := 9) (args := #[.slice (some ⟨b, off, none⟩) n c]) (by go_simp) ?_
        refine (bellTrack_any _ n c l W (HL.out.keep (HBr.out.trans (hE.below.mono HBr.out.size))) (by omega)).mono ?_
        rintro e w9 ⟨A9, c9, rfl, h1, h2, h3⟩
        obtain ⟨b9, o9, rfl, h4⟩ := h1.2 (by omega)
        exact ⟨_, rfl, h3, b9, o9, c9, rfl, h4, h2.1, h2.2⟩
      · intro a W hE hd ho
        have e19 : a.tmps[19]?.getD undef = .int .i64 k := ho 19 (by kernel_rfl)
        exact gs_same (v := .int .i64 k) (by go_simp) rfl
      · intro a W hE hd ho
        have e17 : a.tmps[17]?.getD undef = .pointer (some ⟨gc_, 0, none⟩) := ho 17 (by kernel_rfl)
        have e155 : a.tmps[155]?.getD undef = .int .i64 k := hd 4 155 (by kernel_rfl) (by kernel_rfl)
        have b1 : (k : Int) < 4 := by omega
        exact gs_same (v := .pointer (some ⟨gc_, k, none⟩)) (by go_simp) rfl
      · intro a W hE hd ho
        have e156 : a.tmps[156]?.getD undef = .pointer (some ⟨gc_, k, none⟩) := hd 5 156 (by kernel_rfl) (by kernel_rfl)
        have k0 := (cell_same (A := wr) (B := W) (p := ⟨gc_, k, none⟩) (hE.below.block gc_ (lt_of_block Cr.out))).trans CK0.out
        exact gs_same (v := .int .i64 ta) (by go_simp) rfl
      · intro a W hE hd ho
        have e19 : a.tmps[19]?.getD undef = .int .i64 k := ho 19 (by kernel_rfl)
        exact gs_same (v := .int .i64 k) (by go_simp) rfl
      · intro a W hE hd ho
        have e158 : a.tmps[158]?.getD undef = .int .i64 k := hd 7 158 (by kernel_rfl) (by kernel_rfl)
        have wv : IntKind.i64.wrap ((k : Int) + 1) = (k : Int) + 1 := IntWalk.i64_in _ (by omega)
        exact gs_same (v := .int .i64 ((k : Int) + 1)) (by go_simp) rfl
      · intro a W hE hd ho
        have e17 : a.tmps[17]?.getD undef = .pointer (some ⟨gc_, 0, none⟩) := ho 17 (by kernel_rfl)
        have e159 : a.tmps[159]?.getD undef = .int .i64 ((k : Int) + 1) := hd 8 159 (by kernel_rfl) (by kernel_rfl)
        refine gs_same (v := .pointer (some ⟨gc_, k + 1, none⟩)) ?_ rfl
        go_simp
        intro h
        exact absurd (h (by omega)) (by omega)
      · intro a W hE hd ho
        have e160 : a.tmps[160]?.getD undef = .pointer (some ⟨gc_, k + 1, none⟩) := hd 9 160 (by kernel_rfl) (by kernel_rfl)
        have k0 := (cell_same (A := wr) (B := W) (p := ⟨gc_, k + 1, none⟩) (hE.below.block gc_ (lt_of_block Cr.out))).trans CK1.out
        exact gs_same (v := .int .i64 tb) (by go_simp) rfl
      · intro a W hE hd ho
        have e157 : a.tmps[157]?.getD undef = .int .i64 ta := hd 6 157 (by kernel_rfl) (by kernel_rfl)
        have e161 : a.tmps[161]?.getD undef = .int .i64 tb := hd 10 161 (by kernel_rfl) (by kernel_rfl)
        exact gs_same (v := .agg #[.int .i64 ta, .int .i64 tb]) (by go_simp) rfl
      · intro a W hE hd ho
        have e5 : a.tmps[5]?.getD undef = .pointer (some ⟨g5, 0, none⟩) := ho 5 (by kernel_rfl)
        exact gs_same (v := .pointer (some ⟨g5, 0, none⟩)) (by go_simp) rfl
      · intro a W hE hd ho
        have e163 : a.tmps[163]?.getD undef = .pointer (some ⟨g5, 0, none⟩) := hd 12 163 (by kernel_rfl) (by kernel_rfl)
        have q0 := (Xr.out.below hE).cell 0
        have q1 := (Xr.out.below hE).cell 1
        have q2 := (Xr.out.below hE).cell 2
        simp only [List.getElem?_toArray, List.getElem?_cons_zero, List.getElem?_cons_succ] at q0 q1 q2
        exact gs_same (v := .agg #[.int .i64 r.x, .int .i64 r.y, .int .i64 r.z]) (by go_simp) rfl
      · intro a W hE hd ho
        have e162 : a.tmps[162]?.getD undef = .agg #[.int .i64 ta, .int .i64 tb] := hd 11 162 (by kernel_rfl) (by kernel_rfl)
        have e164 : a.tmps[164]?.getD undef = .agg #[.int .i64 r.x, .int .i64 r.y, .int .i64 r.z] := hd 13 164 (by kernel_rfl) (by kernel_rfl)
        obtain ⟨cs', sa', sc', qb, qo, qc', gb, go, gc', e152, h1⟩ : ∃ cs sa sc qb qo qc gb go gc, a.tmps[152]?.getD undef = .agg cs ∧ TyOk W cs nm sh T sa sn sc qb qo qn qc gb go gn gc := hd 1 152 (by kernel_rfl) (by kernel_rfl)
        obtain ⟨b9, o9, c9, e154, h2, h3, h4⟩ : ∃ b o c, a.tmps[154]?.getD undef = .slice (some ⟨b, o, none⟩) n c ∧ FixesAt W b o n l ∧ n ≤ c ∧ c ≤ 9223372036854775807 := hd 3 154 (by kernel_rfl) (by kernel_rfl)
        refine gs_call (f := 7) (args := #[.agg cs', .slice (some ⟨b9, o9, none⟩) n c9, .agg #[.int .i64 ta, .int .i64 tb], .agg (plV r)]) (by unfold plV; go_simp) ?_
        refine (Exposure_ok b9 o9 n c9 l ta tb r W h1 h2 OK.out.tr OK.out.pl (Int.le_trans u0 HA1.out) HA2.out (Int.le_trans HA3.out u1)).mono ?_
        rintro e w9 ⟨rfl, h5⟩
        exact ⟨_, rfl, h5, by rw [← HPP.out]; rfl⟩
      · intro a W hE hd ho
        have e165 : a.tmps[165]?.getD undef = .tuple #[.int .i64 PP, .int .i64 0] := hd 14 165 (by kernel_rfl) (by kernel_rfl)
        exact gs_same (v := .tuple #[.int .i64 PP, .int .i64 0]) (by go_simp) rfl
      · intro a W hE hd ho
        have e150 : a.tmps[150]?.getD undef = .tuple #[.int .i64 PP, .int .i64 0] := hd 15 150 (by kernel_rfl) (by kernel_rfl)
        exact gs_same (v := .int .i64 PP) (by go_simp) rfl
      · intro a W hE hd ho
        have e150 : a.tmps[150]?.getD undef = .tuple #[.int .i64 PP, .int .i64 0] := hd 15 150 (by kernel_rfl) (by kernel_rfl)
        exact gs_same (v := .int .i64 0) (by go_simp) rfl
      · intro a W hE hd ho
        have e166 : a.tmps[166]?.getD undef = .int .i64 PP := hd 16 166 (by kernel_rfl) (by kernel_rfl)
        exact gs_same (v := .int .i64 PP) (by go_simp) rfl
    intro v23 w16 hE hR
    have y0 : v23 0 = .agg cs := hR 0 (by omega)
    obtain ⟨z1, y1⟩ : ∃ v, v23 1 = v := ⟨_, rfl⟩
    have y2 : v23 2 = .slice (some ⟨b, off, none⟩) n c := hR 2 (by omega)
    obtain ⟨z3, y3⟩ : ∃ v, v23 3 = v := ⟨_, rfl⟩
    have y4 : v23 4 = .int .i64 k := hR 4 (by omega)
    have y5 : v23 5 = .pointer (some ⟨gc_, k, none⟩) := hR 5 (by omega)
    have y6 : v23 6 = .int .i64 ta := hR 6 (by omega)
    have y7 : v23 7 = .int .i64 k := hR 7 (by omega)
    have y8 : v23 8 = .int .i64 ((k : Int) + 1) := hR 8 (by omega)
    have y9 : v23 9 = .pointer (some ⟨gc_, k + 1, none⟩) := hR 9 (by omega)
    have y10 : v23 10 = .int .i64 tb := hR 10 (by omega)
    have y11 : v23 11 = .agg #[.int .i64 ta, .int .i64 tb] := hR 11 (by omega)
    have y12 : v23 12 = .pointer (some ⟨g5, 0, none⟩) := hR 12 (by omega)
    have y13 : v23 13 = .agg #[.int .i64 r.x, .int .i64 r.y, .int .i64 r.z] := hR 13 (by omega)
    have y14 : v23 14 = .tuple #[.int .i64 PP, .int .i64 0] := hR 14 (by omega)
    have y15 : v23 15 = .tuple #[.int .i64 PP, .int .i64 0] := hR 15 (by omega)
    have y16 : v23 16 = .int .i64 PP := hR 16 (by omega)
    have y17 : v23 17 = .int .i64 0 := hR 17 (by omega)
    have y18 : v23 18 = .int .i64 PP := hR 18 (by omega)
    simp only [List.range, List.range.loop, List.foldl_cons, List.foldl_nil, y0, y1, y2, y3, y4, y5, y6, y7, y8, y9, y10, y11, y12, y13, y14, y15, y16, y17, y18, List.drop_succ_cons, List.drop_zero]
    simp only [dstAt, List.getElem?_toArray, List.getElem?_cons_zero, List.getElem?_cons_succ, Option.bind_some, Act.put, List.setIfInBounds_toArray, List.set_cons_zero, List.set_cons_succ]
    clear y0 y1 y2 y3 y4 y5 y6 y7 y8 y9 y10 y11 y12 y13 y14 y15 y16 y17 y18 hR
    have HW16 := Lib.hid (hbw.out.trans (hE.below.mono hbw.out.size))
    have HB16 := Lib.hid (HBr.out.trans (hE.below.mono HBr.out.size))
    clear hE hbw Tr Xr Cr CK0 CK1 HWr HBr
    go_wp2_with fail
    refine (Level_any PP w16 (HST.out.keep HB16.out)).mono ?_
    rw [HPE.out]
    rintro e w17 ⟨rfl, hb17⟩
    have HW17 := Lib.hid (HW16.out.trans (hb17.mono HW16.out.size))
    clear hb17 HW16 HB16
    obtain ⟨lp, hlp⟩ : ∃ x, x = levelR PP := ⟨_, rfl⟩
    rw [← hlp] at LV ⊢
    have lc : decide (lv < lp) = false := decide_eq_false (by have := LV.out; omega)
    have b1 := R1.out
    have b2 := R2.out
    have b3 : QQ + PP ≤ 200000000000 := Int.le_trans P1.out HN1.out
    have wv : IntKind.i64.wrap (QQ + PP) = QQ + PP := IntWalk.i64_in _ (by omega)
    clear hlp
    go_wp2
    go_roundw
    case rel => exact ⟨k + 1, by omega, by go_num, by rw [← HTB.out, ← HE2.out], HW17.out⟩
    case measure => simp [intOf]; omega
end Go.Proofs.YtnbionhahifacaaDoor
