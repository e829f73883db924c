/- Texts QW QY of the proof. -/
import Derived.Test.YtmafmebcgmegeaaGreatDoorY39
import Derived.Test.YtmafmebcgmegeaaGreatDoorY2
import Derived.Test.YtmafmebcgmegeaaGreatDoorY3
import Derived.Test.YtmafmebcgmegeaaGreatDoorY18
import Derived.Test.YtmafmebcgmegeaaGreatDoorY19
import Derived.Test.YtmafmebcgmegeaaGreatDoorY20
namespace Go.Proofs.YtmafmebcgmegeaaGreatDoor
open Go.RowKit Go.Sort
/-- The directions that the law's variable holds. -/
def Turned (w : World) : Prop := ∀ i, i < 8 → w.cell? ⟨0, i * 2, none⟩ = some (.int .i64 (turnX.getD i 0)) ∧ w.cell? ⟨0, i * 2 + 1, none⟩ = some (.int .i64 (turnY.getD i 0))
theorem Turned.keep {w w' : World} (h : Turned w) (hb : Below w.heap.size w w') : Turned w' := fun i hi => by
  have k : ∀ {j : Nat} {v : Value}, w.cell? ⟨0, j, none⟩ = some v → w'.cell? ⟨0, j, none⟩ = some v := fun {j v} hc => by
    rw [hb.cell (p := ⟨0, j, none⟩) (World.block_lt_of_cell? _ _ hc)]; exact hc
  exact ⟨k (h i hi).1, k (h i hi).2⟩
def JetIs (v : Value) (w : World) : Prop := ∃ t : Tp, v = .agg t.cs ∧ JetB t w
def TrkIs (v : Value) (w : World) : Prop := ∃ g, v = .slice (some ⟨g, 0, none⟩) 2 2 ∧ Blk w g 152 trkC
theorem JetIs.is {v : Value} {w : World} (h : JetIs v w) : ∃ t : Tp, v = .agg t.cs ∧ TpOk w t ∧ t.nm = jetN ∧ t.sh = jetS ∧ t.T = jetT ∧ t.sn = 2 := by
  obtain ⟨t, e, h⟩ := h
  exact ⟨t, e, h.ok⟩
theorem TrkIs.is {v : Value} {w : World} (h : TrkIs v w) : ∃ g, v = .slice (some ⟨g, 0, none⟩) 2 2 ∧ FixesAt w g 0 2 trkL := by
  obtain ⟨g, e, h⟩ := h
  exact ⟨g, e, trk_at h⟩
theorem JetIs.turn {v : Value} {w w' : World} (h : JetIs v w) (k : ∀ g t cs, Blk w g t cs → t ≠ 100 → Blk w' g t cs) : JetIs v w' := by
  obtain ⟨t, e, g1, g2, g3, g4, g5, e2, F1, F2, F3, F4, F5⟩ := h
  exact ⟨t, e, g1, g2, g3, g4, g5, e2, k _ _ _ F1 (by decide), k _ _ _ F2 (by decide), k _ _ _ F3 (by decide), k _ _ _ F4 (by decide), k _ _ _ F5 (by decide)⟩
theorem TrkIs.turn {v : Value} {w w' : World} (h : TrkIs v w) (k : ∀ g t cs, Blk w g t cs → t ≠ 100 → Blk w' g t cs) : TrkIs v w' := by
  obtain ⟨g, e, F⟩ := h
  exact ⟨g, e, k _ _ _ F (by decide)⟩
theorem JetIs.keep {v : Value} {w w' : World} (h : JetIs v w) (hb : Below w.heap.size w w') : JetIs v w' := by
  exact h.turn fun g t cs h _ => h.below hb
theorem TrkIs.keep {v : Value} {w w' : World} (h : TrkIs v w) (hb : Below w.heap.size w w') : TrkIs v w' := by
  exact h.turn fun g t cs h _ => h.below hb
def GR.jet : GR := ⟨JetIs, fun h hE => h.keep hE⟩
def GR.trk : GR := ⟨TrkIs, fun h hE => h.keep hE⟩
theorem aw_jet (w : World) : Calls Tryz.prog 85 #[] w fun e w' => ∃ v, e = .returned v ∧ JetIs v w' ∧ Below w.heap.size w w' :=
  (jet_any w).mono fun e w' ⟨t, h1, h2, h7⟩ => ⟨_, h1, ⟨t, rfl, h2⟩, h7⟩
theorem aw_track (w : World) : Calls Tryz.prog 86 #[] w fun e w' => ∃ v, e = .returned v ∧ TrkIs v w' ∧ Below w.heap.size w w' :=
  (track_any w).mono fun e w' ⟨g, h1, h2, h3⟩ => ⟨_, h1, ⟨g, rfl, h2⟩, h3⟩
theorem aw_em {v : Value} {w : World} (h : JetIs v w) (p q V : Int) (hp : 1 ≤ p ∧ p ≤ 100) (hq : 0 ≤ q ∧ q ≤ 100000000000) (hv : Bell.emis jetT.sets (Bell.reachOf jetT.squares q) p = V) :
    Calls Tryz.prog 15 #[v, .int .i64 p, .int .i64 q] w fun e w' => e = .returned (.tuple #[.int .i64 V, .int .i64 0]) ∧ Below w.heap.size w w' := by
  obtain ⟨t, rfl, h1, h2, h3, h4, h5⟩ := h.is
  have := Emission_ok p q w h1 hp hq
  rwa [h4, hv] at this
theorem aw_at6 {v : Value} {w : World} (h : TrkIs v w) :
    Calls Tryz.prog 35 #[v, .int .i64 6] w fun e w' => e = .returned (.tuple #[.agg #[.int .i64 2, .int .i64 0, .int .i64 0, .int .i64 8, .int .i64 0, .int .i64 12], .int .i64 0]) ∧ Below w.heap.size w w' := by
  obtain ⟨g, rfl, h1⟩ := h.is
  have := At_ok g 0 2 2 trkL 6 w h1 trk_good (by decide) (by decide)
  rwa [v_st6] at this
theorem aw_at9 {v : Value} {w : World} (h : TrkIs v w) :
    Calls Tryz.prog 35 #[v, .int .i64 9] w fun e w' => e = .returned (.tuple #[.agg #[.int .i64 0, .int .i64 0, .int .i64 0, .int .i64 0, .int .i64 0, .int .i64 0], .int .i64 7]) ∧ Below w.heap.size w w' := by
  obtain ⟨g, rfl, h1⟩ := h.is
  exact At_late g 0 2 2 trkL 9 w h1 trk_good (by decide) (by decide)
theorem aw_expo {v u : Value} {w : World} (h : JetIs v w) (k : TrkIs u w) (f t V : Int) (h0 : 0 ≤ f) (h1 : f ≤ t) (h2 : t ≤ 100000000) (hv : Bell.expoOf jetT trkL nearP f t = V) :
    Calls Tryz.prog 55 #[v, u, .agg #[.int .i64 f, .int .i64 t], .agg #[.int .i64 4, .int .i64 2, .int .i64 0]] w fun e w' => e = .returned (.tuple #[.int .i64 V, .int .i64 0]) ∧ Below w.heap.size w w' := by
  obtain ⟨T, rfl, a1, a2, a3, a4, a5⟩ := h.is
  obtain ⟨g, rfl, b1⟩ := k.is
  have := Exposure_ok g 0 2 2 trkL f t nearP w a1 b1 trk_good near_good h0 h1 h2
  rwa [a4, hv] at this
theorem aw_max {v u : Value} {w : World} (h : JetIs v w) (k : TrkIs u w) :
    Calls Tryz.prog 56 #[v, u, .agg #[.int .i64 0, .int .i64 100000000], .agg #[.int .i64 4, .int .i64 2, .int .i64 0]] w fun e w' => e = .returned (.tuple #[.int .i64 850, .int .i64 8, .int .i64 0]) ∧ Below w.heap.size w w' := by
  obtain ⟨T, rfl, a1, a2, a3, a4, a5⟩ := h.is
  obtain ⟨g, rfl, b1⟩ := k.is
  have := Maximum_ok g 0 2 2 trkL 0 100000000 5 9 4 nearP w a1 b1 trk_good near_good (by omega) (by omega) (by omega) (by decide) (by decide) (by decide) (by omega)
  rwa [a4, v_mx] at this
theorem aw_enc {v u : Value} {w : World} (h : JetIs v w) (k : TrkIs u w) :
    Calls Tryz.prog 57 #[v, u, .agg #[.int .i64 4, .int .i64 2, .int .i64 0]] w fun e w' => e = .returned (.tuple #[.agg #[.int .i64 1000, .int .i64 8000], .int .i64 0]) ∧ Below w.heap.size w w' := by
  obtain ⟨T, rfl, a1, a2, a3, a4, a5⟩ := h.is
  obtain ⟨g, rfl, b1⟩ := k.is
  have := Enclosed_ok g 0 2 2 trkL nearP w a1 b1 trk_good near_good (Nat.le_refl _) (by omega)
  rwa [a4, show trkL.length - 1 = 1 from rfl, v_lo, v_hi] at this
theorem aw_band {v : Value} {w : World} (h : JetIs v w) :
    Calls Tryz.prog 19 #[v, .int .i64 101] w fun e w' => ∃ g, e = .returned (.tuple #[.slice (some ⟨g, 0, none⟩) 2 2, .int .i64 0]) ∧ IntsAt w' (some ⟨g, 0, none⟩) 2 [61, 40] ∧ Below w.heap.size w w' := by
  obtain ⟨t, rfl, a1, a2, a3, a4, a5⟩ := h.is
  have := Banded_ok 101 w a1 (by omega)
  rw [a5, a3] at this
  refine this.mono fun e w' ⟨g, e1, hc, hb⟩ => ⟨g, e1, ⟨rfl, fun _ => ⟨g, 0, rfl, fun i hi => ?_⟩⟩, hb⟩
  rw [Nat.zero_add, hc i hi]
  match i, hi with
  | 0, _ => rw [v_b0]; rfl
  | 1, _ => rw [v_b1]; rfl
theorem aw_rep2 {v : Value} {w : World} (h : TrkIs v w) :
    Calls Tryz.prog 37 #[v, .int .i64 2] w fun e w' => ∃ g, e = .returned (.tuple #[.slice (some ⟨g, 0, none⟩) 2 2, .int .i64 0]) ∧ Below w.heap.size w w' := by
  obtain ⟨g, rfl, h1⟩ := h.is
  refine (Repaired_any g 0 2 2 trkL 2 w h1 trk_good (Nat.le_refl _) (by omega)).mono fun e w' ⟨h, hb⟩ => ?_
  obtain ⟨g', e1, _⟩ := (h.2 (by decide)).2 (by rw [v_r2]; decide)
  rw [v_r2] at e1
  exact ⟨g', e1, hb⟩
theorem aw_rep1 {v : Value} {w : World} (h : TrkIs v w) :
    Calls Tryz.prog 37 #[v, .int .i64 1] w fun e w' => e = .returned (.tuple #[.slice none 0 0, .int .i64 16]) ∧ Below w.heap.size w w' := by
  obtain ⟨g, rfl, h1⟩ := h.is
  exact (Repaired_any g 0 2 2 trkL 1 w h1 trk_good (Nat.le_refl _) (by omega)).mono fun e w' ⟨h, hb⟩ => ⟨(h.2 (by decide)).1 (by rw [v_r1]; decide), hb⟩
end Go.Proofs.YtmafmebcgmegeaaGreatDoor

namespace Go.Proofs.YtmafmebcgmegeaaGreatDoor
open Go.RowKit
/-- Where the operations write: all have a place, and each its own; none has a guard; what one waits for comes before it. -/
def allB (ops : Array Oper) : Bool := (List.range ops.size).all fun i => match ops[i]? with
  | none => false
  | some o => o.guard.isNone && (o.after.all fun e => !Region.binds .any e || decide (e.on < i)) && (match o.dst with | none => false | some t => (List.range ops.size).all fun j => decide (j = i) || decide (dstAt ops j ≠ some t))
theorem allB_spec {ops : Array Oper} (h : allB ops = true) : (∀ i, i < ops.size → ∃ o t, ops[i]? = some o ∧ o.guard = none ∧ o.dst = some t ∧ (∀ j, j < ops.size → j ≠ i → dstAt ops j ≠ some t) ∧ ∀ e, e ∈ o.after → Region.binds .any e = true → e.on < i) := by
  intro i hi
  unfold allB at h
  have h1 := List.all_eq_true.1 h i (by simpa using hi)
  cases ho : ops[i]? with
  | none => rw [ho] at h1; simp at h1
  | some o =>
    rw [ho] at h1
    simp only [Bool.and_eq_true] at h1
    obtain ⟨⟨h2, h4⟩, h3⟩ := h1
    cases hd : o.dst with
    | none => rw [hd] at h3; simp at h3
    | some t =>
      rw [hd] at h3
      refine ⟨o, t, rfl, by simpa using h2, hd, fun j hj hji => ?_, fun e he hb => ?_⟩
      · have := List.all_eq_true.1 h3 j (by simpa using hj)
        simpa [hji] using this
      · have := Array.all_eq_true_iff_forall_mem.1 h4 e he
        simpa [hb] using this
theorem allReady {ops : Array Oper} {seen : Array Bool} (hB : allB ops = true) (inv : HeadInv .any ops ops.size seen) : ∀ {i : Nat}, i < ops.size → seen.getD i true = false → ∃ k, k < ops.size ∧ k ∈ Region.ready .any ops seen := by
  intro i
  induction i using Nat.strongRecOn with
  | _ i ih =>
    intro hi hun
    obtain ⟨o, t, ho, _, _, _, hb⟩ := allB_spec hB i hi
    by_cases hall : ∀ e, e ∈ o.after → Region.binds .any e = true → seen.getD e.on false = true
    · exact ⟨i, hi, mem_ready.2 ⟨hun, o, ho, hall⟩⟩
    · simp only [Classical.not_forall] at hall
      obtain ⟨e, he, hbe, hne⟩ := hall
      have h1 := hb e he hbe
      have hlt : i < ops.size := (Array.getElem?_eq_some_iff.1 ho).1
      exact ih e.on h1 (by omega) (getD_in (by rw [inv.size]; omega) (by simpa using hne))
theorem wp_region_all {P : Program} {id : Nat} {Q : Exit → Act → World → Prop} {f : Act} {w : World} {l : List Oper} (hm : P.follows .mixedOrders = true) (hB : allB l.toArray = true) (Rs : List GR) (size : Nat) (hsz : f.tmps.size = size) (hfB : dstB l.toArray l.length size = true)
    (hstep : growSteps P Q l.toArray f w Rs l.length l 0)
    (h : ∀ (vs : Nat → Value) (W : World), Ext w W → (∀ i, i < l.length → (GR.at Rs i).r (vs i) W) → wpList P l.toArray Q [] ((List.range l.length).foldl (fun a i => a.put (dstAt l.toArray i) (vs i)) f) W) : (Code.region id l.toArray true).wp P Q f w := by
  obtain ⟨n, hn⟩ : ∃ n, n = l.length := ⟨_, rfl⟩
  rw [← hn] at hfB hstep h
  have hf : ∀ i t, i < n → dstAt l.toArray i = some t → t < f.tmps.size := fun i t hi ht => by
    have := List.all_eq_true.1 hfB i (by simpa using hi)
    rw [ht] at this
    rw [hsz]
    simpa using this
  have hspec := allB_spec hB
  have hnz : l.toArray.size = n := by rw [hn]; simp
  have hspec : ∀ i, i < n → ∃ o t, l.toArray[i]? = some o ∧ o.guard = none ∧ o.dst = some t ∧ (∀ j, j < n → j ≠ i → dstAt l.toArray j ≠ some t) ∧ ∀ e, e ∈ o.after → Region.binds .any e = true → e.on < i := by
    rw [← hnz]; exact hspec
  have hdl : ([] : List Oper).length = l.toArray.size - n := by rw [hnz]; simp
  refine wp_region_any hm ?_
  -- the count of operations of the head that are still to come
  have main : ∀ (g : Nat) (seen : Array Bool) (vs : Nat → Value) (W : World), ((List.range n).filter fun i => !seen.getD i true).length = g → HeadInv .any l.toArray n seen → Ext w W → (∀ i, i < n → seen.getD i false = true → (GR.at Rs i).r (vs i) W) →
      wpAny P .any l.toArray Q (g + (l.toArray.size - n)) seen (fillA l.toArray vs seen (List.range n) f) W := by
    intro g
    induction g with
    | zero =>
      intro seen vs W hg inv hE hR
      have hall : ∀ i, i < n → seen.getD i true = true := fun i hi => by
        have := List.eq_nil_of_length_eq_zero hg
        rw [List.filter_eq_nil_iff] at this
        simpa using this i (by simpa using hi)
      have hsz := inv.size
      have hall' : ∀ i, i < n → seen.getD i false = true := fun i hi => by
        have h1 : i < seen.size := by rw [hsz]; omega
        have h2 := hall i hi
        simp [h1] at h2 ⊢; exact h2
      have hseen : seen = (Array.replicate n true) ++ (Array.replicate (l.toArray.size - n) false) := by
        refine Array.ext (by simp [hsz]; omega) fun i h1 h2 => ?_
        rcases Nat.lt_or_ge i n with hi | hi
        · have h3 := hall i hi
          simp [h1] at h3
          rw [h3, Array.getElem_append_left (by simpa using hi)]
          simp
        · have h3 := inv.tail i hi (by rw [← hsz]; exact h1)
          simp [h1] at h3
          rw [h3, Array.getElem_append_right (by simpa using hi)]
          simp
      have hfill : fillA l.toArray vs seen (List.range n) f = (List.range n).foldl (fun a i => a.put (dstAt l.toArray i) (vs i)) f := by
        have : ∀ (t : List Nat) (f : Act), (∀ i, i ∈ t → i < n) → fillA l.toArray vs seen t f = t.foldl (fun a i => a.put (dstAt l.toArray i) (vs i)) f := by
          intro t
          induction t with
          | nil => intro f _; rfl
          | cons k t ih =>
            intro f ht
            rw [fillA_cons, List.foldl_cons, if_pos (hall' k (ht k (by simp)))]
            exact ih _ fun i hi => ht i (List.mem_cons_of_mem _ hi)
        exact this _ _ fun i hi => by simpa using hi
      rw [hfill, Nat.zero_add]
      have := wpAny_of_seq (md := .any) (Q' := Q) ([] : List Oper) n seen _ W (fun j => by simp [hn]) (by
        show (Region.ready .any l.toArray seen).isEmpty = true
        rw [List.isEmpty_iff, List.eq_nil_iff_forall_not_mem]
        intro j hj
        obtain ⟨h1, o, h2, _⟩ := mem_ready.1 hj
        have h3 := hall j (by rw [← hnz]; exact (Array.getElem?_eq_some_iff.1 h2).1)
        rw [h3] at h1
        cases h1) (h vs W hE fun i hi => hR i hi (hall' i hi))
      rwa [hdl] at this
    | succ g ih =>
      intro seen vs W hg inv hE hR
      obtain ⟨i0, hi0⟩ : ∃ i, i ∈ (List.range n).filter fun i => !seen.getD i true := by
        cases hl : (List.range n).filter fun i => !seen.getD i true with
        | nil => rw [hl] at hg; simp at hg
        | cons b t => exact ⟨b, by simp⟩
      rw [List.mem_filter] at hi0
      have hi1 : i0 < n := by simpa using hi0.1
      have hi2 : seen.getD i0 true = false := by simpa using hi0.2
      have early : ∀ j, j ∈ Region.ready .any l.toArray seen → j < n := fun j hj => by
        obtain ⟨_, o, ho, _⟩ := mem_ready.1 hj
        rw [← hnz]
        exact (Array.getElem?_eq_some_iff.1 ho).1
      rw [show g + 1 + (l.toArray.size - n) = (g + (l.toArray.size - n)) + 1 by omega]
      refine ⟨fun hnil => ?_, fun i hi => ?_⟩
      · -- some operation of the head is ready: the first of those that are still to come by the order of its waits
        exfalso
        have hmin : ∃ i, i < n ∧ i ∈ Region.ready .any l.toArray seen := by
          have h9 := allReady hB (by rw [hnz]; exact inv) (by rw [hnz]; exact hi1) hi2
          rw [hnz] at h9
          exact h9
        obtain ⟨i, _, hir⟩ := hmin
        rw [hnil] at hir
        cases hir
      · have hin := early i hi
        obtain ⟨hun, o', ho', hall⟩ := mem_ready.1 hi
        obtain ⟨o, t, ho, hgd, hdst, hdis, _⟩ := hspec i hin
        have : o' = o := Option.some.inj (ho'.symm.trans ho)
        subst this
        have hdi : dstAt l.toArray i = some t := by simp [dstAt, ho, hdst]
        have hlo : l[i]? = some o' := by simpa using ho
        have st := growSteps_at l 0 hstep i o' hlo
        rw [Nat.zero_add] at st
        have hnd : (List.range n).Nodup := List.nodup_range
        have hisz : i < seen.size := by rw [inv.size]; omega
        have hus : seen.getD i false = false := getD_both hun
        unfold wpOp
        simp only [ho]
        rw [if_pos (by simp [Region.wanted, hgd])]
        refine Or.inl (Oper.wp_mono ?_ (st _ W hE ?_ ?_))
        · rintro a' W' ⟨v, rfl, hE', hr⟩
          rw [hdst, ← hdi, ← fillA_put (vs := vs) (v := v) hus hisz (List.range n) f (by simpa using hin) hnd (fun j hj hji d hd => by rw [hdi]; intro e; exact hdis j (by simpa using hj) hji (hd.trans e.symm))]
          refine ih _ _ _ ?_ (inv.set hi hin) (hE.trans hE') fun j hj hsj => ?_
          · have hlen := filter_set hisz hun n hin
            omega
          · by_cases hji : i = j
            · subst hji
              rw [show updN vs i v i = v by simp [updN]]
              exact hr
            · rw [getD_set_ne false hji] at hsj
              rw [show updN vs i v j = vs j by simp [updN, Ne.symm hji]]
              exact (GR.at Rs j).keep (hR j hj hsj) hE'
        · intro j t' hj hd
          obtain ⟨e, he, hh⟩ := Array.any_eq_true'.1 hj
          simp only [Bool.and_eq_true, decide_eq_true_eq] at hh
          obtain ⟨hb, rfl⟩ := hh
          have hsj := hall e he hb
          have hjn : e.on < n := by
            rcases Nat.lt_or_ge e.on n with h1 | h1
            · exact h1
            · exfalso
              rcases Nat.lt_or_ge e.on l.toArray.size with h2 | h2
              · have h3 := getD_both (inv.tail e.on h1 h2)
                rw [h3] at hsj; cases hsj
              · rw [Array.getD_eq_getD_getElem?, Array.getElem?_eq_none (by rw [inv.size]; exact h2)] at hsj
                simp at hsj
          rw [← eval_getD, fillA_at hsj hd (List.range n) f (hf _ _ hjn hd) (by simpa using hjn) hnd (fun k hk hkj hk2 => by
            obtain ⟨o2, t2, ho2, _, hd2, hdis2, _⟩ := hspec e.on hjn
            have e2 : dstAt l.toArray e.on = some t2 := by simp [dstAt, ho2, hd2]
            rw [e2] at hd
            exact hdis2 k (by simpa using hk) hkj (by rw [hk2, hd]))]
          exact hR _ hjn hsj
        · intro t' hx
          rw [← eval_getD, ← eval_getD]
          refine fillA_other (List.range n) f fun j hj => ?_
          have := List.all_eq_true.1 hx j hj
          simpa using this
  have h0 := main n (Array.replicate l.toArray.size false) (fun _ => undef) w.drew ?_ ⟨by simp, fun j oj _ hl => (by rw [getD_replicate_false] at hl; cases hl), fun t _ ht => getD_in (by simpa using ht) (getD_replicate_false _ _)⟩ (Ext.drew w) (fun i _ hl => by rw [getD_replicate_false] at hl; cases hl)
  · have hfill : fillA l.toArray (fun _ => undef) (Array.replicate l.toArray.size false) (List.range n) f = f := by
      have : ∀ (t : List Nat) (f : Act), fillA l.toArray (fun _ => undef) (Array.replicate l.toArray.size false) t f = f := by
        intro t
        induction t with
        | nil => intro f; rfl
        | cons k t ih =>
          intro f
          rw [fillA_cons, if_neg (by rw [getD_replicate_false]; decide)]
          exact ih f
      exact this _ _
    rw [hfill, show n + (l.toArray.size - n) = l.toArray.size by omega] at h0
    exact h0
  · have : (List.range n).filter (fun i => !(Array.replicate l.toArray.size false).getD i true) = List.range n := by
      rw [List.filter_eq_self]
      intro i hi
      have : i < n := by simpa using hi
      have : i < l.length := by omega
      simp [this]
    rw [this]
    simp
theorem wp_region_allN {P : Program} {id : Nat} {Q : Exit → Act → World → Prop} {f : Act} {w : World} {l : List Oper} (n : Nat) (hn : l.length = n) (hm : P.follows .mixedOrders = true) (hB : allB l.toArray = true) (Rs : List GR) (size : Nat) (hsz : f.tmps.size = size) (hfB : dstB l.toArray n size = true)
    (hstep : growSteps P Q l.toArray f w Rs n l 0)
    (h : ∀ (vs : Nat → Value) (W : World), Ext w W → (∀ i, i < n → (GR.at Rs i).r (vs i) W) → wpList P l.toArray Q [] ((List.range n).foldl (fun a i => a.put (dstAt l.toArray i) (vs i)) f) W) : (Code.region id l.toArray true).wp P Q f w := by
  subst hn
  exact wp_region_all hm hB Rs size hsz hfB hstep h
end Go.Proofs.YtmafmebcgmegeaaGreatDoor
