/- Texts Fi Qh of the proof. -/
import Derived.Test.YtmafmebcgmegeaaGreatDoorFz48
import Derived.Test.YtmafmebcgmegeaaGreatDoorCards
import Derived.Test.YtmafmebcgmegeaaGreatDoorTie
import Derived.ProofKit
import Derived.OpenShut
import Derived.Deep.DeepHandedRow
import Derived.Lib.LaidTab
import Derived.Stop.LaidErr
import Derived.Carry
import Derived.ChangeSlices
import Derived.Test.YtmafmebcgmegeaaGreatDoorFz1
import Derived.Test.YtmafmebcgmegeaaGreatDoorFz44
namespace Go.Proofs.YtmafmebcgmegeaaGreatDoor
open Go.RowKit Go.Sort
def RflsAt (w : World) (A : Option Addr) (n : Nat) (fs : List Fl) : Prop :=
  fs.length = n ∧ (0 < n → ∃ b o, A = some ⟨b, o, Option.none⟩ ∧ ∀ i, i < n → (w.cell? ⟨b, o + i * 3, Option.none⟩ = some (.string (flAt fs i).nm) ∧ w.cell? ⟨b, o + i * 3 + 1, Option.none⟩ = some (.string (flAt fs i).ty) ∧ w.cell? ⟨b, o + i * 3 + 2, Option.none⟩ = some (.slice (flAt fs i).A (flAt fs i).n (flAt fs i).c)) ∧ TrAt w (flAt fs i).A (flAt fs i).n (flAt fs i).tr)
theorem RflsAt.keep {w w' : World} {A : Option Addr} {n : Nat} {fs : List Fl} (h : RflsAt w A n fs) (hb : Below w.heap.size w w') : RflsAt w' A n fs :=
  ⟨h.1, fun hn => by
    obtain ⟨b, o, e, hc⟩ := h.2 hn
    have k : ∀ {j : Nat} {v : Value}, w.cell? ⟨b, j, Option.none⟩ = some v → w'.cell? ⟨b, j, Option.none⟩ = some v := fun {j v} hc => by
      rw [hb.cell (p := ⟨b, j, Option.none⟩) (World.block_lt_of_cell? _ _ hc)]; exact hc
    exact ⟨b, o, e, fun i hi => ⟨⟨k (hc i hi).1.1, k (hc i hi).1.2.1, k (hc i hi).1.2.2⟩, (hc i hi).2.keep hb⟩⟩⟩
structure SmallF (ts : List Tq) (n : Nat) (fs : List Fl) (fn : Nat) : Prop where
  ty : ∀ i, i < n → ShortT (tqAt ts i).nm (tqAt ts i).sn (tqAt ts i).qn (tqAt ts i).gn (tqAt ts i).T.sets
  fl : ∀ i, i < fn → (flAt fs i).n ≤ 17 ∧ (flAt fs i).nm.size ≤ 40 ∧ (flAt fs i).ty.size ≤ 40
  n9 : n ≤ 9
  f17 : fn ≤ 17
theorem RflsAt.small {w : World} {A : Option Addr} {n tn : Nat} {fs : List Fl} {ts : List Tq} (h : RflsAt w A n fs) (hs : SmallF ts tn fs n) : FlsAt w A n fs :=
  ⟨h.1, fun hn => by
    obtain ⟨b, o, e, hc⟩ := h.2 hn; exact ⟨b, o, e, fun i hi => ⟨(hc i hi).1, ⟨(hc i hi).2, by have := (hs.fl i hi).1; omega, by have := (hs.fl i hi).2.1; omega⟩⟩⟩⟩
theorem refShortTrack_of (A : Option Addr) (n c : Nat) (w : World) :
    Calls Tryz.prog 34 #[.slice A n c] w fun e w' => e = .returned (.bool (decide ((n : Int) ≤ 17))) ∧ w' = w := by
  go_enter Tryz.func34, Tryz.ntmps34
  go_wp2
  go_ret
  exact ⟨rfl, rfl⟩
set_option maxHeartbeats 2000000 in
set_option maxRecDepth 100000 in
theorem refShortFlights_any (A : Option Addr) (n c : Nat) (ts : List Tq) (FA : Option Addr) (fn fc : Nat) (fs : List Fl) (w : World) (hts : RqsAt w A n ts) (hg : ∀ i, i < n → (tqAt ts i).gn ≤ 140737488351232) (hfs : RflsAt w FA fn fs) (hn : n ≤ 9223372036854775807) (hfn : fn ≤ 9223372036854775807) :
    Calls Tryz.prog 62 #[.slice A n c, .slice FA fn fc] w fun e w' => ∃ b : Bool, e = .returned (.bool b) ∧ (b = true → SmallF ts n fs fn) ∧ Below w.heap.size w w' := by
  have HTS := Lib.hid hts; have HGN := Lib.hid hg; have HFS := Lib.hid hfs; clear hts hg hfs
  go_enter Tryz.func62, Tryz.ntmps62
  go_wp2
  go_loopw [5] (fun k wr => ∃ j : Nat, j ≤ n ∧ k = .int .i64 j ∧ Hid (∀ i, i < j → ShortT (tqAt ts i).nm (tqAt ts i).sn (tqAt ts i).qn (tqAt ts i).gn (tqAt ts i).T.sets) ∧ Hid (Below w.heap.size w wr)) (fun k _ => n - (intOf k).toNat)
  case atStart => exact ⟨0, Nat.zero_le _, rfl, (fun i hi => by omega), Below.refl _ _⟩
  case round =>
    obtain ⟨j, hj, rfl, hz, hb⟩ := hrel; have HB := Lib.hid hb.out; clear hb
    by_cases hlt : j < n
    · have hd : decide ((j : Int) < (n : Int)) = true := decide_eq_true (by omega); have pj : (j : Int) < (n : Int) := by omega
      have vj : IntKind.i64.wrap ((j : Int) + 1) = ((j + 1 : Nat) : Int) := by rw [IntWalk.i64_in _ (by omega)]; omega
      obtain ⟨b, o, rfl, hc⟩ := (HTS.out.keep HB.out).2 (by omega); obtain ⟨hrg, hrt⟩ := hc j hlt; have hgn := HGN.out j hlt; obtain ⟨T, hT⟩ : ∃ T, T = tqAt ts j := ⟨_, rfl⟩; have HTJ := Lib.hid hT; rw [← hT] at hrg hrt hgn; have HC := Lib.hid (fun W (hE : Below wr.heap.size wr W) => refShortTy_any W (hrt.keep hE) hgn); have HRG := Lib.hid hrg; clear hc hrg hrt hgn hT
      go_wp2_with (refine wpList_load_mid rfl 26 _ rfl b (o + j * 13) rfl T.cs.toList _ HRG.out Tryz.underlying26 rfl (by kernel_rfl) ?_)
      refine Calls.mono (HC.out wr (Below.refl _ _)) ?_; rintro e wb ⟨⟨bl, rfl, hsh⟩, hb⟩; replace HB := Lib.hid (HB.out.trans (hb.mono HB.out.size)); clear hb
      cases bl
      case false =>
        go_wp2
        (try simp only [Exit.inBlock, Exit.then])
        refine bodyPost_ret (v := .bool false) (by simp [results, Tryz.results62, go_sem, asAddr]) rfl ?_; exact ⟨false, rfl, (fun h => (by cases h)), HB.out⟩
      have hq : Hid (∀ i, i < j + 1 → ShortT (tqAt ts i).nm (tqAt ts i).sn (tqAt ts i).qn (tqAt ts i).gn (tqAt ts i).T.sets) := fun i hi => by
        rcases Nat.lt_or_ge i j with h | h
        · exact hz.out i h
        · obtain rfl : i = j := by omega
          have := hsh rfl; rw [HTJ.out] at this; exact this
      clear hsh HC HRG hz; go_wp2; go_roundw
      case rel => exact ⟨j + 1, by omega, by go_num, hq, HB⟩
      case measure => simp [intOf]; omega
    · have hd : decide ((j : Int) < (n : Int)) = false := decide_eq_false (by omega); obtain rfl : j = n := by omega
      obtain ⟨w0, hw0⟩ : ∃ W, W = wr := ⟨_, rfl⟩; have HTZ := Lib.hid hz.out; rw [← hw0] at HB ⊢; clear hw0 hz HTS HGN hlt hj
      go_upto_region 6 with fail
      clear hd; go_wp2
      go_loopw [6] (fun k wr => ∃ q : Nat, q ≤ fn ∧ k = .int .i64 q ∧ Hid (∀ i, i < q → (flAt fs i).n ≤ 17 ∧ (flAt fs i).nm.size ≤ 40 ∧ (flAt fs i).ty.size ≤ 40) ∧ wr = w0) (fun k _ => fn - (intOf k).toNat)
      case atStart => exact ⟨0, Nat.zero_le _, rfl, (fun i hi => by omega), rfl⟩
      case round =>
        obtain ⟨q, hq, rfl, hz, hw⟩ := hrel; obtain rfl := hw.symm
        by_cases hlt : q < fn
        · have hd : decide ((q : Int) < (fn : Int)) = true := decide_eq_true (by omega); have pq : (q : Int) < (fn : Int) := by omega
          have vq : IntKind.i64.wrap ((q : Int) + 1) = ((q + 1 : Nat) : Int) := by rw [IntWalk.i64_in _ (by omega)]; omega
          obtain ⟨b, o, rfl, hc⟩ := (HFS.out.keep HB.out).2 (by omega); obtain ⟨⟨c0, c1, c2⟩, _⟩ := hc q hlt; obtain ⟨f, hf⟩ : ∃ f, f = flAt fs q := ⟨_, rfl⟩; have HFQ := Lib.hid hf; rw [← hf] at c0 c1 c2; clear hc hf
          go_wp2_with fail
          refine (refShortTrack_of f.A f.n f.c _).mono ?_; rintro e wx ⟨rfl, hwx⟩; obtain rfl := hwx.symm
          by_cases h1 : f.n ≤ 17
          case neg =>
            have e1 : decide ((f.n : Int) ≤ 17) = false := decide_eq_false (by omega); go_wp2
            (try simp only [Exit.inBlock, Exit.then])
            refine bodyPost_ret (v := .bool false) (by simp [results, Tryz.results62, go_sem, asAddr]) rfl ?_; exact ⟨false, rfl, (fun h => (by cases h)), HB.out⟩
          have e1 : decide ((f.n : Int) ≤ 17) = true := decide_eq_true (by omega)
          by_cases h2 : f.nm.size ≤ 40
          case neg =>
            have e2 : decide ((40 : Int) < (f.nm.size : Int)) = true := decide_eq_true (by omega); go_wp2
            (try simp only [Exit.inBlock, Exit.then])
            refine bodyPost_ret (v := .bool false) (by simp [results, Tryz.results62, go_sem, asAddr]) rfl ?_; exact ⟨false, rfl, (fun h => (by cases h)), HB.out⟩
          have e2 : decide ((40 : Int) < (f.nm.size : Int)) = false := decide_eq_false (by omega)
          by_cases h3 : f.ty.size ≤ 40
          case neg =>
            have e3 : decide ((40 : Int) < (f.ty.size : Int)) = true := decide_eq_true (by omega); go_wp2
            (try simp only [Exit.inBlock, Exit.then])
            refine bodyPost_ret (v := .bool false) (by simp [results, Tryz.results62, go_sem, asAddr]) rfl ?_; exact ⟨false, rfl, (fun h => (by cases h)), HB.out⟩
          have e3 : decide ((40 : Int) < (f.ty.size : Int)) = false := decide_eq_false (by omega)
          have hq2 : Hid (∀ i, i < q + 1 → (flAt fs i).n ≤ 17 ∧ (flAt fs i).nm.size ≤ 40 ∧ (flAt fs i).ty.size ≤ 40) := fun i hi => by
            rcases Nat.lt_or_ge i q with h | h
            · exact hz.out i h
            · obtain rfl : i = q := by omega
              rw [← HFQ.out]; exact ⟨h1, h2, h3⟩
          clear hz; go_wp2; go_roundw
          case rel => exact ⟨q + 1, by omega, by go_num, hq2, trivial⟩
          case measure => simp [intOf]; omega
        · have hd : decide ((q : Int) < (fn : Int)) = false := decide_eq_false (by omega); obtain rfl : q = fn := by omega
          have HFZ := Lib.hid hz.out; clear hz hlt hq
          go_upto_region 11 with fail
          clear hd
          by_cases k1 : j ≤ 4
          case pos =>
            have e1 : decide ((j : Int) ≤ 4) = true := decide_eq_true (by omega)
            by_cases g1 : q ≤ 4
            case pos =>
              have e3 : decide ((q : Int) ≤ 4) = true := decide_eq_true (by omega); go_wp2
              (try simp only [Exit.inBlock, Exit.then])
              refine bodyPost_ret (v := .bool true) (by simp [results, Tryz.results62, go_sem, asAddr]) rfl ?_
              first | exact ⟨true, rfl, (fun _ => ⟨HTZ.out, HFZ.out, by omega, by omega⟩), HB.out⟩ | exact .inr ⟨rfl, ⟨fun i hi => HTZ.out i (by omega), fun i hi => HFZ.out i (by omega), by omega, by omega⟩, HB.out⟩
            have e3 : decide ((q : Int) ≤ 4) = false := decide_eq_false (by omega)
            by_cases g2 : q = 17
            case pos =>
              have e4 : ((q : Int) == 17) = true := by simp; omega
              go_wp2
              (try simp only [Exit.inBlock, Exit.then])
              refine bodyPost_ret (v := .bool true) (by simp [results, Tryz.results62, go_sem, asAddr]) rfl ?_
              first | exact ⟨true, rfl, (fun _ => ⟨HTZ.out, HFZ.out, by omega, by omega⟩), HB.out⟩ | exact .inr ⟨rfl, ⟨fun i hi => HTZ.out i (by omega), fun i hi => HFZ.out i (by omega), by omega, by omega⟩, HB.out⟩
            have e4 : ((q : Int) == 17) = false := by simp; omega
            go_wp2
            (try simp only [Exit.inBlock, Exit.then])
            refine bodyPost_ret (v := .bool false) (by simp [results, Tryz.results62, go_sem, asAddr]) rfl ?_
            first | exact ⟨false, rfl, (fun h => (by cases h)), HB.out⟩ | exact .inl ⟨rfl, HB.out⟩
          have e1 : decide ((j : Int) ≤ 4) = false := decide_eq_false (by omega)
          by_cases k2 : j = 9
          case pos =>
            have e2 : ((j : Int) == 9) = true := by simp; omega
            by_cases g1 : q ≤ 4
            case pos =>
              have e3 : decide ((q : Int) ≤ 4) = true := decide_eq_true (by omega); go_wp2
              (try simp only [Exit.inBlock, Exit.then])
              refine bodyPost_ret (v := .bool true) (by simp [results, Tryz.results62, go_sem, asAddr]) rfl ?_
              first | exact ⟨true, rfl, (fun _ => ⟨HTZ.out, HFZ.out, by omega, by omega⟩), HB.out⟩ | exact .inr ⟨rfl, ⟨fun i hi => HTZ.out i (by omega), fun i hi => HFZ.out i (by omega), by omega, by omega⟩, HB.out⟩
            have e3 : decide ((q : Int) ≤ 4) = false := decide_eq_false (by omega)
            by_cases g2 : q = 17
            case pos =>
              have e4 : ((q : Int) == 17) = true := by simp; omega
              go_wp2
              (try simp only [Exit.inBlock, Exit.then])
              refine bodyPost_ret (v := .bool true) (by simp [results, Tryz.results62, go_sem, asAddr]) rfl ?_
              first | exact ⟨true, rfl, (fun _ => ⟨HTZ.out, HFZ.out, by omega, by omega⟩), HB.out⟩ | exact .inr ⟨rfl, ⟨fun i hi => HTZ.out i (by omega), fun i hi => HFZ.out i (by omega), by omega, by omega⟩, HB.out⟩
            have e4 : ((q : Int) == 17) = false := by simp; omega
            go_wp2
            (try simp only [Exit.inBlock, Exit.then])
            refine bodyPost_ret (v := .bool false) (by simp [results, Tryz.results62, go_sem, asAddr]) rfl ?_
            first | exact ⟨false, rfl, (fun h => (by cases h)), HB.out⟩ | exact .inl ⟨rfl, HB.out⟩
          have e2 : ((j : Int) == 9) = false := by simp; omega
          go_wp2
          (try simp only [Exit.inBlock, Exit.then])
          refine bodyPost_ret (v := .bool false) (by simp [results, Tryz.results62, go_sem, asAddr]) rfl ?_
          first | exact ⟨false, rfl, (fun h => (by cases h)), HB.out⟩ | exact .inl ⟨rfl, HB.out⟩
theorem firstR_congr {f g : Nat → Int} {n : Nat} (h : ∀ i, i < n → f i = g i) : firstR f n = firstR g n := by
  unfold firstR; rw [List.map_congr_left fun i hi => h i (List.mem_range.1 hi)]
theorem find_congr {p q : Nat → Bool} {n : Nat} (h : ∀ i, i < n → p i = q i) : (List.range n).find? p = (List.range n).find? q := by
  have : ∀ l : List Nat, (∀ i, i ∈ l → i < n) → l.find? p = l.find? q := fun l => by
    induction l with
    | nil => intro _; rfl
    | cons a l ih =>
      intro hl; rw [List.find?_cons, List.find?_cons, h a (hl a (by simp)), ih fun i hi => hl i (by simp [hi])]
  exact this _ fun i hi => List.mem_range.1 hi
theorem fixI_congr {ns ms : Nat → ByteArray} {n : Nat} (h : ∀ i, i < n → ns i = ms i) (s : ByteArray) : fixI ns n s = fixI ms n s := by
  unfold fixI; rw [find_congr (p := fun i => decide (ns i = s)) (q := fun i => decide (ms i = s)) fun i hi => by rw [h i hi]]
theorem tyIx_sim {ts ts' : List Tq} {n : Nat} (h : SimT ts ts' n) (s : ByteArray) : tyIx ts' n s = tyIx ts n s := by
  unfold tyIx; rw [find_congr (p := fun k => decide ((tqAt ts' k).nm = s)) (q := fun k => decide ((tqAt ts k).nm = s)) fun i hi => by rw [(h i hi).1]]
theorem namedE_sim {ts ts' : List Tq} {n : Nat} (h : SimT ts ts' n) : namedE ts' n = namedE ts n := by
  unfold namedE
  rw [firstR_congr (f := tqE ts') (g := tqE ts) fun i hi => by
    obtain ⟨e1, e2, e3⟩ := h i hi; rw [tqE_ref, tqE_ref, e1, e2, e3, fixI_congr (ns := fun k => (tqAt ts' k).nm) (ms := fun k => (tqAt ts k).nm) (fun k hk => (h k (by omega)).1)]]
theorem flsE_sim {ts ts' : List Tq} {tn : Nat} {fs fs' : List Fl} {fn : Nat} (h : SimT ts ts' tn) (hf : SimF fs fs' fn) (hl : fs.length = fn) (hl' : fs'.length = fn) : flsE (kqTo ts' tn) fs' = flsE (kqTo ts tn) fs := by
  unfold flsE
  rw [hl, hl', firstR_congr (f := flAtE (kqTo ts' tn) fs') (g := flAtE (kqTo ts tn) fs) fun i hi => by
    obtain ⟨e1, e2, e3⟩ := hf i hi; rw [flAtE_ref, flAtE_ref, e1, e2, e3, fixI_congr (ns := fun k => (flAt fs' k).nm) (ms := fun k => (flAt fs k).nm) (fun k hk => (hf k (by omega)).1), fixI_congr (ns := fun k => (tqAt ts' k).nm) (ms := fun k => (tqAt ts k).nm) (fun k hk => (h k hk).1)]]
theorem exE_sim {ts ts' : List Tq} {tn : Nat} {fs fs' : List Fl} {fn : Nat} (h : SimT ts ts' tn) (hf : SimF fs fs' fn) (hl : fs.length = fn) (hl' : fs'.length = fn) (r : Bell.Pl) : exE ts' tn fs' r = exE ts tn fs r ∧ cfE ts' tn fs' = cfE ts tn fs := by
  unfold exE cfE; rw [namedE_sim h, flsE_sim h hf hl hl']; exact ⟨rfl, rfl⟩
theorem exV_sim {ts ts' : List Tq} {tn : Nat} {fs fs' : List Fl} {fn : Nat} (h : SimT ts ts' tn) (hf : SimF fs fs' fn) (hl : fs.length = fn) (hz : flsE (kqTo ts tn) fs = 0) (r : Bell.Pl) : ∀ i, i < fn → exV ts' tn fs' r i = exV ts tn fs r i := fun i hi => by
  obtain ⟨e1, e2, e3⟩ := hf i hi; have hk := ((fls_known hl hz).2 i hi).1; unfold exV; rw [e2, e3, tyIx_sim h, (h _ hk).2.2]
theorem totTo_congr {V U : Nat → Int} : ∀ {n : Nat}, (∀ i, i < n → V i = U i) → totTo V n = totTo U n
  | 0, _ => rfl
  | n + 1, h => by
    show totTo V n + V n = totTo U n + U n
    rw [totTo_congr fun i hi => h i (by omega), h n (by omega)]
theorem bestTo_congr {V U : Nat → Int} : ∀ {n : Nat}, (∀ i, i ≤ n → V i = U i) → bestTo V n = bestTo U n
  | 0, _ => rfl
  | n + 1, h => by
    have ih := bestTo_congr (V := V) (U := U) (n := n) fun i hi => h i (by omega)
    have hb := bestTo_le U n
    show (if V (bestTo V n) < V (n + 1) then n + 1 else bestTo V n) = if U (bestTo U n) < U (n + 1) then n + 1 else bestTo U n
    rw [ih, h (bestTo U n) (by omega), h (n + 1) (by omega)]
theorem answers_sim {ts ts' : List Tq} {tn : Nat} {fs fs' : List Fl} {fn : Nat} (h : SimT ts ts' tn) (hf : SimF fs fs' fn) (hl : fs.length = fn) (hl' : fs'.length = fn) (r : Bell.Pl) :
    totA ts' tn fs' fn r = totA ts tn fs fn r ∧ parA ts' tn fs' fn r = parA ts tn fs fn r ∧ louE ts' tn fs' fn r = louE ts tn fs fn r ∧ louA ts' tn fs' fn r = louA ts tn fs fn r := by
  have he := (exE_sim h hf hl hl' r).1; have e3 : louE ts' tn fs' fn r = louE ts tn fs fn r := by unfold louE; rw [he]
  refine ⟨?_, ?_, e3, ?_⟩
  · unfold totA; rw [he]
    by_cases hz : exE ts tn fs r = 0
    · rw [if_pos hz, if_pos hz]; exact totTo_congr (exV_sim h hf hl (exE_zero hz).2.1 r)
    · rw [if_neg hz, if_neg hz]
  · unfold parA; rw [he]
    by_cases hz : exE ts tn fs r = 0
    · rw [if_pos hz, if_pos hz]; exact List.map_congr_left fun i hi => exV_sim h hf hl (exE_zero hz).2.1 r i (List.mem_range.1 hi)
    · rw [if_neg hz, if_neg hz]
  · unfold louA; rw [e3]
    by_cases hz : louE ts tn fs fn r = 0
    · rw [if_pos hz, if_pos hz]
      have hx : exE ts tn fs r = 0 ∧ fn ≠ 0 := by
        unfold louE at hz
        by_cases hx : exE ts tn fs r = 0
        · rw [if_pos hx] at hz; refine ⟨hx, fun h0 => ?_⟩; rw [if_pos h0] at hz; exact absurd hz (by decide)
        · rw [if_neg hx] at hz; exact absurd hz hx
      have hb := bestTo_le (exV ts tn fs r) (fn - 1); rw [bestTo_congr (V := exV ts' tn fs' r) (U := exV ts tn fs r) fun i hi => exV_sim h hf hl (exE_zero hx.1).2.1 r i (by omega)]; exact (hf _ (by omega)).1
    · rw [if_neg hz, if_neg hz]
end Go.Proofs.YtmafmebcgmegeaaGreatDoor

namespace Go.Proofs.YtmafmebcgmegeaaGreatDoor
open Go.ChangeShapes Go.WideShapes Go.ChangeAt Go.RowKit
theorem laidOutA : laidOutB Tryz.prog = true := by kernel_rfl
theorem cells_slice {v : Value} {a : Option Addr} {n c : Nat} (hv : ∃ a l c, v = .slice a l c) (h : v.cells.toList = [.slice a n c]) : v = .slice a n c := by
  obtain ⟨a', l', c', rfl⟩ := hv
  simpa [Value.cells] using h
theorem own : ownKnob Tryz.prog.godebug = none := by kernel_rfl
theorem cellsInt : Tryz.prog.cellsOf 3 = 1 := by kernel_rfl
section
variable {H : Type} {enc : TypeId × Value → H} {P : Program}
theorem post_of_below {f : Func} {s : ChangeSpec} {apart fresh handsOn again : Bool} {W W' : World} {args : Array Value} {v : Value} {ds gs : List (DataW H)} {before pa pv : List MemPlace}
    (hW : DataW.Whole enc P f.params.toList s.vars apart W args.toList ds gs before)
    (hres : ∀ (b : Nat) (sp : Nat → Bool) (hd : Bool), DataW.TrodAll enc P W' b sp hd f.resultTypes.toList (v.resultList f.resultTypes.size) (s.fn H (ds ++ gs)).results [])
    (hargs : ∀ sp : Nat → Bool, (∀ p ∈ before, sp p.block = true) → DataW.TrodAll enc P W' 0 sp true f.params.toList args.toList (s.fn H (ds ++ gs)).args pa)
    (hvars : ∀ sp : Nat → Bool, (∀ p ∈ before, sp p.block = true) → DataW.TrodVars enc P W' sp s.vars (s.fn H (ds ++ gs)).vars pv)
    (hps : before = pa ++ pv) (hb : Below W.heap.size W W')
    (hok : ∀ (j : Nat) (t : TypeId) (r : Value), f.resultTypes[j]? = some t → (v.resultList f.resultTypes.size)[j]? = some r → Value.okWide P W' .any 0 t r) :
    s.post enc P f apart fresh handsOn again W args v W' := by
  have hlt : ∀ p ∈ before, p.block < W.heap.size := fun p hp => hW.lt p hp
  have hold : ∀ p ∈ before, (fun b => decide (b < W.heap.size)) p.block = true := fun p hp => by simpa using hlt p hp
  refine ⟨ds, gs, before, [], pa, pv, hW, hres _ _ _, hargs _ hold, hvars _ hold, World.keptBut_mono (fun p hp => ⟨hp, ?_⟩) (hb.frame (· ∈ before)), fun _ => ?_⟩
  · rw [hps, List.mem_append] at hp; exact Or.inr hp
  · obtain ⟨_, _, _, _, _, hz, hn⟩ := hW; refine ⟨hok, _, _, ([] ++ pa) ++ pv, ⟨[] ++ pa, pv, trodAll_append (hargs _ (fun _ _ => rfl)) (hres _ _ _), hvars _ (fun _ _ => rfl), rfl, ?_, ?_⟩, ?_⟩
    · intro b off hp; have hin : MemPlace.cell b off ∈ before := by rw [hps]; simpa using hp
      rw [hb.frozen (hlt _ hin)]; exact hz b off hin
    · intro ha; have := hn ha; rw [hps] at this
      simpa using this
    · intro p hp _; rw [hps]
      simpa using hp
end
theorem gPowType : (Tryz.prog.globals[3]?).map (·.type) = some 329 := by kernel_rfl
theorem cellsPow : Tryz.prog.cellsOf 329 = 20 := by kernel_rfl
theorem cellsU64 : Tryz.prog.cellsOf 318 = 1 := by kernel_rfl
theorem gWords : Tryz.prog.globalNamed "flyover/source.firstWords" = some 1 := by kernel_rfl
theorem gWordsType : (Tryz.prog.globals[1]?).map (·.type) = some 229 := by kernel_rfl
theorem cellsString : Tryz.prog.cellsOf 9 = 1 := by kernel_rfl
theorem gTurned : Tryz.prog.globalNamed "flyover/flyoverlaw02.turned" = some 0 := by kernel_rfl
theorem gTurnedType : (Tryz.prog.globals[0]?).map (·.type) = some 165 := by kernel_rfl
theorem cellsPoint : Tryz.prog.cellsOf 30 = 2 := by kernel_rfl
abbrev laidFive : List (String × DataW Unit) := [("math/bits.deBruijn32tab", Rows.laid_math_bits_deBruijn32tab), ("math/bits.deBruijn64tab", Rows.laid_math_bits_deBruijn64tab), ("internal/strconv.uint64pow10", Rows.laid_internal_strconv_uint64pow10), ("flyover/source.firstWords", Rows.laid_flyover_source_firstWords), ("flyover/flyoverlaw02.turned", Rows.laid_flyover_flyoverlaw02_turned)]
theorem tab_laid5 {W : World} (h : laidMetH Tryz.prog laidFive W) : Tab W := by
  have h2 : laidMet Tryz.prog [("internal/strconv.uint64pow10", Rows.laid_internal_strconv_uint64pow10), ("flyover/source.firstWords", Rows.laid_flyover_source_firstWords), ("flyover/flyoverlaw02.turned", Rows.laid_flyover_flyoverlaw02_turned)] W := laidMet.tail (laidMet.tail h); exact Lib.tabIs_of_head (rest := [("flyover/source.firstWords", Rows.laid_flyover_source_firstWords), ("flyover/flyoverlaw02.turned", Rows.laid_flyover_flyoverlaw02_turned)]) gPow gPowType Tryz.underlying329 Tryz.underlying318 cellsU64 cellsPow h2
set_option maxRecDepth 100000 in
theorem words_laid5 {W : World} (h : laidMetH Tryz.prog laidFive W) : FirstWords W := by
  have h2 : laidMet Tryz.prog [("flyover/source.firstWords", Rows.laid_flyover_source_firstWords), ("flyover/flyoverlaw02.turned", Rows.laid_flyover_flyoverlaw02_turned)] W := laidMet.tail (laidMet.tail (laidMet.tail h)); obtain ⟨ps, ⟨g', t', cs, fuel, p, q, hg', ht', hvar, hd, _, _⟩, _⟩ := h2; obtain rfl := Option.some.inj (gWords.symm.trans hg'); obtain rfl := Option.some.inj (gWordsType.symm.trans ht'); obtain ⟨ys, m, _, hx, hl, hyl, hg⟩ := DataW.trod_array Tryz.underlying229 hd; have hx1 := congrArg Prod.fst hx; intro i hi; have g := hg i hi; rw [List.getElem?_eq_getElem (by omega)] at g; obtain ⟨z, q, hz, _⟩ := DataW.trod_string Tryz.underlying9 g
  change List.take (Tryz.prog.cellsOf 9) (List.drop (i * Tryz.prog.cellsOf 9) cs.toList) = _ at q
  rw [cellsString, Nat.mul_one] at q
  have hc : cs[i]? = some (.string z) := by
    have := congrArg (fun l => l[0]?) q
    simpa [List.getElem?_take, List.getElem?_drop] using this
  have h3 := World.var?_cell gWords hvar i; rw [h3, hc]
  have h4 : (ys.map (·.1))[i]? = some (DataW.lit (.string z.data.toList)) := by
    rw [List.getElem?_map, List.getElem?_eq_getElem (by omega), Option.map_some, hz]
  have h5 : (ys.map (·.1)) = [.lit (.string [116, 121, 112, 101]), .lit (.string [115, 104, 97, 114, 101, 115]), .lit (.string [100, 105, 114, 101, 99, 116]), .lit (.string [115, 113, 117, 97, 114, 101, 115]), .lit (.string [112, 111, 119, 101, 114])] := by
    have := hx1.symm
    simpa [Rows.laid_flyover_source_firstWords] using this
  rw [h5] at h4
  have key : ∀ l : List UInt8, z.data.toList = l → z = ⟨l.toArray⟩ := fun l e => by
    cases z; simp at e; rw [← e]
  match i, hi with
  | 0, _ => simp at h4; rw [key _ h4.symm]; rfl
  | 1, _ => simp at h4; rw [key _ h4.symm]; rfl
  | 2, _ => simp at h4; rw [key _ h4.symm]; rfl
  | 3, _ => simp at h4; rw [key _ h4.symm]; rfl
  | 4, _ => simp at h4; rw [key _ h4.symm]; rfl
set_option maxRecDepth 100000 in
theorem turned_laid5 {W : World} (h : laidMetH Tryz.prog laidFive W) : Turned W := by
  have h2 : laidMet Tryz.prog [("flyover/flyoverlaw02.turned", Rows.laid_flyover_flyoverlaw02_turned)] W := laidMet.tail (laidMet.tail (laidMet.tail (laidMet.tail h))); obtain ⟨ps, ⟨g', t', cs, fuel, p, q, hg', ht', hvar, hd, _, _⟩, _⟩ := h2; obtain rfl := Option.some.inj (gTurned.symm.trans hg'); obtain rfl := Option.some.inj (gTurnedType.symm.trans ht'); obtain ⟨ys, m, _, hx, hl, hyl, hg⟩ := DataW.trod_array Tryz.underlying165 hd; have hx1 := congrArg Prod.fst hx; intro i hi; have g := hg i hi; rw [List.getElem?_eq_getElem (by omega)] at g; obtain ⟨y0, y1, n, hy, _, t0, t1⟩ := trod_struct2 Tryz.underlying30 g; obtain ⟨a, q0, hz0, _⟩ := DataW.trod_int Tryz.underlying3 t0; obtain ⟨b, q1, hz1, _⟩ := DataW.trod_int Tryz.underlying3 t1
  change List.take (Tryz.prog.cellsOf 3) (List.drop 0 (List.take (Tryz.prog.cellsOf 30) (List.drop (i * Tryz.prog.cellsOf 30) cs.toList))) = _ at q0
  change List.take (Tryz.prog.cellsOf 3) (List.drop 1 (List.take (Tryz.prog.cellsOf 30) (List.drop (i * Tryz.prog.cellsOf 30) cs.toList))) = _ at q1
  rw [cellsInt, cellsPoint] at q0 q1
  have hc0 : cs[i * 2]? = some (.int .i64 a) := by
    have := congrArg (fun l => l[0]?) q0
    simpa [List.getElem?_take, List.getElem?_drop] using this
  have hc1 : cs[i * 2 + 1]? = some (.int .i64 b) := by
    have := congrArg (fun l => l[0]?) q1
    simpa [List.getElem?_take, List.getElem?_drop] using this
  rw [World.var?_cell gTurned hvar (i * 2), World.var?_cell gTurned hvar (i * 2 + 1), hc0, hc1]
  have h4 : (ys.map (·.1))[i]? = some (DataW.agg [.lit (.int .i64 a), .lit (.int .i64 b)]) := by
    rw [List.getElem?_map, List.getElem?_eq_getElem (by omega), Option.map_some, hy, hz0, hz1]
  have h5 : (ys.map (·.1)) = [.agg [.lit (.int .i64 3), .lit (.int .i64 1)], .agg [.lit (.int .i64 2), .lit (.int .i64 2)], .agg [.lit (.int .i64 0), .lit (.int .i64 5)], .agg [.lit (.int .i64 (-2)), .lit (.int .i64 2)], .agg [.lit (.int .i64 (-3)), .lit (.int .i64 0)], .agg [.lit (.int .i64 (-1)), .lit (.int .i64 (-1))], .agg [.lit (.int .i64 0), .lit (.int .i64 (-4))], .agg [.lit (.int .i64 2), .lit (.int .i64 (-2))]] := by
    have := hx1.symm
    simpa [Rows.laid_flyover_flyoverlaw02_turned] using this
  rw [h5] at h4
  match i, hi with
  | 0, _ => simp at h4; rw [← h4.1, ← h4.2]; exact ⟨rfl, rfl⟩
  | 1, _ => simp at h4; rw [← h4.1, ← h4.2]; exact ⟨rfl, rfl⟩
  | 2, _ => simp at h4; rw [← h4.1, ← h4.2]; exact ⟨rfl, rfl⟩
  | 3, _ => simp at h4; rw [← h4.1, ← h4.2]; exact ⟨rfl, rfl⟩
  | 4, _ => simp at h4; rw [← h4.1, ← h4.2]; exact ⟨rfl, rfl⟩
  | 5, _ => simp at h4; rw [← h4.1, ← h4.2]; exact ⟨rfl, rfl⟩
  | 6, _ => simp at h4; rw [← h4.1, ← h4.2]; exact ⟨rfl, rfl⟩
  | 7, _ => simp at h4; rw [← h4.1, ← h4.2]; exact ⟨rfl, rfl⟩
def lay (g : Nat) (cs : Array Value) (h : Array Obj) : Array Obj := h.modify g fun
  | .cells _ t frozen => .cells cs t frozen
  | o => o
def pow10Vals : Array Value := #[.int .u64 1, .int .u64 10, .int .u64 100, .int .u64 1000, .int .u64 10000, .int .u64 100000, .int .u64 1000000, .int .u64 10000000, .int .u64 100000000, .int .u64 1000000000, .int .u64 10000000000, .int .u64 100000000000, .int .u64 1000000000000, .int .u64 10000000000000, .int .u64 100000000000000, .int .u64 1000000000000000, .int .u64 10000000000000000, .int .u64 100000000000000000, .int .u64 1000000000000000000, .int .u64 10000000000000000000]
def tab32 : List Int := [0, 1, 28, 2, 29, 14, 24, 3, 30, 22, 20, 15, 25, 17, 4, 8, 31, 27, 13, 23, 21, 19, 16, 7, 26, 12, 18, 6, 11, 5, 10, 9]
def tab64 : List Int := [0, 1, 56, 2, 57, 49, 28, 3, 61, 58, 42, 50, 38, 29, 17, 4, 62, 47, 59, 36, 45, 43, 51, 22, 53, 39, 33, 30, 24, 18, 12, 5, 63, 55, 48, 27, 60, 41, 37, 16, 46, 35, 44, 21, 52, 32, 23, 11, 54, 26, 40, 15, 34, 20, 31, 10, 25, 14, 19, 9, 13, 8, 7, 6]
def wordVals : Array Value := #[.string ⟨#[116, 121, 112, 101]⟩, .string ⟨#[115, 104, 97, 114, 101, 115]⟩, .string ⟨#[100, 105, 114, 101, 99, 116]⟩, .string ⟨#[115, 113, 117, 97, 114, 101, 115]⟩, .string ⟨#[112, 111, 119, 101, 114]⟩]
def laidHeap5 (h : Array Obj) : Array Obj := lay 0 turnA (lay 1 wordVals (lay 3 pow10Vals (lay 6 (tab32.map (Value.int .u8)).toArray (lay 7 (tab64.map (Value.int .u8)).toArray h))))
noncomputable def laidWorld5 (os : Os) : World := { World.holding Tryz.prog os ⟨#[], #[], []⟩ with heap := laidHeap5 (World.holding Tryz.prog os ⟨#[], #[], []⟩).heap }
section
variable {H : Type} {enc : TypeId × Value → H}
theorem args_stay {W W' : World} {sp : Nat → Bool} (hb : Below W.heap.size W W') : ∀ {ts : List TypeId} {vs : List Value} {ds : List (DataW H)} {ps : List MemPlace}, (∀ t ∈ ts, Tryz.prog.readableRec t = true ∧ t < Tryz.prog.types.size) →
    DataW.TrodAll enc Tryz.prog W 0 (fun _ => true) true ts vs ds ps → (∀ p ∈ ps, p.block < W.heap.size) → (∀ p ∈ ps, sp p.block = true) → DataW.TrodAll enc Tryz.prog W' 0 sp true ts vs ds ps
  | [], [], [], _, _, h, _, _ => h
  | t :: _, _ :: _, _ :: _, _, hT, ⟨p, q, h1, h2, e⟩, hl, hs => ⟨p, q, WideElems.Trod_stays laidOutA (hT t (List.mem_cons.2 (.inl rfl))).1 (hT t (List.mem_cons.2 (.inl rfl))).2 h1
      (fun x hx => hb.same (hl x (by rw [e]; exact List.mem_append_left _ hx))) (fun x hx => hs x (by rw [e]; exact List.mem_append_left _ hx)),
      args_stay hb (fun t ht => hT t (List.mem_cons.2 (.inr ht))) h2 (fun x hx => hl x (by rw [e]; exact List.mem_append_right _ hx)) (fun x hx => hs x (by rw [e]; exact List.mem_append_right _ hx)), e⟩
set_option maxRecDepth 100000 in
theorem law_post {f : Func} {s : ChangeSpec} {apart fresh handsOn again : Bool} {W W' : World} {args : Array Value} {ds gs : List (DataW H)} {before : List MemPlace}
    (hW : DataW.Whole enc Tryz.prog f.params.toList s.vars apart W args.toList ds gs before) (hv : s.vars = []) (hr : f.resultTypes = #[4]) (hT : ∀ t ∈ f.params.toList, Tryz.prog.readableRec t = true ∧ t < Tryz.prog.types.size)
    (hfn : s.fn H (ds ++ gs) = { results := [.lit (.bool true)], args := ds }) (hb : Below W.heap.size W W') :
    s.post enc Tryz.prog f apart fresh handsOn again W args (.bool true) W' := by
  have hlt : ∀ p ∈ before, p.block < W.heap.size := fun p hp => hW.lt p hp
  have hW1 := hW; obtain ⟨p, q, hA, hV, rfl, hfz, hnd⟩ := hW1; rw [hv] at hV; obtain ⟨rfl, rfl⟩ := trodVars_none hV; refine post_of_below (pa := p ++ []) (pv := []) hW (fun b sp hd => ?_) (fun sp hsp => ?_) (fun sp hsp => ?_) (by simp) hb (ok_one hr rfl (okWide_bool_mk Tryz.underlying4 _))
  · rw [hfn, hr]; exact trodAll_mk1 (shut_bool Tryz.underlying4 _)
  · rw [hfn, List.append_nil]; exact args_stay hb hT hA (fun x hx => hlt x (by simpa using hx)) (fun x hx => hsp x (by simpa using hx))
  · rw [hv, hfn]; exact rfl
end
end Go.Proofs.YtmafmebcgmegeaaGreatDoor
