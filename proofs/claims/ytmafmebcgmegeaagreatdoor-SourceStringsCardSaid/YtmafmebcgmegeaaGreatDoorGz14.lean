/- Part. -/
import Derived.Test.YtmafmebcgmegeaaGreatDoorGz1
import Derived.Test.YtmafmebcgmegeaaGreatDoorGz13
import Derived.RangeFuncBox
import Derived.WalkMore
import Derived.Deep.MidRow
import Derived.Laws.CopyOwn
import Derived.OwnWalk
namespace Go.Proofs.YtmafmebcgmegeaaGreatDoor
open Go.RowKit Go.Sort
def SetsO (w : World) (A : Option Addr) (n : Nat) (s : Bell.Sets) : Prop := s.length = n /\ (0 < n -> ∃ b off, A = some ⟨b, off, none⟩ /\ SetsAt w b off n s)
theorem SetsO.keep {w w' : World} {A : Option Addr} {n : Nat} {s : Bell.Sets} (h : SetsO w A n s) (hb : Below w.heap.size w w') : SetsO w' A n s :=
 ⟨h.1, fun h0 => by obtain ⟨b, off, e, hf⟩ := h.2 h0; exact ⟨b, off, e, hf.keep hb⟩⟩
structure RTy (w : World) (cs : Array Value) (nm : ByteArray) (sh : List Int) (T : Bell.Ty) (sa : Option Addr) (sn sc : Nat) (qa : Option Addr) (qn qc : Nat) (ga : Option Addr) (gn gc : Nat) : Prop where
 cells : cs = tyV nm sa sn sc T qa qn qc ga gn gc
 shares : IntsAt w sa sn sh
 squares : IntsAt w qa qn T.squares
 sets : SetsO w ga gn T.sets
theorem RTy.keep {w w' : World} {cs : Array Value} {nm : ByteArray} {sh : List Int} {T : Bell.Ty} {sa qa ga : Option Addr} {sn sc qn qc gn gc : Nat} (h : RTy w cs nm sh T sa sn sc qa qn qc ga gn gc) (hb : Below w.heap.size w w') : RTy w' cs nm sh T sa sn sc qa qn qc ga gn gc :=
 ⟨h.cells, h.shares.keep hb, h.squares.keep hb, h.sets.keep hb⟩
theorem RTy.c0 {w : World} {cs : Array Value} {nm : ByteArray} {sh : List Int} {T : Bell.Ty} {sa qa ga : Option Addr} {sn sc qn qc gn gc : Nat} (h : RTy w cs nm sh T sa sn sc qa qn qc ga gn gc) : cs[0]? = some (.string nm) := by rw [h.cells]; rfl
theorem RTy.c1 {w : World} {cs : Array Value} {nm : ByteArray} {sh : List Int} {T : Bell.Ty} {sa qa ga : Option Addr} {sn sc qn qc gn gc : Nat} (h : RTy w cs nm sh T sa sn sc qa qn qc ga gn gc) : cs[1]? = some (.slice sa sn sc) := by rw [h.cells]; rfl
theorem RTy.c10 {w : World} {cs : Array Value} {nm : ByteArray} {sh : List Int} {T : Bell.Ty} {sa qa ga : Option Addr} {sn sc qn qc gn gc : Nat} (h : RTy w cs nm sh T sa sn sc qa qn qc ga gn gc) : cs[10]? = some (.int .i64 T.side) := by rw [h.cells]; rfl
theorem RTy.c11 {w : World} {cs : Array Value} {nm : ByteArray} {sh : List Int} {T : Bell.Ty} {sa qa ga : Option Addr} {sn sc qn qc gn gc : Nat} (h : RTy w cs nm sh T sa sn sc qa qn qc ga gn gc) : cs[11]? = some (.slice qa qn qc) := by rw [h.cells]; rfl
theorem RTy.c12 {w : World} {cs : Array Value} {nm : ByteArray} {sh : List Int} {T : Bell.Ty} {sa qa ga : Option Addr} {sn sc qn qc gn gc : Nat} (h : RTy w cs nm sh T sa sn sc qa qn qc ga gn gc) : cs[12]? = some (.slice ga gn gc) := by rw [h.cells]; rfl
structure ShortT (nm : ByteArray) (sn qn gn : Nat) (s : Bell.Sets) : Prop where
 name : nm.size <= 40
 shares : sn <= 9
 squares : qn <= 9
 sets : gn <= 7
 each : ∀ k, k < gn -> ((s.getD k (0, [])).2).length <= 9
def ShortPost (nm : ByteArray) (sn qn gn : Nat) (s : Bell.Sets) (e : Ending) : Prop := ∃ b : Bool, e = .returned (.bool b) /\ (b = true -> ShortT nm sn qn gn s)
theorem shortPost_no {nm : ByteArray} {sn qn gn : Nat} {s : Bell.Sets} : ShortPost nm sn qn gn s (.returned (.bool false)) := ⟨false, rfl, fun h => by cases h⟩
set_option maxHeartbeats 4000000 in
set_option maxRecDepth 100000 in
theorem refShortTy_any {nm : ByteArray} {sh : List Int} {T : Bell.Ty} {sa qa ga : Option Addr} {sn sc qn qc gn gc : Nat} {cs : Array Value} (w : World) (hT : RTy w cs nm sh T sa sn sc qa qn qc ga gn gc) (hm : gn <= 140737488351232) :
  Calls Tryz.prog 13 #[.agg cs] w fun e w' => ShortPost nm sn qn gn T.sets e /\ Below w.heap.size w w' := by
 have HS := lh hT.sets; have q0 := hT.c0; have q1 := hT.c1; have q11 := hT.c11; have q12 := hT.c12; clear hT
 go_enter Tryz.func13, Tryz.ntmps13
 go_upto_region 1 with fail
 obtain ⟨w1, hw1⟩ : ∃ W, W = w.alloc (.cells cs 26) := ⟨_, rfl⟩; rw [<- hw1]; have T1 : Hid (Blk w1 w.heap.size 26 cs) := by show Blk _ _ _ _; rw [hw1]; exact Blk.new _ _ _
 have HB1 : Hid (Below w.heap.size w w1) := by show Below _ _ _; rw [hw1]; exact (Below.refl _ _).alloc (Nat.le_refl _) _
 have HS1 := lh (HS.out.keep HB1.out); obtain ⟨g, hg⟩ : ∃ g, g = w.heap.size := ⟨_, rfl⟩; rw [<- hg] at T1 ⊢; clear hw1 hg HS; have t0 := (T1.out.cell 0).trans q0; have t1 := (T1.out.cell 1).trans q1; have t11 := (T1.out.cell 11).trans q11; have t12 := (T1.out.cell 12).trans q12; clear q0 q1 q11 q12; go_wp2
 go_loop [2, 3] (fun _ k => ∃ j : Nat, j <= gn /\ k = .int .i64 j /\ Hid (∀ i, i < j -> ((T.sets.getD i (0, [])).2).length <= 9)) (fun _ k => gn - (intOf k).toNat)
 case atStart => exact ⟨0, Nat.zero_le _, rfl, fun i hi => by omega⟩
 case round =>
  obtain ⟨j, hj, rfl, hz⟩ := hrel
  by_cases hlt : j < gn
  ·obtain ⟨bb, off, rfl, hl⟩ := HS1.out.2 (by omega); obtain ⟨ea, en, ec, k1, k2, k3⟩ := hl.2 j hlt; have HE := lh k3.1; clear k1 k3 hl
   by_cases h9 : 9 < en
   ·have d1 : decide ((9 : Int) < (en : Int)) = true := decide_eq_true (by omega); clear h9; go_wp2; go_ret; exact ⟨shortPost_no, HB1.out⟩
   ·have d1 : decide ((9 : Int) < (en : Int)) = false := decide_eq_false (by omega); have H9 := lh h9; clear h9; go_wp2
    go_round
    case rel =>
     refine ⟨j + 1, by omega, by go_num, fun i hi => ?_⟩
     by_cases hij : i < j
     ·exact hz.out i hij
     ·obtain rfl : i = j := by omega
      have := H9.out; rw [HE.out]; omega
    case measure => simp [intOf]; omega
  ·obtain rfl : j = gn := by omega
   clear hlt
   by_cases n1 : (nm.size : Int) <= 40
   rotate_left
   ·have dn1 : decide ((nm.size : Int) <= 40) = false := decide_eq_false n1; go_wp2; go_ret; exact ⟨shortPost_no, HB1.out⟩
   have dn1 : decide ((nm.size : Int) <= 40) = true := decide_eq_true n1
   by_cases n2 : (sn : Int) <= 9
   rotate_left
   ·have dn2 : decide ((sn : Int) <= 9) = false := decide_eq_false n2; go_wp2; go_ret; exact ⟨shortPost_no, HB1.out⟩
   have dn2 : decide ((sn : Int) <= 9) = true := decide_eq_true n2
   by_cases n3 : (qn : Int) <= 9
   rotate_left
   ·have dn3 : decide ((qn : Int) <= 9) = false := decide_eq_false n3; go_wp2; go_ret; exact ⟨shortPost_no, HB1.out⟩
   have dn3 : decide ((qn : Int) <= 9) = true := decide_eq_true n3
   by_cases n4 : (j : Int) <= 7
   rotate_left
   ·have dn4 : decide ((j : Int) <= 7) = false := decide_eq_false n4; go_wp2; go_ret; exact ⟨shortPost_no, HB1.out⟩
   have dn4 : decide ((j : Int) <= 7) = true := decide_eq_true n4; go_wp2; go_ret; exact ⟨⟨true, rfl, fun _ => ⟨by omega, by omega, by omega, by omega, hz.out⟩⟩, HB1.out⟩
def SetAt (w : World) (b o : Nat) (p : Int) (ea : Option Addr) (en ec : Nat) : Prop := w.cell? ⟨b, o, none⟩ = some (.int .i64 p) /\ w.cell? ⟨b, o + 1, none⟩ = some (.slice ea en ec)
theorem via3 {A B : World -> Nat -> Prop} {C : World -> Prop} {G : Prop} (M : World -> Nat -> Nat -> Prop) (h : (∀ (w2 : World) (a b : Nat), A w2 a -> B w2 b -> C w2 -> M w2 a b) -> G) (k : ∀ (w2 : World) (a b : Nat), A w2 a -> B w2 b -> C w2 -> M w2 a b) : G := h k
end Go.Proofs.YtmafmebcgmegeaaGreatDoor
namespace Go.Proofs.YtmafmebcgmegeaaGreatDoor
open Go.RowKit
def fxCells (l : List Bell.Fx) : List Value := l.flatMap fun p => [.int .i64 p.t, .int .i64 p.x, .int .i64 p.y, .int .i64 p.z, .int .i64 p.p]
theorem fxCells_len (l : List Bell.Fx) : (fxCells l).length = l.length * 5 := by
 induction l with
 | nil => rfl
 | cons p l ih => simp only [fxCells, List.flatMap_cons, List.length_append, List.length_cons, List.length_nil] at *; omega
theorem fxCells_at (l : List Bell.Fx) (i : Nat) (hi : i < l.length) : (fxCells l)[i * 5]? = some (.int .i64 (Bell.fxAt l i).t) /\ (fxCells l)[i * 5 + 1]? = some (.int .i64 (Bell.fxAt l i).x) /\ (fxCells l)[i * 5 + 2]? = some (.int .i64 (Bell.fxAt l i).y) /\ (fxCells l)[i * 5 + 3]? = some (.int .i64 (Bell.fxAt l i).z) /\ (fxCells l)[i * 5 + 4]? = some (.int .i64 (Bell.fxAt l i).p) := by
 induction l generalizing i with
 | nil => simp at hi
 | cons p l ih =>
   cases i with
   | zero => exact ⟨rfl, rfl, rfl, rfl, rfl⟩
   | succ i =>
     have := ih i (by simpa using hi); have e : fxCells (p :: l) = Value.int .i64 p.t :: Value.int .i64 p.x :: Value.int .i64 p.y :: Value.int .i64 p.z :: Value.int .i64 p.p :: fxCells l := rfl; have ef : Bell.fxAt (p :: l) (i + 1) = Bell.fxAt l i := rfl; rw [e, ef, show (i + 1) * 5 = i * 5 + 1 + 1 + 1 + 1 + 1 by omega]
     simpa using this
theorem infoFix : (Tryz.prog.info? 152).map (fun i => (i.zero, i.size, i.bytes)) = some (some (.agg #[.int .i64 0, .int .i64 0, .int .i64 0, .int .i64 0, .int .i64 0]), 5, 40) := by kernel_rfl
theorem addAddr (b off j : Nat) : (⟨b, off, none⟩ : Addr).add j = ⟨b, off + j, none⟩ := by unfold Addr.add; split <;> simp_all
end Go.Proofs.YtmafmebcgmegeaaGreatDoor
namespace Go.Proofs.YtmafmebcgmegeaaGreatDoor
open Go.RowKit Go.Sort
theorem run_copy_rows {P : Program} (w : World) (dT sT ty elem : TypeId) (g o n dCap : Nat) (a : Addr) (sCap s : Nat) (cur : Array Value) (t : TypeId) (cs : List Value)
  (hu : P.underlying dT = some (.slice elem)) (hs : (P.info? elem).map (·.size) = some s)
  (hg : w.heap[g]? = some (.cells cur t (0, 0))) (hn : cs.length = n * s)
  (hsrc : ∀ j v, cs[j]? = some v -> w.cell? (a.add j) = some v) (hfit : o + cs.length <= cur.size) (h1 : ∀ v ∈ cs, v.oneCell' = true) :
  (Builtin.copy_ #[dT, sT] ty #[.slice (some ⟨g, o, none⟩) n dCap, .slice (some a) n sCap]).run P w =
   .ok (goInt n) (w.setRow g (cur.toList.take o ++ cs ++ cur.toList.drop (o + cs.length)).toArray) := by
 have hl := run_loadCells_list (P := P) w a cs hsrc; have hst := run_storeCells_at P g o t cs 0 cur w hg (by simpa using hfit) h1; have hmin : Nat.min n n = n := Nat.min_self n
 cases hq : P.info? elem with
 | none => simp [hq] at hs
 | some i =>
   have hi : i.size = s := by simpa [hq] using hs
   simp [Builtin.copy_, run_underlying hu, Builtin.lenOf, Builtin.firstCells, sizeOf, typeInfo, hq, hi, hmin, <- hn, hl, hst]
theorem own_full {w : World} {base size g n : Nat} {e : TypeId} {xs : List Value} (h : w.ownsRow base e size (.slice (some ⟨g, 0, none⟩) n n) n xs) : ∃ cur : Array Value, Blk w g e cur /\ cur.size = n * size /\ base <= g /\ cur.toList = xs := by
 obtain ⟨hx, h⟩ := h; rcases h with ⟨h, _⟩ | ⟨g', cap, cur, hv, hb, hg, hn, hm, hs, ht⟩
 ·cases h
 ·injection hv with h1 h2 h3
  injection h1 with h1
  injection h1 with h1
  subst h1 h3; refine ⟨cur, hg, hs, hb, ?_⟩; rw [<- ht, List.take_of_length_le (by simp [hs])]
theorem firstE_02 (x : Int) : firstE [0, x] = x := by
 unfold firstE; rw [if_pos rfl]; unfold firstE
 split
 ·rename_i h; rw [h]; rfl
 ·rfl
set_option maxHeartbeats 1000000 in
set_option maxRecDepth 100000 in
theorem flyable_any (a b : Bell.Fx) (v : Int) (w : World) (ha : Bell.GoodFx a) (hb : Bell.GoodFx b) (h0 : 0 <= b.t - a.t) (h1 : b.t - a.t <= 1000) (v0 : 1 <= v) (v1 : v <= 1000) :
  Calls Tryz.prog 119 #[.agg (fxV a), .agg (fxV b), .int .i64 v] w fun e w' => e = .returned (.bool (decide (Bell.flies v a b))) /\ Below w.heap.size w w' := by
 obtain ⟨at0, at1, ax0, ax1, ay0, ay1, az0, az1, ap0, ap1⟩ := ha; obtain ⟨bt0, bt1, bx0, bx1, by0, by1, bz0, bz1, bp0, bp1⟩ := hb; have m1 := mul_in (a := v) (b := b.t - a.t) (m := 1000) (n := 1000) (by omega) (by omega) (by omega) (by omega); have w1' : IntKind.i64.wrap (b.t - a.t) = b.t - a.t := IntWalk.i64_in _ (by omega); have w2' : IntKind.i64.wrap (v * (b.t - a.t)) = v * (b.t - a.t) := IntWalk.i64_in _ (by omega); obtain ⟨W, hW⟩ : ∃ W, W = v * (b.t - a.t) := ⟨_, rfl⟩; have m2 := sq_in (a := W) (m := 1000000) (by omega) (by omega); have w3' : IntKind.i64.wrap (W * W) = W * W := IntWalk.i64_in _ (by omega); have HR : Hid (decide (Bell.flies v a b) = decide ((b.x - a.x) * (b.x - a.x) + (b.y - a.y) * (b.y - a.y) + (b.z - a.z) * (b.z - a.z) <= W * W)) := by show _ = _; rw [hW]; rfl
 rw [<- hW] at w2'; have w4' : v * (b.t - a.t) = W := hW.symm; have HM := lh (fun X => minus_any b.x b.y b.z a.x a.y a.z X (by omega) (by omega) (by omega) (by omega) (by omega) (by omega)); have HS := lh (fun X => square_any (b.x - a.x) (b.y - a.y) (b.z - a.z) X (by omega) (by omega) (by omega)); clear hW m1 m2; unfold fxV
 go_enter Tryz.func119, Tryz.ntmps119
 go_upto_region 1 with fail
 have HB : Hid (Below w.heap.size w w) := Below.refl _ _; obtain ⟨wa, hwa⟩ : ∃ W, W = ((w.alloc (.cells #[.int .i64 a.t, .int .i64 a.x, .int .i64 a.y, .int .i64 a.z, .int .i64 a.p] 152)).alloc (.cells #[.int .i64 b.t, .int .i64 b.x, .int .i64 b.y, .int .i64 b.z, .int .i64 b.p] 152)) := ⟨_, rfl⟩; rw [<- hwa]; have A : Hid (Blk wa (w.heap.size) 152 #[.int .i64 a.t, .int .i64 a.x, .int .i64 a.y, .int .i64 a.z, .int .i64 a.p]) := by show Blk _ _ _ _; rw [hwa]; exact (Blk.new _ _ _).alloc _
 have B : Hid (Blk wa (w.heap.size + 1) 152 #[.int .i64 b.t, .int .i64 b.x, .int .i64 b.y, .int .i64 b.z, .int .i64 b.p]) := by show Blk _ _ _ _; rw [hwa]; exact Blk.at_size _ _ (by simp)
 have hb1 : Below w.heap.size w wa := by rw [hwa]; exact (((Below.refl _ _).alloc (Nat.le_refl _) _).alloc (by simp) _)
 obtain ⟨g1, hg1⟩ : ∃ g, g = w.heap.size := ⟨_, rfl⟩; obtain ⟨g2, hg2⟩ : ∃ g, g = w.heap.size + 1 := ⟨_, rfl⟩; have HGwa : Hid (g1 = w.heap.size /\ g2 = w.heap.size + 1) := ⟨hg1, hg2⟩; rw [<- hg2] at B
 try rw [<- hg2]
 rw [<- hg1] at A
 try rw [<- hg1]
 clear hwa hg1 hg2; replace HB := lh (HB.out.trans (hb1.mono HB.out.size)); clear hb1; have AA := A.out; have BB := B.out; have ac0 := AA.cell 0; have af0 := AA.frozen 0; have ac1 := AA.cell 1; have af1 := AA.frozen 1; have ac2 := AA.cell 2; have af2 := AA.frozen 2; have ac3 := AA.cell 3; have af3 := AA.frozen 3; have ac4 := AA.cell 4; have af4 := AA.frozen 4; simp only [List.getElem?_toArray, List.getElem?_cons_zero, List.getElem?_cons_succ] at ac0 ac1 ac2 ac3 ac4; clear AA; have bc0 := BB.cell 0; have bf0 := BB.frozen 0; have bc1 := BB.cell 1; have bf1 := BB.frozen 1; have bc2 := BB.cell 2; have bf2 := BB.frozen 2; have bc3 := BB.cell 3; have bf3 := BB.frozen 3; have bc4 := BB.cell 4; have bf4 := BB.frozen 4; simp only [List.getElem?_toArray, List.getElem?_cons_zero, List.getElem?_cons_succ] at bc0 bc1 bc2 bc3 bc4; clear BB; clear A B
 go_wp2_with fail
 refine (HM.out _).mono ?_; rintro e wb ⟨rfl, hb2⟩; replace HB := lh (HB.out.trans (hb2.mono HB.out.size)); clear hb2
 go_wp2_with fail
 refine (HS.out _).mono ?_; rintro e wc ⟨rfl, hb3⟩; replace HB := lh (HB.out.trans (hb3.mono HB.out.size)); clear hb3
 go_wp2_with fail
 refine (ascending_any _ _ _).mono ?_; rintro e wd ⟨rfl, hb4⟩; replace HB := lh (HB.out.trans (hb4.mono HB.out.size)); clear hb4; go_wp2; go_ret; exact ⟨ret_bool HR.out.symm, HB.out⟩
/-! The points that are kept, one after the other. -/
theorem keep_snoc (v : Int) (p : Bell.Fx) : ∀ (l : List Bell.Fx) (a : Bell.Fx), Bell.keep v a (l ++ [p]) = if Bell.flies v (Bell.fxAt (a :: Bell.keep v a l) (Bell.keep v a l).length) p then Bell.keep v a l ++ [p] else Bell.keep v a l
 | [], a => by simp [Bell.keep, Bell.fxAt]
 | b :: l, a => by
   by_cases h : Bell.flies v a b
   ·have ih := keep_snoc v p l b; simp only [List.cons_append, Bell.keep, if_pos h, ih]; have e : Bell.fxAt (a :: b :: Bell.keep v b l) (b :: Bell.keep v b l).length = Bell.fxAt (b :: Bell.keep v b l) (Bell.keep v b l).length := rfl; rw [e]
    split <;> rfl
   ·simp only [List.cons_append, Bell.keep, if_neg h, keep_snoc v p l a]
theorem repair_step {v : Int} {l : List Bell.Fx} {j : Nat} (h : j + 1 < l.length) : Bell.repair v (l.take (j + 2)) = if Bell.flies v (Bell.fxAt (Bell.repair v (l.take (j + 1))) ((Bell.repair v (l.take (j + 1))).length - 1)) (Bell.fxAt l (j + 1)) then Bell.repair v (l.take (j + 1)) ++ [Bell.fxAt l (j + 1)] else Bell.repair v (l.take (j + 1)) := by
 cases l with
 | nil => simp at h
 | cons a t =>
   have ht : j < t.length := by simpa using h
   have e1 : (a :: t).take (j + 1) = a :: t.take j := rfl
   have e2 : (a :: t).take (j + 2) = a :: (t.take j ++ [Bell.fxAt t j]) := by
    show a :: t.take (j + 1) = _
    have : t[j]? = some (Bell.fxAt t j) := by simp [Bell.fxAt, ht]
    rw [List.take_add_one, this]
    rfl
   have e3 : Bell.fxAt (a :: t) (j + 1) = Bell.fxAt t j := rfl; have e4 : (Bell.repair v (a :: t.take j)).length - 1 = (Bell.keep v a (t.take j)).length := by simp [Bell.repair]
   rw [e1, e2, e3, e4]; have e5 : Bell.repair v (a :: (t.take j ++ [Bell.fxAt t j])) = a :: Bell.keep v a (t.take j ++ [Bell.fxAt t j]) := rfl; have e6 : Bell.repair v (a :: t.take j) = a :: Bell.keep v a (t.take j) := rfl; rw [e5, e6, keep_snoc]
   split <;> rfl
theorem fxAt_mem {l : List Bell.Fx} {i : Nat} (h : i < l.length) : Bell.fxAt l i ∈ l := by simp [Bell.fxAt, h]
theorem mem_fxAt {l : List Bell.Fx} {p : Bell.Fx} (h : p ∈ l) : ∃ i, i < l.length /\ Bell.fxAt l i = p := by
 obtain ⟨i, hi, e⟩ := List.getElem_of_mem h; exact ⟨i, hi, by simp [Bell.fxAt, hi, e]⟩
theorem mem_take_fxAt {l : List Bell.Fx} {k : Nat} {p : Bell.Fx} (h : p ∈ l.take k) : ∃ i, i < k /\ i < l.length /\ Bell.fxAt l i = p := by
 obtain ⟨i, hi, e⟩ := mem_fxAt h; have h1 : i < k /\ i < l.length := by simpa [Nat.lt_min] using hi
 refine ⟨i, h1.1, h1.2, ?_⟩; rw [<- e]
 simp [Bell.fxAt, List.getElem?_take, h1.1]
theorem repair_len (v : Int) (l : List Bell.Fx) : (Bell.repair v l).length <= l.length := (Bell.repair_sub v l).length_le
theorem repair_pos (v : Int) {l : List Bell.Fx} (h : 0 < l.length) : 0 < (Bell.repair v l).length := by
 cases l with
 | nil => simp at h
 | cons a l => simp [Bell.repair]
theorem fxAt_app1 {l : List Bell.Fx} {p : Bell.Fx} {i : Nat} (h : i < l.length) : Bell.fxAt (l ++ [p]) i = Bell.fxAt l i := by simp [Bell.fxAt, List.getElem?_append_left h]
theorem fxAt_app2 {l : List Bell.Fx} {p : Bell.Fx} : Bell.fxAt (l ++ [p]) l.length = p := by simp [Bell.fxAt]
def RepPost (l : List Bell.Fx) (v : Int) (e : Ending) (w' : World) : Prop :=
 (withinE v 1 1000 ≠ 0 -> e = .returned (.tuple #[.slice none 0 0, .int .i64 (withinE v 1 1000)])) /\
 (withinE v 1 1000 = 0 -> ((Bell.repair v l).length < 2 -> e = .returned (.tuple #[.slice none 0 0, .int .i64 16])) /\
  (2 <= (Bell.repair v l).length -> ∃ g, e = .returned (.tuple #[.slice (some ⟨g, 0, none⟩) (Bell.repair v l).length (Bell.repair v l).length, .int .i64 0]) /\ FixesAt w' g 0 (Bell.repair v l).length (Bell.repair v l)))
theorem fixes_keepB {w w' : World} {b off n : Nat} {l : List Bell.Fx} (h : FixesAt w b off n l) (hb : w'.heap[b]? = w.heap[b]?) : FixesAt w' b off n l := by
 have k : ∀ j, w'.cell? ⟨b, j, none⟩ = w.cell? ⟨b, j, none⟩ := fun j => cell_same (p := ⟨b, j, none⟩) hb
 refine ⟨h.1, fun i hi => ?_⟩; obtain ⟨h0, h1, h2, h3, h4⟩ := h.2 i hi; exact ⟨(k _).trans h0, (k _).trans h1, (k _).trans h2, (k _).trans h3, (k _).trans h4⟩
theorem fixes_snoc {w : World} {g : Nat} {cs : Array Value} {l : List Bell.Fx} {p : Bell.Fx} (hB : Blk w g 152 cs) (h1 : ∀ i, i < l.length -> ∀ k, k < 5 -> cs[i * 5 + k]? = (fxV (Bell.fxAt l i))[k]?) (h2 : ∀ k, k < 5 -> cs[l.length * 5 + k]? = (fxV p)[k]?) : FixesAt w g 0 (l.length + 1) (l ++ [p]) := by
 refine ⟨by simp, fun i hi => ?_⟩
 have hk : ∀ k, k < 5 -> w.cell? ⟨g, i * 5 + k, none⟩ = (fxV (Bell.fxAt (l ++ [p]) i))[k]? := fun k hk => by
  rw [hB.cell]
  by_cases h : i < l.length
  ·rw [fxAt_app1 h]; exact h1 i h k hk
  ·obtain rfl : i = l.length := by omega
   rw [fxAt_app2]; exact h2 k hk
 rw [Nat.zero_add]; exact ⟨hk 0 (by omega), hk 1 (by omega), hk 2 (by omega), hk 3 (by omega), hk 4 (by omega)⟩
theorem fixes_cells {w : World} {g : Nat} {cs : Array Value} {n : Nat} {l : List Bell.Fx} (hB : Blk w g 152 cs) (h : FixesAt w g 0 n l) : ∀ i, i < l.length -> ∀ k, k < 5 -> cs[i * 5 + k]? = (fxV (Bell.fxAt l i))[k]? := fun i hi k hk => by
 obtain ⟨h0, h1, h2, h3, h4⟩ := h.2 i (by rw [<- h.1]; exact hi); rw [Nat.zero_add] at h0 h1 h2 h3 h4; rw [hB.cell] at h0 h1 h2 h3 h4
 match k, hk with
 | 0, _ => exact h0
 | 1, _ => exact h1
 | 2, _ => exact h2
 | 3, _ => exact h3
 | 4, _ => exact h4
def firstR (f : Nat -> Int) (n : Nat) : Int := firstE ((List.range n).map f)
theorem firstR_hit {f : Nat -> Int} {n k : Nat} (hk : k < n) (h : ∀ i, i < k -> f i = 0) (h1 : f k ≠ 0) : firstR f n = f k := by
 have e : ∀ i, i < n -> ((List.range n).map f).getD i 0 = f i := fun i hi => by simp [hi]
 unfold firstR; rw [firstE_hit _ k (by simpa using hk) (fun i hi => by rw [e i (by omega)]; exact h i hi) (by rw [e k hk]; exact h1), e k hk]
theorem firstR_miss {f : Nat -> Int} {n : Nat} (h : ∀ i, i < n -> f i = 0) : firstR f n = 0 := by
 unfold firstR; refine firstE_miss _ fun i hi => ?_
 have hi' : i < n := by simpa using hi
 simp [hi', h i hi']
theorem firstR_zero {f : Nat -> Int} {n : Nat} (h : firstR f n = 0) : ∀ i, i < n -> f i = 0 := fun i hi => firstE_zero h (f i) (List.mem_map.2 ⟨i, List.mem_range.2 hi, rfl⟩)
def andE (a b : Int) : Int := if a = 0 then b else a
theorem andE_0 {a b : Int} (h : a = 0) : andE a b = b := by rw [andE, if_pos h]
theorem andE_n {a b : Int} (h : a ≠ 0) : andE a b = a := by rw [andE, if_neg h]
theorem andE_zero {a b : Int} (h : andE a b = 0) : a = 0 /\ b = 0 := by
 by_cases h1 : a = 0
 ·rw [andE_0 h1] at h; exact ⟨h1, h⟩
 ·rw [andE_n h1] at h; exact absurd h h1
theorem lengthE_zero2 {n : Nat} {k : Nat} (h : lengthE n (k : Int) = 0) : 2 <= n /\ n <= k := by
 unfold lengthE atMostE at h
 split at h
 ·cases h
 ·split at h
  ·cases h
  ·omega
def PtsAt (w : World) (A : Option Addr) (n : Nat) (l : List Bell.Pt) : Prop :=
 l.length = n /\ (0 < n -> ∃ b o, A = some ⟨b, o, none⟩ /\ ∀ i, i < n -> w.cell? ⟨b, o + i * 2, none⟩ = some (.int .i64 (Bell.ptAt l i).x) /\ w.cell? ⟨b, o + i * 2 + 1, none⟩ = some (.int .i64 (Bell.ptAt l i).y))
theorem PtsAt.keep {w w' : World} {A : Option Addr} {n : Nat} {l : List Bell.Pt} (h : PtsAt w A n l) (hb : Below w.heap.size w w') : PtsAt w' A n l :=
 ⟨h.1, fun hn => by
  obtain ⟨b, o, e, hc⟩ := h.2 hn
  have k : ∀ {j : Nat} {v : Value}, w.cell? ⟨b, j, none⟩ = some v -> w'.cell? ⟨b, j, none⟩ = some v := fun {j v} hc => by
   rw [hb.cell (p := ⟨b, j, none⟩) (World.block_lt_of_cell? _ _ hc)]; exact hc
  exact ⟨b, o, e, fun i hi => ⟨k (hc i hi).1, k (hc i hi).2⟩⟩⟩
def SpsAt (w : World) (A : Option Addr) (n : Nat) (l : List Bell.Sp) : Prop :=
 l.length = n /\ (0 < n -> ∃ b o, A = some ⟨b, o, none⟩ /\ ∀ i, i < n -> w.cell? ⟨b, o + i * 3, none⟩ = some (.int .i64 (Bell.spAt l i).d) /\ w.cell? ⟨b, o + i * 3 + 1, none⟩ = some (.int .i64 (Bell.spAt l i).h) /\ w.cell? ⟨b, o + i * 3 + 2, none⟩ = some (.int .i64 (Bell.spAt l i).p))
theorem SpsAt.keep {w w' : World} {A : Option Addr} {n : Nat} {l : List Bell.Sp} (h : SpsAt w A n l) (hb : Below w.heap.size w w') : SpsAt w' A n l :=
 ⟨h.1, fun hn => by
  obtain ⟨b, o, e, hc⟩ := h.2 hn
  have k : ∀ {j : Nat} {v : Value}, w.cell? ⟨b, j, none⟩ = some v -> w'.cell? ⟨b, j, none⟩ = some v := fun {j v} hc => by
   rw [hb.cell (p := ⟨b, j, none⟩) (World.block_lt_of_cell? _ _ hc)]; exact hc
  exact ⟨b, o, e, fun i hi => ⟨k (hc i hi).1, k (hc i hi).2.1, k (hc i hi).2.2⟩⟩⟩
def ptAtE (l : List Bell.Pt) (i : Nat) : Int := andE (firstE [withinE (Bell.ptAt l i).x (-100000) 100000, withinE (Bell.ptAt l i).y (-100000) 100000]) (if 0 < i /\ (Bell.ptAt l i).x = (Bell.ptAt l (i - 1)).x /\ (Bell.ptAt l i).y = (Bell.ptAt l (i - 1)).y then 9 else 0)
def pathE (l : List Bell.Pt) : Int := andE (lengthE l.length 16) (firstR (ptAtE l) l.length)
def spAtE (l : List Bell.Sp) (i : Nat) : Int := andE (stepE (Bell.spAt l i)) (if (i = 0 /\ (Bell.spAt l i).d ≠ 0) ∨ (0 < i /\ (Bell.spAt l i).d <= (Bell.spAt l (i - 1)).d) then 11 else 0)
def procE (l : List Bell.Sp) : Int := andE (lengthE l.length 8) (firstR (spAtE l) l.length)
def fxAtE (l : List Bell.Fx) (i : Nat) : Int := andE (fixE (Bell.fxAt l i).t (Bell.fxAt l i).x (Bell.fxAt l i).y (Bell.fxAt l i).z (Bell.fxAt l i).p) (if 0 < i /\ (Bell.fxAt l i).t <= (Bell.fxAt l (i - 1)).t then 11 else 0)
def lastE (l : List Bell.Fx) : Int := if 1000 < (Bell.fxAt l (l.length - 1)).t - (Bell.fxAt l 0).t then 14 else 0
def trackE (l : List Bell.Fx) : Int := andE (lengthE l.length 16) (andE (firstR (fxAtE l) l.length) (lastE l))
theorem firstE3_z {x y z : Int} (h : firstE [x, y, z] = 0) : x = 0 /\ y = 0 /\ z = 0 := ⟨firstE_zero h x (by simp), firstE_zero h y (by simp), firstE_zero h z (by simp)⟩
theorem goodFx_fix {P : Bell.Fx} (h : fixE P.t P.x P.y P.z P.p = 0) : Bell.GoodFx P := by
 obtain ⟨h1, h2, h3⟩ := firstE3_z h; obtain ⟨h4, h5, h6⟩ := firstE3_z h2; have a := withinE_zero h1; have b := withinE_zero h4; have c := withinE_zero h5; have d := withinE_zero h6; have e := withinE_zero h3; exact ⟨a.1, a.2, b.1, b.2, c.1, c.2, d.1, d.2, e.1, e.2⟩
theorem ticks_of {l : List Bell.Fx} (h : ∀ i, i + 1 < l.length -> (Bell.fxAt l i).t < (Bell.fxAt l (i + 1)).t) : Bell.Ticks l := by
 intro i j hij hj
 induction j with
 | zero => omega
 | succ j ih =>
   have h1 := h j hj; rcases Nat.lt_or_ge i j with h2 | h2
   ·have := ih h2 (by omega); omega
   ·obtain rfl : i = j := by omega
    exact h1
theorem goodTr_of {l : List Bell.Fx} (h : trackE l = 0) : Bell.GoodTr l := by
 obtain ⟨h1, h2⟩ := andE_zero h; obtain ⟨h2, h3⟩ := andE_zero h2; obtain ⟨a, b⟩ := lengthE_zero2 (k := 16) h1; have hz := firstR_zero h2; refine ⟨a, b, ticks_of fun i hi => ?_, fun i hi => goodFx_fix (andE_zero (hz i hi)).1, ?_⟩
 ·have h4 := (andE_zero (hz (i + 1) hi)).2; rw [Nat.add_sub_cancel] at h4
  split at h4
  ·cases h4
  ·omega
 ·unfold lastE at h3
  split at h3
  ·cases h3
  ·omega
set_option maxHeartbeats 1000000 in
set_option maxRecDepth 100000 in
theorem checkLasting_any (b off n c : Nat) (l : List Bell.Fx) (w : World) (hl : FixesAt w b off n l) (hn0 : 0 < n) (hm : n <= 16) (hg : ∀ i, i < l.length -> 0 <= (Bell.fxAt l i).t /\ (Bell.fxAt l i).t <= 100000000) :
  Calls Tryz.prog 123 #[.slice (some ⟨b, off, none⟩) n c] w fun e w' => e = .returned (.int .i64 (lastE l)) /\ Below w.heap.size w w' := by
 have hn := hl.1; obtain ⟨m, rfl⟩ : ∃ m, n = m + 1 := ⟨n - 1, by omega⟩; have gm := hg m (by omega); have g0 := hg 0 (by omega); have cL := fun d os => Calls.regrown_of (last_any b off m c l (grow (redrawn w d) os) (hl.keep (below_regrown w d os)) (by omega))
 have a0 := fun d os => cell_regrown (hl.2 0 (by omega)).1 d os
 obtain ⟨V, hV⟩ : ∃ V, V = lastE l := ⟨_, rfl⟩; have HV : Hid (V = if 1000 < (Bell.fxAt l m).t - (Bell.fxAt l 0).t then 14 else 0) := by show _ = _; rw [hV]; unfold lastE; rw [hn, Nat.add_sub_cancel]
 rw [<- hV]; obtain ⟨A, hA⟩ : ∃ A, A = Bell.fxAt l 0 := ⟨_, rfl⟩; obtain ⟨B, hB⟩ : ∃ B, B = Bell.fxAt l m := ⟨_, rfl⟩; rw [<- hA] at g0 a0 HV; rw [<- hB] at gm cL HV; obtain ⟨b1, b2⟩ := gm; obtain ⟨a1, a2⟩ := g0; have bw := fun d os => below_regrown w d os
 have w1 : IntKind.i64.wrap (B.t - A.t) = B.t - A.t := IntWalk.i64_in _ (by omega); simp only [Nat.zero_mul, Nat.add_zero] at a0; clear hl hg hn hA hB b1 b2 a1 a2 hV; have hfl := fix_tick B.t B.x B.y B.z B.p; simp only [fxV] at cL
 by_cases hd0 : 1000 < B.t - A.t
 ·have hd : decide (1000 < B.t - A.t) = true := decide_eq_true hd0; have hr : Hid (V = 14) := by show _ = _; rw [HV.out, if_pos hd0]
  go_enter Tryz.func123, Tryz.ntmps123
  go_upto_region 1 with fail
  refine wp_region_quiet_below (by kernel_rfl) (by kernel_rfl) ?_
  quiet_step (fail)
  quiet_step (exact cL _ _)
  repeat (quiet_step (fail))
  refine wpQuiet_nil ?_; intro _ hw'; obtain ⟨⟨dq, osq⟩, hw''⟩ := hw'; subst hw''; have HB := lh (bw dq osq); clear bw a0 cL; go_wp2; go_ret; exact ⟨ret_int hr.out.symm, HB.out⟩
 ·have hd : decide (1000 < B.t - A.t) = false := decide_eq_false hd0; have hr : Hid (V = 0) := by show _ = _; rw [HV.out, if_neg hd0]
  go_enter Tryz.func123, Tryz.ntmps123
  go_upto_region 1 with fail
  refine wp_region_quiet_below (by kernel_rfl) (by kernel_rfl) ?_
  quiet_step (fail)
  quiet_step (exact cL _ _)
  repeat (quiet_step (fail))
  refine wpQuiet_nil ?_; intro _ hw'; obtain ⟨⟨dq, osq⟩, hw''⟩ := hw'; subst hw''; have HB := lh (bw dq osq); clear bw a0 cL; go_wp2; go_ret; exact ⟨ret_int hr.out.symm, HB.out⟩
set_option maxHeartbeats 1000000 in
set_option maxRecDepth 100000 in
theorem CheckTrack_any (A : Option Addr) (n c : Nat) (l : List Bell.Fx) (w : World) (hl : TrAt w A n l) (hn : n <= 140737488351232) :
  Calls Tryz.prog 45 #[.slice A n c] w fun e w' => e = .returned (.int .i64 (trackE l)) /\ Below w.heap.size w w' := by
 have HL := lh hl; have HN := lh hl.1; obtain ⟨V, hV⟩ : ∃ V, V = trackE l := ⟨_, rfl⟩; have HV : Hid (V = andE (lengthE n 16) (andE (firstR (fxAtE l) n) (lastE l))) := by show _ = _; rw [hV, <- hl.1]; rfl
 rw [<- hV]; clear hl hV
 go_enter Tryz.func45, Tryz.ntmps45
 go_wp2_with fail
 refine (length_fix A n c 16 w).mono ?_; rintro e w' ⟨rfl, rfl⟩; obtain ⟨E, hE⟩ : ∃ E, E = lengthE n 16 := ⟨_, rfl⟩; rw [<- hE] at HV ⊢
 by_cases h0 : E = 0
 case neg =>
  have hr : V = E := by rw [HV.out, andE_n h0]
  clear hE; go_wp2; go_ret; exact ⟨ret_int hr.symm, Below.refl _ _⟩
 replace HV : Hid (V = andE (firstR (fxAtE l) n) (lastE l)) := by show _ = _; rw [HV.out, andE_0 h0]
 have hn16 := lengthE_zero2 (k := 16) (hE.symm.trans h0); obtain ⟨hn2, hn16⟩ := hn16; subst h0; clear hE; go_wp2
 go_loopw [4, 5, 6, 14] (fun _ _ _ k wr => ∃ j : Nat, j <= n /\ k = .int .i64 j /\ Hid (∀ i, i < j -> fxAtE l i = 0) /\ Hid (Below w'.heap.size w' wr)) (fun _ _ _ k _ => n - (intOf k).toNat)
 case atStart => exact ⟨0, Nat.zero_le _, rfl, (fun i hi => by omega), Below.refl _ _⟩
 case round =>
  obtain ⟨j, hj, rfl, hz, hb⟩ := hrel; have HLr := lh (HL.out.keep hb.out); obtain ⟨b, o, rfl, hc⟩ := HLr.out.2 (by omega)
  by_cases hlt : j < n
  ·obtain ⟨c0, c1, c2, c3, c4⟩ := hc.2 j hlt; have HJ : Hid (fxAtE l j = andE (fixE (Bell.fxAt l j).t (Bell.fxAt l j).x (Bell.fxAt l j).y (Bell.fxAt l j).z (Bell.fxAt l j).p) (if 0 < j /\ (Bell.fxAt l j).t <= (Bell.fxAt l (j - 1)).t then 11 else 0)) := rfl; obtain ⟨P, hP⟩ : ∃ P, P = Bell.fxAt l j := ⟨_, rfl⟩; rw [<- hP] at c0 c1 c2 c3 c4 HJ; clear hc hP; have HB := hb; clear hb
   go_wp2_with fail
   obtain ⟨wa, hwa⟩ : ∃ W, W = (wr.alloc (.cells #[.int .i64 P.t, .int .i64 P.x, .int .i64 P.y, .int .i64 P.z, .int .i64 P.p] 152)) := ⟨_, rfl⟩; rw [<- hwa]; have B : Hid (Blk wa (wr.heap.size) 152 #[.int .i64 P.t, .int .i64 P.x, .int .i64 P.y, .int .i64 P.z, .int .i64 P.p]) := by show Blk _ _ _ _; rw [hwa]; exact Blk.new _ _ _
   have hba : Below wr.heap.size wr wa := by rw [hwa]; exact ((Below.refl _ _).alloc (Nat.le_refl _) _)
   obtain ⟨gp, hgp⟩ : ∃ g, g = wr.heap.size := ⟨_, rfl⟩; have HGwa : Hid (gp = wr.heap.size) := hgp; rw [<- hgp] at B
   try rw [<- hgp]
   clear hwa hgp; replace HB := lh (HB.out.trans (hba.mono HB.out.size)); clear hba; clear c0 c1 c2 c3 c4; refine (fixCheck_any P wa).mono ?_; rintro e wb ⟨rfl, hbb⟩; replace HB := lh (HB.out.trans (hbb.mono HB.out.size)); replace B := lh (B.out.below hbb); clear hbb; obtain ⟨F, hF⟩ : ∃ F, F = fixE P.t P.x P.y P.z P.p := ⟨_, rfl⟩; rw [<- hF] at HJ ⊢; clear hF
   by_cases hF0 : F = 0
   case neg =>
    have hr : Hid (V = F) := by
     show _ = _
     have h1 : fxAtE l j = F := by rw [HJ.out, andE_n hF0]
     have h2 : firstR (fxAtE l) n = F := by rw [firstR_hit hlt hz.out (by rw [h1]; exact hF0), h1]
     rw [HV.out, h2, andE_n hF0]
    go_wp2
    go_ret
    exact ⟨ret_int hr.out.symm, HB.out⟩
   subst hF0; have HLc := lh (HL.out.keep HB.out); have p0 := B.out.cell 0; simp only [List.getElem?_toArray, List.getElem?_cons_zero] at p0; obtain ⟨d, hd⟩ : ∃ d, d = P.t := ⟨_, rfl⟩; rw [<- hd] at p0 HJ; clear hd B; rcases Nat.eq_zero_or_pos j with hj0 | hj0
   ·subst hj0; have hr : Hid (fxAtE l 0 = 0) := by show _ = _; rw [HJ.out, andE_0 rfl, if_neg (by omega)]
    go_wp2
    go_region
    go_wp2
    go_roundw
    case rel => exact ⟨1, by omega, by go_num, (fun i hi => by obtain rfl : i = 0 := (by omega); exact hr.out), HB.out.drew⟩
    case measure => simp [intOf]; omega
   ·obtain ⟨q, rfl⟩ : ∃ q, j = q + 1 := ⟨j - 1, by omega⟩; rw [Nat.add_sub_cancel] at HJ; obtain ⟨b', o', e', hc⟩ := HLc.out.2 (by omega)
    cases e'
    obtain ⟨d1, _, _, _, _⟩ := hc.2 q (by omega); obtain ⟨u, hu⟩ : ∃ u, u = (Bell.fxAt l q).t := ⟨_, rfl⟩; rw [<- hu] at d1 HJ; clear hc hu
    by_cases heq : d <= u
    ·have hbq : decide (d <= u) = true := decide_eq_true heq; have h11 : fxAtE l (q + 1) = 11 := by rw [HJ.out, andE_0 rfl, if_pos ⟨by omega, heq⟩]
     have hr : Hid (V = 11) := by
      show _ = _
      have h2 : firstR (fxAtE l) n = 11 := by rw [firstR_hit hlt hz.out (by rw [h11]; decide), h11]
      rw [HV.out, h2, andE_n (by decide)]
     clear heq h11; go_wp2
     go_region
     go_wp2
     go_ret
     exact ⟨ret_int hr.out.symm, HB.out.drew⟩
    ·have hbq : decide (d <= u) = false := decide_eq_false heq; have hr : Hid (fxAtE l (q + 1) = 0) := by show _ = _; rw [HJ.out, andE_0 rfl, if_neg (by omega)]
     clear heq; go_wp2
     go_region
     go_wp2
     go_roundw
     case rel =>
      exact ⟨q + 1 + 1, by omega, by go_num, (fun i hi => by
       rcases Nat.lt_or_ge i (q + 1) with h | h
       ·exact hz.out i h
       ·obtain rfl : i = q + 1 := (by omega); exact hr.out), HB.out.drew⟩
     case measure => simp [intOf]; omega
  ·obtain rfl : j = n := by omega
   have hr : Hid (V = lastE l) := by
    show _ = _
    rw [HV.out, andE_0 (firstR_miss fun i hi => hz.out i hi)]
   have hT : ∀ i, i < l.length -> 0 <= (Bell.fxAt l i).t /\ (Bell.fxAt l i).t <= 100000000 := fun i hi => by
    have := goodFx_fix (andE_zero (hz.out i (by rw [<- HN.out]; exact hi))).1; exact ⟨this.t0, this.t1⟩
   have HCK := lh (checkLasting_any b o j c l wr hc (by omega) hn16 hT); rw [<- hr.out] at HCK; clear hT hc
   go_wp2_with fail
   refine HCK.out.mono ?_; rintro e w2 ⟨rfl, hb2⟩; have HB2 := lh (hb.out.trans (hb2.mono hb.out.size)); clear hb2; go_wp2; go_ret; exact ⟨rfl, HB2.out⟩
end Go.Proofs.YtmafmebcgmegeaaGreatDoor
