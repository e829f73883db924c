/- Part. -/
import Derived.Test.YtmafmebcgmegeaaGreatDoorGz1
import Derived.Test.YtmafmebcgmegeaaGreatDoorGz33
import Derived.Test.YtmafmebcgmegeaaGreatDoorGz24
import Derived.Test.YtmafmebcgmegeaaGreatDoorGz9
import Derived.Test.YtmafmebcgmegeaaGreatDoorGz15
namespace Go.Proofs.YtmafmebcgmegeaaGreatDoor
open Go.RowKit Go.Sort
def formN (i : Nat) : Nat := if i = 0 then 1 else 0
def lineOk (i : Nat) (s : ByteArray) : Bool := lineF (formN i) 12 (firstW (min i 4)) s && (if i = 0 then decide ((restF 1 s).length = 1) else if i = 2 then decide ((restF 0 s).length = 8) else if 4 <= i then decide (1 <= (restF 0 s).length) else true)
def stepNm (i : Nat) (s nm : ByteArray) : ByteArray := if i = 0 then (wordF 1 s).headD ⟨#[]⟩ else nm
def stepSh (i : Nat) (s : ByteArray) (sh : List Int) : List Int := if i = 1 then valD (restF 0 s) else sh
def stepT (i : Nat) (s : ByteArray) (T : Bell.Ty) : Bell.Ty := if i = 0 then { T with side := (valD (restF 1 s)).headD 0 } else if i = 2 then { T with direct := valD (restF 0 s) } else if i = 3 then { T with squares := valD (restF 0 s) } else if 4 <= i then { T with sets := T.sets ++ [((valD (restF 0 s)).headD 0, (valD (restF 0 s)).tail)] } else T
def ReadPost2 (w : World) (b i : Nat) (s nm : ByteArray) (sh : List Int) (T : Bell.Ty) (e : Ending) (w' : World) : Prop :=
 Below b w w' /\ ((lineOk i s = true /\ e = .returned (.bool true) /\ PTy w' b (stepNm i s nm) (stepSh i s sh) (stepT i s T)) ∨ (lineOk i s = false /\ e = .returned (.bool false)))
theorem restF_le (n : Nat) (s : ByteArray) : (restF n s).length <= s.size := by
 have h := wordsL_le s; unfold restF; rw [List.length_drop, List.length_tail]
 omega
theorem wordF_len {n k : Nat} {wd s : ByteArray} (h : lineF n k wd s = true) : (wordF n s).length = n := by
 unfold lineF at h; obtain ⟨x, ws, hx⟩ := wordsL_cons s; rw [hx] at h; simp only [Bool.and_eq_true] at h; have h2 := h.2.2; unfold fieldsOk at h2; simp only [Bool.and_eq_true, decide_eq_true_eq] at h2; unfold wordF; rw [hx, List.tail_cons, List.length_take]
 omega
def GR.flds (B n : Nat) (ws : List ByteArray) (m : Nat) (zs : List Int) : GR := ⟨fun v W => ∃ g A, v = .tuple #[.slice (some ⟨g, 0, none⟩) n n, .slice A m m, .bool true] /\ B <= g /\ StrsAt W (some ⟨g, 0, none⟩) n ws /\ OwnI W B (.slice A m m) zs, fun ⟨g, A, e, k, h1, h2⟩ hE => ⟨g, A, e, k, h1.keep hE (Nat.le_refl _), h2.below hE⟩⟩
def GR.wrds (B n : Nat) (ws : List ByteArray) : GR := ⟨fun v W => ∃ g, v = .slice (some ⟨g, 0, none⟩) n n /\ B <= g /\ StrsAt W (some ⟨g, 0, none⟩) n ws, fun ⟨g, e, k, h1⟩ hE => ⟨g, e, k, h1.keep hE (Nat.le_refl _)⟩⟩
def GR.vals (B m : Nat) (zs : List Int) : GR := ⟨fun v W => ∃ A, v = .slice A m m /\ OwnI W B (.slice A m m) zs, fun ⟨A, e, h⟩ hE => ⟨A, e, h.below hE⟩⟩
set_option maxHeartbeats 4000000 in
set_option maxRecDepth 100000 in
theorem readLine_gen (n lo hi K : Nat) (F : FuncId) (wd : ByteArray) (w : World) (b i : Nat) (s nm nm2 : ByteArray) (sh sh2 : List Int) (T T2 : Bell.Ty) (hn : n = 0 ∨ n = 1) (hK5 : K < 5) (hwd : firstW K = wd) (hwz : wd.size <= 90000) (hE : ∀ (args : Array Value) (W : World), (callFunc F args).run Tryz.prog W = .ok (.enter F args) W)
  (hI : ∀ W, (Instr.index 233 (.agg formsV) (.int .i64 K)).run Tryz.prog W = .ok (.agg #[.int .i64 n, .int .i64 lo, .int .i64 hi, .func (.func F) #[] #[]]) W) (hs : s.size <= 4096) (hkd : ∀ W, Calls Tryz.prog 148 #[.int .i64 i] W fun e w' => e = .returned (.int .i64 K) /\ w' = W) (h : PTy w b nm sh T) (hfw : FirstWords w)
  (hset : lineF n 12 wd s = true -> lo <= (restF n s).length -> (restF n s).length <= hi -> ∀ (W : World) (g : Nat) (A : Option Addr), PTy W b nm sh T -> StrsAt W (some ⟨g, 0, none⟩) n (wordF n s) -> OwnI W b (.slice A (restF n s).length (restF n s).length) (valD (restF n s)) -> g ≠ b -> Calls Tryz.prog F #[.pointer (some ⟨b, 0, none⟩), .slice (some ⟨g, 0, none⟩) n n, .slice A (restF n s).length (restF n s).length] W fun e w' => e = .returned (.tuple #[]) /\ PTy w' b nm2 sh2 T2 /\ Below b W w') :
  Calls Tryz.prog 154 #[.pointer (some ⟨b, 0, none⟩), .string s, .int .i64 i] w fun e w' => Below b w w' /\ (((lineF n 12 wd s && (decide (lo <= (restF n s).length) && decide ((restF n s).length <= hi))) = true /\ e = .returned (.bool true) /\ PTy w' b nm2 sh2 T2) ∨ ((lineF n 12 wd s && (decide (lo <= (restF n s).length) && decide ((restF n s).length <= hi))) = false /\ e = .returned (.bool false))) := by
 have HP := lh h; have HFW := lh hfw; have HK5 := lh hK5; have HWD := lh hwd; have HKD := lh hkd; have hK3 : (0 : Int) <= (K : Int) := by omega
 have hK4 : (K : Int) < 5 := by omega
 have hbw : b < w.heap.size := by
  obtain ⟨_, va, vq, vs, P, hm⟩ := h; exact lt_of_block hm.box
 have HBW : Hid (b < w.heap.size) := hbw; obtain ⟨FV, hFV⟩ : ∃ V, V = formsV := ⟨_, rfl⟩; have HF : Hid (∀ W, Calls Tryz.prog 149 #[] W fun e w' => e = .returned (.agg FV) /\ Below W.heap.size W w') := fun W => by rw [hFV]; exact forms_src W
 have hix := hI; rw [<- hFV] at hix; have HTF : Hid (∀ W, Calls Tryz.prog 207 #[.string s, .string wd, .int .i64 n, .func (.func 208) #[] #[], .int .i64 12] W (LinePost n W 12 wd s)) := fun W => textFields_any n hn s wd 12 W (by omega) (by omega)
 have hm4 : (restF n s).length <= 4096 := Nat.le_trans (restF_le n s) hs; obtain ⟨m, hmm⟩ : ∃ m, m = (restF n s).length := ⟨_, rfl⟩; obtain ⟨zs, hzs⟩ : ∃ zs, zs = valD (restF n s) := ⟨_, rfl⟩; obtain ⟨ws, hws⟩ : ∃ ws, ws = wordF n s := ⟨_, rfl⟩; have HMZ : Hid (m = (restF n s).length /\ zs = valD (restF n s) /\ ws = wordF n s) := ⟨hmm, hzs, hws⟩; rw [<- hmm] at hm4 hset ⊢; rw [<- hzs, <- hws] at hset; have HST := lh hset; obtain ⟨RB, hRB⟩ : ∃ B : Bool, B = (lineF n 12 wd s && (decide (lo <= m) && decide (m <= hi))) := ⟨_, rfl⟩; rw [<- hRB]; have HRB := lh hRB; clear hRB h hfw hFV hbw hI hkd hset hmm hzs hws hs hn hK5 hwd hwz
 go_enter Tryz.func154, Tryz.ntmps154
 go_wp2_with fail
 refine (HF.out _).mono ?_; rintro e wa ⟨rfl, hb1⟩; have HB1 := lh hb1; clear hb1
 go_wp2_with fail
 refine (HKD.out _).mono ?_; rintro e w1 ⟨rfl, rfl⟩
 go_upto_region 2 with fail
 obtain ⟨w2, hw2⟩ : ∃ W, W = (w1.alloc (.cells #[.int .i64 n, .int .i64 lo, .int .i64 hi, .func (.func F) #[] #[]] 232)) := ⟨_, rfl⟩; rw [<- hw2]; have B7 : Hid (Blk w2 (w1.heap.size) 232 #[.int .i64 n, .int .i64 lo, .int .i64 hi, .func (.func F) #[] #[]]) := by show Blk _ _ _ _; rw [hw2]; exact Blk.new _ _ _
 have hb2 : Below w1.heap.size w1 w2 := by rw [hw2]; exact ((Below.refl _ _).alloc (Nat.le_refl _) _)
 obtain ⟨g7, hg7⟩ : ∃ g, g = w1.heap.size := ⟨_, rfl⟩; have HGw2 : Hid (g7 = w1.heap.size) := hg7; rw [<- hg7] at B7
 try rw [<- hg7]
 clear hw2 hg7; have HB2 := lh (HB1.out.trans (hb2.mono HB1.out.size)); have HG7 : Hid (w.heap.size <= g7) := by show _ <= _; have := HB1.out.size; rw [HGw2.out]; exact this
 clear hb2 hix HF HB1 HGw2
 by_cases hF : lineF n 12 wd s = true
 ·skip
  refine wp_region_allN 15 rfl (by kernel_rfl) (by kernel_rfl) [GR.eq (.string s), GR.eq (.int .i64 i), GR.eq (.int .i64 K), GR.eq (.pointer (some ⟨1, K, none⟩)), GR.eq (.string wd), GR.eq (.pointer (some ⟨g7, 0, none⟩)), GR.eq (.int .i64 n), GR.flds w.heap.size n ws m zs, GR.flds w.heap.size n ws m zs, GR.wrds w.heap.size n ws, GR.vals w.heap.size m zs, GR.eq (.bool true), GR.wrds w.heap.size n ws, GR.vals w.heap.size m zs, GR.eq (.bool true)] 49 rfl (by kernel_rfl) ?_ ?_
  ·refine ⟨?_, ?_, ?_, ?_, ?_, ?_, ?_, ?_, ?_, ?_, ?_, ?_, ?_, ?_, ?_, trivial⟩
   ·intro a W hE hd ho; have e1 : a.tmps[1]?.getD undef = .string s := ho 1 (by kernel_rfl); exact gs_same (v := .string s) (by go_simp) rfl
   ·intro a W hE hd ho; have e2 : a.tmps[2]?.getD undef = .int .i64 i := ho 2 (by kernel_rfl); exact gs_same (v := .int .i64 i) (by go_simp) rfl
   ·intro a W hE hd ho; have e17 : a.tmps[17]?.getD undef = .int .i64 i := hd 1 17 (by kernel_rfl) (by kernel_rfl); refine gs_call (f := 148) (args := #[.int .i64 i]) (by go_simp) ?_; refine (HKD.out W).mono ?_; rintro e w' ⟨rfl, rfl⟩; exact ⟨_, rfl, Ext.refl _, rfl⟩
   ·intro a W hE hd ho; have e18 : a.tmps[18]?.getD undef = .int .i64 K := hd 2 18 (by kernel_rfl) (by kernel_rfl); exact gs_same (v := .pointer (some ⟨1, K, none⟩)) (by go_simp) rfl
   ·intro a W hE hd ho; have e19 : a.tmps[19]?.getD undef = .pointer (some ⟨1, K, none⟩) := hd 3 19 (by kernel_rfl) (by kernel_rfl); have cw : W.cell? ⟨1, K, none⟩ = some (.string wd) := by rw [<- HWD.out]; exact ((HFW.out.keep HB2.out).keep hE) K HK5.out
    exact gs_same (v := .string wd) (by go_simp) rfl
   ·intro a W hE hd ho; have e7 : a.tmps[7]?.getD undef = .pointer (some ⟨g7, 0, none⟩) := ho 7 (by kernel_rfl); exact gs_same (v := .pointer (some ⟨g7, 0, none⟩)) (by go_simp) rfl
   ·intro a W hE hd ho; have e21 : a.tmps[21]?.getD undef = .pointer (some ⟨g7, 0, none⟩) := hd 5 21 (by kernel_rfl) (by kernel_rfl); have c7 : W.cell? ⟨g7, 0, none⟩ = some (.int .i64 n) := (B7.out.below hE).cell 0; exact gs_same (v := .int .i64 n) (by go_simp) rfl
   ·intro a W hE hd ho; have e16 : a.tmps[16]?.getD undef = .string s := hd 0 16 (by kernel_rfl) (by kernel_rfl); have e20 : a.tmps[20]?.getD undef = .string wd := hd 4 20 (by kernel_rfl) (by kernel_rfl); have e22 : a.tmps[22]?.getD undef = .int .i64 n := hd 6 22 (by kernel_rfl) (by kernel_rfl); refine gs_call (f := 207) (args := #[.string s, .string wd, .int .i64 n, .func (.func 208) #[] #[], .int .i64 12]) (by go_simp) ?_; refine (HTF.out W).mono ?_; rintro e w' ⟨hb, h1⟩; have hsw : w.heap.size <= W.heap.size := Nat.le_trans HB2.out.size hE.size; rcases h1 with ⟨_, g, A, rfl, hg, hS, hI⟩ | ⟨h1, _⟩
    ·rw [<- HMZ.out.2.2] at hS; rw [<- HMZ.out.1, <- HMZ.out.2.1] at hI; exact ⟨_, rfl, hb, g, A, by rw [HMZ.out.1], Nat.le_trans hsw hg, hS, hI.mono hsw⟩
    ·rw [hF] at h1; cases h1
   ·intro a W hE hd ho; obtain ⟨g, A, e23, k1, k2, k3⟩ : ∃ g A, a.tmps[23]?.getD undef = .tuple #[.slice (some ⟨g, 0, none⟩) n n, .slice A m m, .bool true] /\ w.heap.size <= g /\ StrsAt W (some ⟨g, 0, none⟩) n ws /\ OwnI W w.heap.size (.slice A m m) zs := hd 7 23 (by kernel_rfl) (by kernel_rfl); exact gs_same (v := .tuple #[.slice (some ⟨g, 0, none⟩) n n, .slice A m m, .bool true]) (by go_simp) ⟨g, A, rfl, k1, k2, k3⟩
   ·intro a W hE hd ho; obtain ⟨g, A, e15, k1, k2, k3⟩ : ∃ g A, a.tmps[15]?.getD undef = .tuple #[.slice (some ⟨g, 0, none⟩) n n, .slice A m m, .bool true] /\ w.heap.size <= g /\ StrsAt W (some ⟨g, 0, none⟩) n ws /\ OwnI W w.heap.size (.slice A m m) zs := hd 8 15 (by kernel_rfl) (by kernel_rfl); exact gs_same (v := .slice (some ⟨g, 0, none⟩) n n) (by go_simp) ⟨g, rfl, k1, k2⟩
   ·intro a W hE hd ho; obtain ⟨g, A, e15, k1, k2, k3⟩ : ∃ g A, a.tmps[15]?.getD undef = .tuple #[.slice (some ⟨g, 0, none⟩) n n, .slice A m m, .bool true] /\ w.heap.size <= g /\ StrsAt W (some ⟨g, 0, none⟩) n ws /\ OwnI W w.heap.size (.slice A m m) zs := hd 8 15 (by kernel_rfl) (by kernel_rfl); exact gs_same (v := .slice A m m) (by go_simp) ⟨A, rfl, k3⟩
   ·intro a W hE hd ho; obtain ⟨g, A, e15, k1, k2, k3⟩ : ∃ g A, a.tmps[15]?.getD undef = .tuple #[.slice (some ⟨g, 0, none⟩) n n, .slice A m m, .bool true] /\ w.heap.size <= g /\ StrsAt W (some ⟨g, 0, none⟩) n ws /\ OwnI W w.heap.size (.slice A m m) zs := hd 8 15 (by kernel_rfl) (by kernel_rfl); exact gs_same (v := .bool true) (by go_simp) rfl
   ·intro a W hE hd ho; obtain ⟨g, e24, k1, k2⟩ : ∃ g, a.tmps[24]?.getD undef = .slice (some ⟨g, 0, none⟩) n n /\ w.heap.size <= g /\ StrsAt W (some ⟨g, 0, none⟩) n ws := hd 9 24 (by kernel_rfl) (by kernel_rfl); exact gs_same (v := .slice (some ⟨g, 0, none⟩) n n) (by go_simp) ⟨g, rfl, k1, k2⟩
   ·intro a W hE hd ho; obtain ⟨A, e25, k3⟩ : ∃ A, a.tmps[25]?.getD undef = .slice A m m /\ OwnI W w.heap.size (.slice A m m) zs := hd 10 25 (by kernel_rfl) (by kernel_rfl); exact gs_same (v := .slice A m m) (by go_simp) ⟨A, rfl, k3⟩
   ·intro a W hE hd ho; have e26 : a.tmps[26]?.getD undef = .bool true := hd 11 26 (by kernel_rfl) (by kernel_rfl); exact gs_same (v := .bool true) (by go_simp) rfl
  intro vs w3 hE2 hR; have y0 : vs 0 = .string s := hR 0 (by omega); have y1 : vs 1 = .int .i64 i := hR 1 (by omega); have y2 : vs 2 = .int .i64 K := hR 2 (by omega); have y3 : vs 3 = .pointer (some ⟨1, K, none⟩) := hR 3 (by omega); have y4 : vs 4 = .string wd := hR 4 (by omega); have y5 : vs 5 = .pointer (some ⟨g7, 0, none⟩) := hR 5 (by omega); have y6 : vs 6 = .int .i64 n := hR 6 (by omega); obtain ⟨x7, y7⟩ : ∃ v, vs 7 = v := ⟨_, rfl⟩; obtain ⟨x8, y8⟩ : ∃ v, vs 8 = v := ⟨_, rfl⟩; obtain ⟨x9, y9⟩ : ∃ v, vs 9 = v := ⟨_, rfl⟩; obtain ⟨x10, y10⟩ : ∃ v, vs 10 = v := ⟨_, rfl⟩; have y11 : vs 11 = .bool true := hR 11 (by omega); obtain ⟨gW, y12, hgW, hSW⟩ : ∃ g, vs 12 = .slice (some ⟨g, 0, none⟩) n n /\ w.heap.size <= g /\ StrsAt w3 (some ⟨g, 0, none⟩) n ws := hR 12 (by omega); obtain ⟨AI, y13, hIW⟩ : ∃ A, vs 13 = .slice A m m /\ OwnI w3 w.heap.size (.slice A m m) zs := hR 13 (by omega); have y14 : vs 14 = .bool true := hR 14 (by omega)
  simp only [List.range, List.range.loop, List.foldl_cons, List.foldl_nil, y0, y1, y2, y3, y4, y5, y6, y7, y8, y9, y10, y11, y12, y13, y14, List.drop_succ_cons, List.drop_zero]; simp only [dstAt, List.getElem?_toArray, List.getElem?_cons_zero, List.getElem?_cons_succ, Option.bind_some, Act.put, List.setIfInBounds_toArray, List.set_cons_zero, List.set_cons_succ]; clear y0 y1 y2 y3 y4 y5 y6 y7 y8 y9 y10 y11 y12 y13 y14 hR; have HB3 : Hid (Below w.heap.size w w3) := HB2.out.trans (hE2.below.mono HB2.out.size); have B73 := lh (B7.out.below hE2.below); have HSW := lh hSW; have HIW := lh hIW; have HGW : Hid (gW ≠ b) := by show _ ≠ _; have := HBW.out; omega
  have HP3 := lh (HP.out.keep HB3.out); clear hE2 hSW hIW hgW B7 HB2 HTF HKD HFW HP; have c0 := B73.out.cell 1; have c2 := B73.out.cell 2; have c3 := B73.out.cell 3; simp only [List.getElem?_toArray, List.getElem?_cons_zero, List.getElem?_cons_succ] at c0 c2 c3
  by_cases hlo : m < lo
  ·have t1 : decide (m < lo) = true := by simpa using hlo
   have HR : Hid (RB = false) := by show _ = _; rw [HRB.out, hF]; simp <;> omega
   clear hlo; go_wp2; go_ret; exact ⟨HB3.out.mono (Nat.le_of_lt HBW.out), .inr ⟨HR.out, rfl⟩⟩
  ·have t1 : decide (m < lo) = false := by simpa using hlo
   by_cases hhi : hi < m
   ·have t2 : decide (hi < m) = true := by simpa using hhi
    have HR : Hid (RB = false) := by show _ = _; rw [HRB.out, hF]; simp <;> omega
    clear hlo hhi; go_wp2; go_ret; exact ⟨HB3.out.mono (Nat.le_of_lt HBW.out), .inr ⟨HR.out, rfl⟩⟩
   ·have t2 : decide (hi < m) = false := by simpa using hhi
    have HR : Hid (RB = true) := by show _ = _; rw [HRB.out, hF]; simp <;> omega
    have CS := lh (HST.out hF (by omega) (by omega) w3 gW AI HP3.out HSW.out (HIW.out.mono (Nat.le_of_lt HBW.out)) HGW.out); clear hlo hhi
    go_wp2_with fail
    refine CS.out.mono ?_; rintro e w4 ⟨rfl, hp4, hb4⟩; have HP4 := lh hp4; have HB4 := lh hb4; clear hp4 hb4; go_wp2; go_ret; exact ⟨(HB3.out.mono (Nat.le_of_lt HBW.out)).trans HB4.out, .inl ⟨HR.out, rfl, HP4.out⟩⟩
 ·have hF : lineF n 12 wd s = false := by simpa using hF
  have HR : Hid (RB = false) := by show _ = _; rw [HRB.out, hF]; rfl
  refine wp_region_allN 15 rfl (by kernel_rfl) (by kernel_rfl) [GR.eq (.string s), GR.eq (.int .i64 i), GR.eq (.int .i64 K), GR.eq (.pointer (some ⟨1, K, none⟩)), GR.eq (.string wd), GR.eq (.pointer (some ⟨g7, 0, none⟩)), GR.eq (.int .i64 n), GR.eq (.tuple #[.slice none 0 0, .slice none 0 0, .bool false]), GR.eq (.tuple #[.slice none 0 0, .slice none 0 0, .bool false]), GR.eq (.slice none 0 0), GR.eq (.slice none 0 0), GR.eq (.bool false), GR.eq (.slice none 0 0), GR.eq (.slice none 0 0), GR.eq (.bool false)] 49 rfl (by kernel_rfl) ?_ ?_
  ·refine ⟨?_, ?_, ?_, ?_, ?_, ?_, ?_, ?_, ?_, ?_, ?_, ?_, ?_, ?_, ?_, trivial⟩
   ·intro a W hE hd ho; have e1 : a.tmps[1]?.getD undef = .string s := ho 1 (by kernel_rfl); exact gs_same (v := .string s) (by go_simp) rfl
   ·intro a W hE hd ho; have e2 : a.tmps[2]?.getD undef = .int .i64 i := ho 2 (by kernel_rfl); exact gs_same (v := .int .i64 i) (by go_simp) rfl
   ·intro a W hE hd ho; have e17 : a.tmps[17]?.getD undef = .int .i64 i := hd 1 17 (by kernel_rfl) (by kernel_rfl); refine gs_call (f := 148) (args := #[.int .i64 i]) (by go_simp) ?_; refine (HKD.out W).mono ?_; rintro e w' ⟨rfl, rfl⟩; exact ⟨_, rfl, Ext.refl _, rfl⟩
   ·intro a W hE hd ho; have e18 : a.tmps[18]?.getD undef = .int .i64 K := hd 2 18 (by kernel_rfl) (by kernel_rfl); exact gs_same (v := .pointer (some ⟨1, K, none⟩)) (by go_simp) rfl
   ·intro a W hE hd ho; have e19 : a.tmps[19]?.getD undef = .pointer (some ⟨1, K, none⟩) := hd 3 19 (by kernel_rfl) (by kernel_rfl); have cw : W.cell? ⟨1, K, none⟩ = some (.string wd) := by rw [<- HWD.out]; exact ((HFW.out.keep HB2.out).keep hE) K HK5.out
    exact gs_same (v := .string wd) (by go_simp) rfl
   ·intro a W hE hd ho; have e7 : a.tmps[7]?.getD undef = .pointer (some ⟨g7, 0, none⟩) := ho 7 (by kernel_rfl); exact gs_same (v := .pointer (some ⟨g7, 0, none⟩)) (by go_simp) rfl
   ·intro a W hE hd ho; have e21 : a.tmps[21]?.getD undef = .pointer (some ⟨g7, 0, none⟩) := hd 5 21 (by kernel_rfl) (by kernel_rfl); have c7 : W.cell? ⟨g7, 0, none⟩ = some (.int .i64 n) := (B7.out.below hE).cell 0; exact gs_same (v := .int .i64 n) (by go_simp) rfl
   ·intro a W hE hd ho; have e16 : a.tmps[16]?.getD undef = .string s := hd 0 16 (by kernel_rfl) (by kernel_rfl); have e20 : a.tmps[20]?.getD undef = .string wd := hd 4 20 (by kernel_rfl) (by kernel_rfl); have e22 : a.tmps[22]?.getD undef = .int .i64 n := hd 6 22 (by kernel_rfl) (by kernel_rfl); refine gs_call (f := 207) (args := #[.string s, .string wd, .int .i64 n, .func (.func 208) #[] #[], .int .i64 12]) (by go_simp) ?_; refine (HTF.out W).mono ?_; rintro e w' ⟨hb, h1⟩; rcases h1 with ⟨h1, _⟩ | ⟨_, rfl⟩
    ·rw [hF] at h1; cases h1
    ·exact ⟨_, rfl, hb, rfl⟩
   ·intro a W hE hd ho; have e23 : a.tmps[23]?.getD undef = .tuple #[.slice none 0 0, .slice none 0 0, .bool false] := hd 7 23 (by kernel_rfl) (by kernel_rfl); exact gs_same (v := .tuple #[.slice none 0 0, .slice none 0 0, .bool false]) (by go_simp) rfl
   ·intro a W hE hd ho; have e15 : a.tmps[15]?.getD undef = .tuple #[.slice none 0 0, .slice none 0 0, .bool false] := hd 8 15 (by kernel_rfl) (by kernel_rfl); exact gs_same (v := .slice none 0 0) (by go_simp) rfl
   ·intro a W hE hd ho; have e15 : a.tmps[15]?.getD undef = .tuple #[.slice none 0 0, .slice none 0 0, .bool false] := hd 8 15 (by kernel_rfl) (by kernel_rfl); exact gs_same (v := .slice none 0 0) (by go_simp) rfl
   ·intro a W hE hd ho; have e15 : a.tmps[15]?.getD undef = .tuple #[.slice none 0 0, .slice none 0 0, .bool false] := hd 8 15 (by kernel_rfl) (by kernel_rfl); exact gs_same (v := .bool false) (by go_simp) rfl
   ·intro a W hE hd ho; have e24 : a.tmps[24]?.getD undef = .slice none 0 0 := hd 9 24 (by kernel_rfl) (by kernel_rfl); exact gs_same (v := .slice none 0 0) (by go_simp) rfl
   ·intro a W hE hd ho; have e25 : a.tmps[25]?.getD undef = .slice none 0 0 := hd 10 25 (by kernel_rfl) (by kernel_rfl); exact gs_same (v := .slice none 0 0) (by go_simp) rfl
   ·intro a W hE hd ho; have e26 : a.tmps[26]?.getD undef = .bool false := hd 11 26 (by kernel_rfl) (by kernel_rfl); exact gs_same (v := .bool false) (by go_simp) rfl
  intro vs w3 hE2 hR; have y0 : vs 0 = .string s := hR 0 (by omega); have y1 : vs 1 = .int .i64 i := hR 1 (by omega); have y2 : vs 2 = .int .i64 K := hR 2 (by omega); have y3 : vs 3 = .pointer (some ⟨1, K, none⟩) := hR 3 (by omega); have y4 : vs 4 = .string wd := hR 4 (by omega); have y5 : vs 5 = .pointer (some ⟨g7, 0, none⟩) := hR 5 (by omega); have y6 : vs 6 = .int .i64 n := hR 6 (by omega); have y7 : vs 7 = .tuple #[.slice none 0 0, .slice none 0 0, .bool false] := hR 7 (by omega); have y8 : vs 8 = .tuple #[.slice none 0 0, .slice none 0 0, .bool false] := hR 8 (by omega); have y9 : vs 9 = .slice none 0 0 := hR 9 (by omega); have y10 : vs 10 = .slice none 0 0 := hR 10 (by omega); have y11 : vs 11 = .bool false := hR 11 (by omega); have y12 : vs 12 = .slice none 0 0 := hR 12 (by omega); have y13 : vs 13 = .slice none 0 0 := hR 13 (by omega); have y14 : vs 14 = .bool false := hR 14 (by omega)
  simp only [List.range, List.range.loop, List.foldl_cons, List.foldl_nil, y0, y1, y2, y3, y4, y5, y6, y7, y8, y9, y10, y11, y12, y13, y14, List.drop_succ_cons, List.drop_zero]; simp only [dstAt, List.getElem?_toArray, List.getElem?_cons_zero, List.getElem?_cons_succ, Option.bind_some, Act.put, List.setIfInBounds_toArray, List.set_cons_zero, List.set_cons_succ]; clear y0 y1 y2 y3 y4 y5 y6 y7 y8 y9 y10 y11 y12 y13 y14 hR; have HB3 : Hid (Below w.heap.size w w3) := HB2.out.trans (hE2.below.mono HB2.out.size); clear hE2 B7 HB2 HTF HKD HFW HP; go_wp2; go_ret; exact ⟨HB3.out.mono (Nat.le_of_lt HBW.out), .inr ⟨HR.out, rfl⟩⟩
theorem one_word {n : Nat} {wd s : ByteArray} (h : lineF 1 n wd s = true) : wordF 1 s = [(wordF 1 s).headD ⟨#[]⟩] := by
 have h2 := wordF_len h
 match wordF 1 s, h2 with
 | [y], _ => rfl
theorem readLine_any (w : World) (b i : Nat) (s nm : ByteArray) (sh : List Int) (T : Bell.Ty) (hs : s.size <= 4096) (hgn : T.sets.length <= 100000) (h : PTy w b nm sh T) (hfw : FirstWords w) :
  Calls Tryz.prog 154 #[.pointer (some ⟨b, 0, none⟩), .string s, .int .i64 i] w (ReadPost2 w b i s nm sh T) := by
 have fin : ∀ {n lo hi : Nat} {wd : ByteArray} {e : Ending} {w' : World}, (lineF n 12 wd s && (decide (lo <= (restF n s).length) && decide ((restF n s).length <= hi))) = lineOk i s -> (Below b w w' /\ (((lineF n 12 wd s && (decide (lo <= (restF n s).length) && decide ((restF n s).length <= hi))) = true /\ e = .returned (.bool true) /\ PTy w' b (stepNm i s nm) (stepSh i s sh) (stepT i s T)) ∨ ((lineF n 12 wd s && (decide (lo <= (restF n s).length) && decide ((restF n s).length <= hi))) = false /\ e = .returned (.bool false)))) -> ReadPost2 w b i s nm sh T e w' := fun e1 h1 => by
  rw [e1] at h1; exact h1
 have hr0 := Nat.le_trans (restF_le 0 s) hs; have hr : (restF 0 s).length <= 4096 := hr0
 by_cases h4 : 4 <= i
 ·refine (readLine_gen 0 1 4096 4 199 _ w b i s nm (stepNm i s nm) sh (stepSh i s sh) T (stepT i s T) (.inl rfl) (by omega) rfl (by decide) (fun args W => by kernel_rfl) (fun W => by kernel_rfl) hs (fun W => by have := kind_any i W; rw [show (min i 4 : Nat) = 4 by omega] at this; exact this) h hfw (fun hF h1 h2 W g A hP hS hI hg => ?_)).mono fun e w' h => fin ?_ h
  ·have e : stepNm i s nm = nm /\ stepSh i s sh = sh /\ stepT i s T = { T with sets := T.sets ++ [((valD (restF 0 s)).headD 0, (valD (restF 0 s)).tail)] } := ⟨if_neg (by omega), if_neg (by omega), by unfold stepT; rw [if_neg (by omega), if_neg (by omega), if_neg (by omega), if_pos h4]⟩; rw [e.1, e.2.1, e.2.2]; obtain ⟨q, hq⟩ : ∃ q, (restF 0 s).length = q + 1 := ⟨(restF 0 s).length - 1, by omega⟩; rw [hq] at hI h2 ⊢; exact set_4 W b nm sh T _ A q _ (by omega) (by rw [valD_len, hq]) hgn hP hI
  ·unfold lineOk formN; rw [if_neg (by omega), if_neg (by omega), if_neg (by omega), if_pos h4, show min i 4 = 4 by omega, show decide ((restF 0 s).length <= 4096) = true by simpa using hr, Bool.and_true]
 ·rcases (show i = 0 ∨ i = 1 ∨ i = 2 ∨ i = 3 by omega) with rfl | rfl | rfl | rfl
  ·refine (readLine_gen 1 1 1 0 195 _ w b 0 s nm _ sh _ T _ (.inr rfl) (by omega) rfl (by decide) (fun args W => by kernel_rfl) (fun W => by kernel_rfl) hs (fun W => kind_any 0 W) h hfw (fun hF h1 h2 W g A hP hS hI hg => ?_)).mono fun e w' h => fin ?_ h
   ·have h3 : (restF 1 s).length = 1 := by omega
    rw [h3] at hI ⊢; refine set_0 W b g nm ((wordF 1 s).headD ⟨#[]⟩) sh T A ((valD (restF 1 s)).headD 0) hP (by rw [one_word hF] at hS; exact hS) ?_ hg; have h5 : (valD (restF 1 s)).length = 1 := by rw [valD_len, h3]
    match valD (restF 1 s), h5, hI with
    | [y], _, hI => exact hI
   ·show _ = (lineF 1 12 _ s && decide ((restF 1 s).length = 1))
    congr 1
    rw [Bool.eq_iff_iff]
    simp <;> omega
  ·refine (readLine_gen 0 0 4096 1 196 _ w b 1 s nm _ sh _ T _ (.inl rfl) (by omega) rfl (by decide) (fun args W => by kernel_rfl) (fun W => by kernel_rfl) hs (fun W => kind_any 1 W) h hfw (fun hF h1 h2 W g A hP hS hI hg => set_1 W b nm sh T _ A _ _ hP hI)).mono fun e w' h => fin ?_ h
   show _ = (lineF 0 12 _ s && true)
   rw [show decide ((restF 0 s).length <= 4096) = true by simpa using hr]
   simp [firstW]
  ·refine (readLine_gen 0 8 8 2 197 _ w b 2 s nm _ sh _ T _ (.inl rfl) (by omega) rfl (by decide) (fun args W => by kernel_rfl) (fun W => by kernel_rfl) hs (fun W => kind_any 2 W) h hfw (fun hF h1 h2 W g A hP hS hI hg => ?_)).mono fun e w' h => fin ?_ h
   ·have h3 : (restF 0 s).length = 8 := by omega
    rw [h3] at hI ⊢; exact set_2 W b nm sh T _ A _ (by rw [valD_len, h3]) hP hI
   ·show _ = (lineF 0 12 _ s && decide ((restF 0 s).length = 8))
    congr 1
    rw [Bool.eq_iff_iff]
    simp <;> omega
  ·refine (readLine_gen 0 0 4096 3 198 _ w b 3 s nm _ sh _ T _ (.inl rfl) (by omega) rfl (by decide) (fun args W => by kernel_rfl) (fun W => by kernel_rfl) hs (fun W => kind_any 3 W) h hfw (fun hF h1 h2 W g A hP hS hI hg => set_3 W b nm sh T _ A _ _ hP hI)).mono fun e w' h => fin ?_ h
   show _ = (lineF 0 12 _ s && true)
   rw [show decide ((restF 0 s).length <= 4096) = true by simpa using hr]
   simp [firstW]
theorem bfirst (l : List Int) : Bell.firstE l = firstE l := by
 induction l with
 | nil => rfl
 | cons a l ih => simp only [Bell.firstE, firstE, ih]
theorem beach (lo hi : Int) (l : List Int) : Bell.eachE (fun n => Bell.inR n lo hi) l = firstInE (fun x => withinE x lo hi) l := by
 unfold Bell.eachE firstInE; rw [bfirst]
 rfl
def cntI (n : Nat) (limit : Int) : Int := if n = 0 then 12 else atMostE n limit
theorem cntE_cnt (n k : Nat) : Bell.cntE n k = cntI n k := by
 unfold Bell.cntE cntI atMostE
 split
 ·rfl
 ·by_cases h : k < n
  ·rw [if_pos h, if_pos (by omega)]
  ·rw [if_neg h, if_neg (by omega)]
theorem countInt_any (A : Option Addr) (n c : Nat) (limit : Int) (w : World) :
  Calls Tryz.prog 172 #[.slice A n c, .int .i64 limit] w fun e w' => e = .returned (.int .i64 (cntI n limit)) /\ w' = w := by
 by_cases h0 : n = 0
 ·subst h0; have hr : cntI 0 limit = 12 := rfl; rw [hr]; clear hr
  go_enter Tryz.func172, Tryz.ntmps172
  go_wp2
  go_ret
  exact ⟨rfl, rfl⟩
 ·have h2 : ((n : Int) == 0) = false := by simp; omega
  have hr : cntI n limit = atMostE n limit := by unfold cntI; rw [if_neg h0]
  rw [hr]; obtain ⟨E, hE⟩ : ∃ E, E = atMostE n limit := ⟨_, rfl⟩; rw [<- hE]; have HE := lh hE; clear hr hE h0
  go_enter Tryz.func172, Tryz.ntmps172
  go_wp2_with fail
  refine (atMost_int A n c limit w).mono ?_; rw [<- HE.out]; rintro e w' ⟨rfl, rfl⟩; go_wp2; go_ret; exact ⟨rfl, rfl⟩
theorem countSets_any (A : Option Addr) (n c : Nat) (limit : Int) (w : World) :
  Calls Tryz.prog 114 #[.slice A n c, .int .i64 limit] w fun e w' => e = .returned (.int .i64 (cntI n limit)) /\ w' = w := by
 by_cases h0 : n = 0
 ·subst h0; have hr : cntI 0 limit = 12 := rfl; rw [hr]; clear hr
  go_enter Tryz.func114, Tryz.ntmps114
  go_wp2
  go_ret
  exact ⟨rfl, rfl⟩
 ·have h2 : ((n : Int) == 0) = false := by simp; omega
  by_cases h : limit < (n : Int)
  ·have hr : cntI n limit = 5 := by unfold cntI atMostE; rw [if_neg h0, if_pos h]
   rw [hr]
   have HM : Hid (∀ W, Calls Tryz.prog 173 #[.slice A n c, .int .i64 limit] W fun e w' => e = .returned (.int .i64 5) /\ w' = W) := fun W => by
    clear hr h0 h2
    go_enter Tryz.func173, Tryz.ntmps173
    go_wp2
    go_ret
    exact ⟨rfl, rfl⟩
   clear hr h0 h
   go_enter Tryz.func114, Tryz.ntmps114
   go_wp2_with fail
   refine (HM.out w).mono ?_; rintro e w' ⟨rfl, rfl⟩; go_wp2; go_ret; exact ⟨rfl, rfl⟩
  ·have hr : cntI n limit = 0 := by unfold cntI atMostE; rw [if_neg h0, if_neg h]
   rw [hr]; exact countSets_ok A n c limit w (by omega) (by omega)
theorem firstIn_any (F : FuncId) (lo hi : Int) (A : Option Addr) (n c : Nat) (zs : List Int) (w : World) (hn : n <= 140737488351232)
  (hE : ∀ (args : Array Value) (W : World), (callFunc F args).run Tryz.prog W = .ok (.enter F args) W)
  (hF : ∀ (x : Int) (W : World), Calls Tryz.prog F #[.int .i64 x] W fun e w' => e = .returned (.int .i64 (withinE x lo hi)) /\ w' = W)
  (hz : IntsAt w A n zs) :
  Calls Tryz.prog 110 #[.slice A n c, .func (.func F) #[] #[]] w fun e w' => e = .returned (.int .i64 (firstInE (fun x => withinE x lo hi) zs)) /\ w' = w := by
 refine (firstIn_int F (fun x => withinE x lo hi) A n c zs w hn hE (fun x W => (hF x W).mono (fun _ _ h => ⟨h.1, h.2.symm⟩)) hz).mono ?_; exact fun _ _ h => ⟨h.1, h.2.symm⟩
theorem firstE_p {x y : Int} (h : firstE [x, y] = 0) : x = 0 /\ y = 0 := ⟨firstE_zero h x (by simp), firstE_zero h y (by simp)⟩
theorem cntI_zero {n : Nat} {k : Int} (h : cntI n k = 0) : 0 < n /\ (n : Int) <= k := by
 unfold cntI at h
 split at h
 ·exact absurd h (by decide)
 ·unfold atMostE at h
  split at h
  ·exact absurd h (by decide)
  ·omega
theorem firstInE_rng {lo hi : Int} {l : List Int} (h : firstInE (fun x => withinE x lo hi) l = 0) : ∀ x, x ∈ l -> lo <= x /\ x <= hi := by
 rw [<- beach] at h; exact fun x hx => Bell.inR_zero.1 (Bell.eachE_zero.1 h x hx)
set_option maxHeartbeats 1000000 in
set_option maxRecDepth 100000 in
theorem checkShares_any (A : Option Addr) (n c : Nat) (l : List Int) (w : World) (hl : IntsAt w A n l) (hn9 : n <= 140737488351232) :
  Calls Tryz.prog 109 #[.slice A n c] w fun e w' => e = .returned (.int .i64 (Bell.shE l)) /\ Below w.heap.size w w' := by
 obtain ⟨C, hC⟩ : ∃ C, C = cntI n 8 := ⟨_, rfl⟩; obtain ⟨E, hE⟩ : ∃ E, E = firstInE (fun x => withinE x 0 1000) l := ⟨_, rfl⟩; obtain ⟨Z, hZ⟩ : ∃ Z, Z = firstE [C, E] := ⟨_, rfl⟩
 have hS : Bell.shE l = if Z = 0 then (if l.sum = 1000 then 0 else 1) else Z := by
  unfold Bell.shE Bell.thenE; rw [bfirst, beach, cntE_cnt, hl.1, hZ, hC, hE]
  rfl
 obtain ⟨V, hV⟩ : ∃ V, V = Bell.shE l := ⟨_, rfl⟩; rw [<- hV]; have HV : Hid (V = if Z = 0 then (if l.sum = 1000 then 0 else 1) else Z) := hV.trans hS; have HL := lh hl; have HN := lh hl.1; have HC := lh hC; have HE := lh hE; have HZ := lh hZ; clear hl hC hE hZ hS hV
 go_enter Tryz.func109, Tryz.ntmps109
 go_wp2_with fail
 refine (countInt_any A n c 8 w).mono ?_; rw [<- HC.out]; rintro e w' ⟨rfl, rfl⟩
 go_wp2_with fail
 refine (firstIn_any 112 0 1000 A n c l w' hn9 enters_srcFactor srcFactor_st HL.out).mono ?_; rw [<- HE.out]; rintro e w2 ⟨rfl, rfl⟩
 go_wp2_with fail
 obtain ⟨w4, hw4⟩ : ∃ W, W = (w2.alloc (.cells #[.int .i64 C, .int .i64 E] 37)) := ⟨_, rfl⟩; rw [<- hw4]; have ES : Hid (Blk w4 (w2.heap.size) 37 #[.int .i64 C, .int .i64 E]) := by show Blk _ _ _ _; rw [hw4]; exact Blk.new _ _ _
 have hb : Below w2.heap.size w2 w4 := by rw [hw4]; exact ((Below.refl _ _).alloc (Nat.le_refl _) _)
 obtain ⟨ge, hge⟩ : ∃ g, g = w2.heap.size := ⟨_, rfl⟩; have HGw4 : Hid (ge = w2.heap.size) := hge; rw [<- hge] at ES
 try rw [<- hge]
 clear hw4 hge; clear HGw4; refine (first2 _ _ C E _ (ES.out.cell 0) (ES.out.cell 1)).mono ?_; rw [<- HZ.out]; rintro e w3 ⟨rfl, rfl⟩; clear ES
 by_cases h0 : Z = 0
 case neg =>
  have hr : V = Z := by rw [HV.out, if_neg h0]
  have HB := lh hb; clear hb; go_wp2; go_ret
  first | exact ⟨ret_int hr.symm, HB.out⟩ | exact ⟨ret_int rfl, HB.out⟩
 have hz := firstE_p (HZ.out.symm.trans h0); have hcn := cntI_zero (HC.out.symm.trans hz.1); have hrg := firstInE_rng (HE.out.symm.trans hz.2); have HRG := lh hrg; have n1 : 0 < n := hcn.1; have n2 : n <= 8 := by omega
 have HV2 : Hid (V = if l.sum = 1000 then 0 else 1) := by show _ = _; rw [HV.out, if_pos h0]
 obtain ⟨b, off, rfl, hc⟩ := HL.out.2 n1
 have HC4 : Hid (∀ i, i < n -> w4.cell? ⟨b, off + i, none⟩ = some (.int .i64 (l.getD i 0))) := fun i hi => by
  rw [hb.cell (p := ⟨b, off + i, none⟩) (World.block_lt_of_cell? _ _ (hc i hi))]; exact hc i hi
 have HB := lh hb; subst h0; clear hb hz hcn hrg hc HC HE HZ HL HV; go_wp2
 go_loop [4, 6, 18] (fun s _ k => ∃ j : Nat, j <= n /\ k = .int .i64 j /\ s = .int .i64 (1000 - sumL (l.take j))) (fun _ _ k => n - (intOf k).toNat)
 case atStart => exact ⟨0, Nat.zero_le _, rfl, rfl⟩
 case round =>
  obtain ⟨j, hj, rfl, rfl⟩ := hrel; have hv : ∀ i, i < l.length -> 0 <= l.getD i 0 /\ l.getD i 0 <= 100000000000000 := fun i hi => by have := HRG.out _ (Bell.getD_mem hi); omega
  by_cases hlt : j < n
  ·have h0 := HC4.out j hlt; have b1 := sumL_bd l hv j (by rw [HN.out]; omega); have b2 := sumL_bd l hv (j + 1) (by rw [HN.out]; omega); have HS := lh (sumL_succ l j (by rw [HN.out]; exact hlt)); have b4 := HRG.out _ (Bell.getD_mem (show j < l.length by rw [HN.out]; exact hlt)); rw [HS.out] at b2; obtain ⟨x, hx⟩ : ∃ x, x = l.getD j 0 := ⟨_, rfl⟩; obtain ⟨s, hs⟩ : ∃ s, s = sumL (l.take j) := ⟨_, rfl⟩; rw [<- hx] at h0 b2 b4 HS; rw [<- hs] at b1 b2 HS ⊢; obtain ⟨b1, b1'⟩ := b1; obtain ⟨b4, b4'⟩ := b4; obtain ⟨b2, b2'⟩ := b2; clear hx hs hv; go_wp2
   go_round
   case rel => exact ⟨j + 1, by omega, by go_num, by rw [HS.out]; go_num⟩
   case measure => simp [intOf]; omega
  ·have ht : l.take j = l := by rw [List.take_of_length_le (by rw [HN.out]; omega)]
   rw [ht]; have hsum := sumL_sum l; have hbd := sumL_bd l hv l.length (Nat.le_refl _); rw [List.take_length] at hbd; obtain ⟨s, hs⟩ : ∃ s, s = sumL l := ⟨_, rfl⟩; rw [<- hs] at hsum ⊢; have HV3 : Hid (V = if s = 1000 then 0 else 1) := by show _ = _; rw [HV2.out, hsum]
   clear hv hsum hs hbd ht
   by_cases h1 : s = 1000
   ·have h2 : 1000 - s = 0 := by omega
    rw [h2]; have hr : V = 0 := by rw [HV3.out, if_pos h1]
    clear h2; go_wp2; go_ret
    first | exact ⟨ret_int hr.symm, HB.out⟩ | exact ⟨ret_int rfl, HB.out⟩
   ·have h2 : ¬ 1000 - s = 0 := by omega
    have h3 : ((1000 - s) != 0) = true := by simp; omega
    have hr : V = 1 := by rw [HV3.out, if_neg h1]
    go_wp2
    go_ret
    first | exact ⟨ret_int hr.symm, HB.out⟩ | exact ⟨ret_int rfl, HB.out⟩
end Go.Proofs.YtmafmebcgmegeaaGreatDoor
