/- Part. -/
import Derived.Test.YtmafmebcgmegeaaGreatDoorGz1
import Derived.Test.YtmafmebcgmegeaaGreatDoorGz37
import Derived.Test.YtmafmebcgmegeaaGreatDoorGz30
import Derived.Test.YtmafmebcgmegeaaGreatDoorGz29
import Derived.Test.YtmafmebcgmegeaaGreatDoorGz14
import Derived.Test.YtmafmebcgmegeaaGreatDoorGz24
import Derived.Test.YtmafmebcgmegeaaGreatDoorGz12
import Derived.Test.YtmafmebcgmegeaaGreatDoorGz21
import Derived.Test.YtmafmebcgmegeaaGreatDoorGz32
import Derived.Test.YtmafmebcgmegeaaGreatDoorGz39
import Derived.Test.YtmafmebcgmegeaaGreatDoorGz23
namespace Go.Proofs.YtmafmebcgmegeaaGreatDoor
open Go.RowKit Go.Sort
theorem rty_ok {w : World} {cs : Array Value} {nm : ByteArray} {sh : List Int} {T : Bell.Ty} {sa qa ga : Option Addr} {sn sc qn qc gn gc : Nat} (h : RTy w cs nm sh T sa sn sc qa qn qc ga gn gc) (hd : T.direct.length = 8) (h0 : Bell.tyE (nameE nm) sh T = 0) : ∃ qb qo gb go, qa = some ⟨qb, qo, none⟩ /\ ga = some ⟨gb, go, none⟩ /\ TyAt w cs nm sh T sa sn sc qb qo qn qc gb go gn gc /\ GoodT sh T := by
 obtain ⟨e1, e2⟩ := tyE_split h0; have hG : GoodT sh T := ⟨hd, e2⟩; obtain ⟨⟨c1, c2⟩, c3, c4⟩ := hG.cnt; obtain ⟨qb, qo, rfl, hq⟩ := h.squares.2 (by rw [<- h.squares.1]; exact c3); obtain ⟨gb, go, rfl, hs⟩ := h.sets.2 (by rw [<- h.sets.1]; exact c1); exact ⟨qb, qo, gb, go, rfl, rfl, ⟨h.cells, h.shares, h.squares, hs⟩, hG⟩
theorem given_ok {nm : ByteArray} {sh : List Int} {T : Bell.Ty} {sa qa ga : Option Addr} {sn sc qn qc gn gc : Nat} {cs : Array Value} (w : World) (hT : RTy w cs nm sh T sa sn sc qa qn qc ga gn gc) (hd : T.direct.length = 8) (hS : ShortT nm sn qn gn T.sets) :
  Calls Tryz.prog 16 #[.agg cs] w fun e w' => ∃ cs' A1 c1 A2 c2 A3 c3, e = .returned (.agg cs') /\ TyAny w' cs' nm sh T A1 sn c1 A2 qn c2 A3 gn c3 /\ Below w.heap.size w w' := by
 have h1 := hS.name; have h2 := hS.shares; have h3 := hS.squares; have h4 := hS.sets; refine (given_gen w hT (by omega) (by omega) (by omega) (fun k hk => by have := hS.each k hk; omega)).mono ?_; rintro e w' ⟨cs', A1, c1, A2, c2, A3, c3, rfl, k1, k2, k3⟩; exact ⟨cs', A1, c1, A2, c2, A3, c3, rfl, ⟨k1, hd, by omega, by omega, by omega, k2, fun k hk => by have := hS.each k hk; omega⟩, k3⟩
theorem bare_next (wd : ByteArray) (zs : List Int) (k : Nat) (h : k < zs.length) : bareB wd (zs.take (k + 1)) = bareB wd (zs.take k) ++ ⟨#[32]⟩ ++ itoaB (zs.getD k 0) := by
 apply ba_eq
 have e : zs.getD k 0 = zs[k] := by rw [List.getD_eq_getElem?_getD, List.getElem?_eq_getElem h]; rfl
 rw [bareB_list, List.take_succ_eq_append_getElem h, e]
 generalize zs.take k = ys
 generalize zs[k] = x
 simp [bareB_list, joinTailB, Lib.joinTail, itoaB]
theorem bare_zero (wd : ByteArray) (zs : List Int) : bareB wd (zs.take 0) = wd := by
 apply ba_eq
 simp [bareB_list, joinTailB, Lib.joinTail]
set_option maxHeartbeats 4000000 in
set_option maxRecDepth 100000 in
theorem refLine_any (wd : ByteArray) (A : Option Addr) (n c : Nat) (zs : List Int) (w : World) (hz : IntsAt w A n zs) (hn : n <= 1024) (hv : ∀ z ∈ zs, 0 <= z /\ z <= 9223372036854775807) (hw : wd.size <= 1000) :
  Calls Tryz.prog 155 #[.string wd, .slice A n c] w fun e w' => e = .returned (.string (lineG wd zs)) /\ Below w.heap.size w w' := by
 have hl := hz.1; have HSZ : Hid (∀ k, (bareB wd (zs.take k)).size <= 30000) := fun k => bareB_size wd _ hw (by rw [List.length_take]; omega) (fun z hz => hv z (List.mem_of_mem_take hz))
 have HB0 : Hid (bareB wd (zs.take 0) = wd) := bare_zero wd zs; have HZ := lh hz; have HV := lh hv; have HL := lh hl; clear hz hv hl hw
 go_enter Tryz.func155, Tryz.ntmps155
 go_wp2
 go_loopw [0, 5] (fun sv i wr => ∃ k : Nat, k <= n /\ i = .int .i64 k /\ sv = .string (bareB wd (zs.take k)) /\ Below w.heap.size w wr) (fun _ i _ => n - (intOf i).toNat)
 case atStart => exact ⟨0, Nat.zero_le _, rfl, by rw [HB0.out], Below.refl _ _⟩
 case round =>
  obtain ⟨k, hk, rfl, rfl, hb⟩ := hrel; have HBW := lh hb
  by_cases hlt : k < n
  ·obtain ⟨b, off, rfl, hcc⟩ := (HZ.out.keep hb).2 (by omega); have h0 := hcc k hlt; have hkz : k < zs.length := by rw [HL.out]; exact hlt
   have hvk := HV.out (zs.getD k 0) (by rw [List.getD_eq_getElem?_getD, List.getElem?_eq_getElem hkz]; exact List.getElem_mem hkz); have hpn := bare_next wd zs k hkz; have hps := HSZ.out k; obtain ⟨x, hx⟩ : ∃ x, x = zs.getD k 0 := ⟨_, rfl⟩; rw [<- hx] at h0 hvk hpn; obtain ⟨xn, rfl⟩ : ∃ xn : Nat, x = (xn : Int) := ⟨x.toNat, by omega⟩; obtain ⟨S, hS⟩ : ∃ S, S = bareB wd (zs.take k) := ⟨_, rfl⟩; obtain ⟨S2, hS2⟩ : ∃ S2, S2 = bareB wd (zs.take (k + 1)) := ⟨_, rfl⟩; rw [<- hS, <- hS2] at hpn; rw [<- hS] at hps ⊢; have q1 : ∀ w', (Op.stringOp .add S ⟨#[32]⟩).run Tryz.prog w' = .ok (.string (S ++ ⟨#[32]⟩)) w' := fun w' => run_string_add_sum w' _ _ (by show S.size + 1 <= _; omega)
   obtain ⟨A1, hA1⟩ : ∃ A1, A1 = S ++ (⟨#[32]⟩ : ByteArray) := ⟨_, rfl⟩; rw [<- hA1] at q1; have sA1 : A1.size <= 30001 := by rw [hA1, size_app]; show S.size + 1 <= _; omega
   obtain ⟨T, hT⟩ : ∃ T, T = itoaB (xn : Int) := ⟨_, rfl⟩
   have hTs : T.size <= 20 := by
    rw [hT]; have := itoa_len xn (by omega) (by omega)
    show (Lib.itoa xn).toArray.size <= 20
    rw [List.size_toArray]; exact this
   have q2 : ∀ w', (Op.stringOp .add A1 T).run Tryz.prog w' = .ok (.string S2) w' := fun w' => Eq.trans (run_string_add_sum w' _ _ (by omega)) (by rw [hpn, hA1, hT])
   have HS2 := lh hS2; have HTX := fun w => lh (refText_any xn w (by omega))
   rw [<- hT] at HTX; clear hcc hvk hpn hps hx hS hS2 hA1 sA1 hT hTs hb hkz
   go_wp2_with fail
   refine (HTX _).out.mono ?_; rintro e w2 ⟨rfl, hb2⟩; have HB2 : Hid (Below w.heap.size w w2) := HBW.out.trans (hb2.mono HBW.out.size); clear hb2; go_wp2; go_roundw
   case rel => exact ⟨k + 1, by omega, by go_num, by rw [HS2.out], HB2.out⟩
   case measure => simp [intOf]; omega
  ·obtain rfl : k = n := by omega
   have hps := HSZ.out k; have htk : zs.take k = zs := List.take_of_length_le (by rw [HL.out]; exact Nat.le_refl _); rw [htk] at hps ⊢; obtain ⟨S, hS⟩ : ∃ S, S = bareB wd zs := ⟨_, rfl⟩; rw [<- hS] at hps ⊢; have q1 : ∀ w', (Op.stringOp .add S ⟨#[10]⟩).run Tryz.prog w' = .ok (.string (lineG wd zs)) w' := fun w' => Eq.trans (run_string_add_sum w' _ _ (by show S.size + 1 <= _; omega)) (by rw [hS]; rfl)
   clear hps hS htk hb; go_wp2; go_ret; exact ⟨rfl, HBW.out⟩
theorem gs_cons {o : Oper} {a : Act} {W : World} {Q : Exit -> Act -> World -> Prop} {B n c : Nat} {A : Option Addr} {p : Int} {zs : List Int} (s x : Operand) (ho : o.op = .call { callee := .builtin .append, args := #[s, x], argTypes := #[22, 22] })
  (hs : ∃ g, a.eval s = .slice (some ⟨g, 0, none⟩) 1 1 /\ Blk W g 3 #[.int .i64 p]) (hx : a.eval x = .slice A n c) (hz : IntsAt W A n zs) (hn : 0 < n) (hn2 : n <= 100000) (hB : B <= W.heap.size) :
  Oper.wp Tryz.prog o a W (fun a' W' => ∃ v, a' = a.put o.dst v /\ Ext W W' /\ (GR.ints B (p :: zs)).r v W') Q := by
 obtain ⟨i0, hi, hz0, hz1, hz2⟩ := info_parts infoInt; obtain ⟨g, hg, hgb⟩ := hs; obtain ⟨b, off, rfl, _⟩ := hz.2 hn
 obtain ⟨v', w', hrun, r1, r2⟩ := run_append_arg_grows (P := Tryz.prog) W 22 o.type 3 i0 (.int .i64 0) 1 8 Tryz.underlying22 hi hz0 hz1 hz2 rfl (by decide) ⟨g, 0, none⟩ 1 1 [.int .i64 p] rfl (fun j u h => by
   have e : j = 0 := by have := (List.getElem?_eq_some_iff.1 h).1; simp at this; exact this
   subst e; rw [addAddr, Nat.zero_add, hgb.cell 0]; exact h)
  ⟨b, off, none⟩ n c (zs.map (Value.int .i64)) (by rw [List.length_map, hz.1, Nat.mul_one]) hz.cellsAt (by omega) (by unfold maxLen; omega) (by omega)
 obtain ⟨g1, g2, g3, g4, g5⟩ := r2; have hE : Ext W w' := ⟨g1, g2, g3, g4, fun k hk => g5 k hk (by simp)⟩; refine gs_val (v := v') (W' := w') ?_ hE ?_
 ·simp [execOp, ho, resolve, invoke, builtin, hg, hx, hrun, Result.andThen]
 ·have h2 : OwnI w' W.heap.size v' (p :: zs) := by
   unfold OwnI; rw [List.length_cons, hz.1, Nat.add_comm]
   simpa using r1
  exact h2.mono hB
theorem row_ints1 {w : World} {g : Nat} {x : Int} (h : Blk w g 3 #[.int .i64 x]) : IntsAt w (some ⟨g, 0, none⟩) 1 [x] :=
 ⟨rfl, fun _ => ⟨g, 0, rfl, fun i hi => by
  obtain rfl : i = 0 := by omega
  exact (h.cell 0).trans rfl⟩⟩
def textB (nm : ByteArray) (sh : List Int) (T : Bell.Ty) (j : Nat) : ByteArray := ⟨(textTo nm sh T j).toArray⟩
theorem textB_next (nm : ByteArray) (sh : List Int) (T : Bell.Ty) (j : Nat) : textB nm sh T (j + 1) = textB nm sh T j ++ lineG (wordB nm j) (rowI sh T j) := by
 apply ba_eq
 simp [textB, textTo]
theorem textB_one (nm : ByteArray) (sh : List Int) (T : Bell.Ty) : textB nm sh T 1 = lineG (wordB nm 0) (rowI sh T 0) := by
 apply ba_eq
 simp [textB, textTo]
theorem textB_size {nm : ByteArray} {sh : List Int} {T : Bell.Ty} (hG : GoodT sh T) (hn : nm.size <= 24) (j : Nat) (hj : j <= 4 + T.sets.length) : (textB nm sh T j).size <= 30001 * j := by
 have := textTo_len hG hn j hj; unfold textB
 show (textTo nm sh T j).toArray.size <= _
 rw [List.size_toArray]; exact this
theorem lineG_size {nm : ByteArray} {sh : List Int} {T : Bell.Ty} (hG : GoodT sh T) (hn : nm.size <= 24) {j : Nat} (hj : j < 4 + T.sets.length) : (lineG (wordB nm j) (rowI sh T j)).size <= 30001 := by
 obtain ⟨h2, h3⟩ := rowI_ok hG hj; have h4 := bareB_size (wordB nm j) (rowI sh T j) (wordB_size hn j) h2 h3; unfold lineG; rw [size_app]
 show _ + 1 <= _
 omega
theorem word_zero (nm : ByteArray) : (⟨#[116, 121, 112, 101, 32]⟩ ++ nm : ByteArray) = wordB nm 0 := by
 apply ba_eq
 simp [wordB, firstW]
set_option maxHeartbeats 4000000 in
set_option maxRecDepth 100000 in
theorem refPrintT_any {nm : ByteArray} {sh : List Int} {T : Bell.Ty} {sa qa ga : Option Addr} {sn sc qn qc gn gc : Nat} {cs : Array Value} (w : World) (hT : RTy w cs nm sh T sa sn sc qa qn qc ga gn gc) (hG : GoodT sh T) (hnm : nm.size <= 24) :
  Calls Tryz.prog 75 #[.agg cs] w fun e w' => e = .returned (.string (typeB nm sh T)) /\ Below w.heap.size w w' := by
 obtain ⟨i0, hi, hz0, hz1, hz2⟩ := info_parts infoInt; have HTE : Hid (typeB nm sh T = textB nm sh T (4 + gn)) := by show _ = _; rw [<- hT.sets.1]; rfl
 have hgn : gn <= 6 := by have := hG.cnt.1.2; rw [hT.sets.1] at this; exact this
 have HSZ : Hid (∀ j, j <= 4 + gn -> (textB nm sh T j).size <= 30001 * j) := fun j hj => textB_size hG hnm j (by rw [hT.sets.1]; exact hj)
 have HLZ : Hid (∀ j, j < 4 + gn -> (lineG (wordB nm j) (rowI sh T j)).size <= 30001) := fun j hj => lineG_size hG hnm (by rw [hT.sets.1]; exact hj)
 have HLI : Hid (∀ j, j < 4 + gn -> ∀ W A n c, IntsAt W A n (rowI sh T j) -> Calls Tryz.prog 155 #[.string (wordB nm j), .slice A n c] W fun e w' => e = .returned (.string (lineG (wordB nm j) (rowI sh T j))) /\ Below W.heap.size W w') := fun j hj W A n c hz => by
  obtain ⟨h2, h3⟩ := rowI_ok hG (i := j) (by rw [hT.sets.1]; exact hj); exact refLine_any (wordB nm j) A n c _ W hz (by rw [<- hz.1]; exact h2) h3 (wordB_size hnm j)
 obtain ⟨W0, hW0⟩ : ∃ x, x = wordB nm 0 := ⟨_, rfl⟩; obtain ⟨sd, hsd⟩ : ∃ x, x = T.side := ⟨_, rfl⟩; obtain ⟨l0, hl0⟩ : ∃ x, x = lineG (wordB nm 0) (rowI sh T 0) := ⟨_, rfl⟩; obtain ⟨l1, hl1⟩ : ∃ x, x = lineG (wordB nm 1) (rowI sh T 1) := ⟨_, rfl⟩; obtain ⟨l2, hl2⟩ : ∃ x, x = lineG (wordB nm 2) (rowI sh T 2) := ⟨_, rfl⟩; obtain ⟨l3, hl3⟩ : ∃ x, x = lineG (wordB nm 3) (rowI sh T 3) := ⟨_, rfl⟩; obtain ⟨s2, hs2⟩ : ∃ x, x = textB nm sh T 2 := ⟨_, rfl⟩; obtain ⟨s3, hs3⟩ : ∃ x, x = textB nm sh T 3 := ⟨_, rfl⟩; obtain ⟨s4, hs4⟩ : ∃ x, x = textB nm sh T 4 := ⟨_, rfl⟩; have K0 : Hid (∀ w', (Op.stringOp .add ⟨#[116, 121, 112, 101, 32]⟩ nm).run Tryz.prog w' = .ok (.string W0) w') := fun w' => Eq.trans (run_string_add_sum w' _ _ (by show 5 + nm.size <= _; omega)) (by rw [word_zero, hW0])
 have K2 : Hid (∀ w', (Op.stringOp .add l0 l1).run Tryz.prog w' = .ok (.string s2) w') := fun w' => Eq.trans (run_string_add_sum w' _ _ (by have h1 := HLZ.out 0 (by omega); have h2 := HLZ.out 1 (by omega); rw [hl0, hl1]; omega)) (by rw [hs2, textB_next, textB_one, hl0, hl1])
 have K3 : Hid (∀ w', (Op.stringOp .add s2 l2).run Tryz.prog w' = .ok (.string s3) w') := fun w' => Eq.trans (run_string_add_sum w' _ _ (by have h1 := HSZ.out 2 (by omega); have h2 := HLZ.out 2 (by omega); rw [hs2, hl2]; omega)) (by rw [hs3, textB_next, hs2, hl2])
 have K4 : Hid (∀ w', (Op.stringOp .add s3 l3).run Tryz.prog w' = .ok (.string s4) w') := fun w' => Eq.trans (run_string_add_sum w' _ _ (by have h1 := HSZ.out 3 (by omega); have h2 := HLZ.out 3 (by omega); rw [hs3, hl3]; omega)) (by rw [hs4, textB_next, hs3, hl3])
 have L0 : Hid (∀ W A c, IntsAt W A 1 [sd] -> Calls Tryz.prog 155 #[.string W0, .slice A 1 c] W fun e w' => e = .returned (.string l0) /\ Below W.heap.size W w') := fun W A c hz => by rw [hW0, hl0]; exact HLI.out 0 (by omega) W A 1 c (by rw [hsd] at hz; exact hz)
 have L1 : Hid (∀ W A c, IntsAt W A sn sh -> Calls Tryz.prog 155 #[.string ⟨#[115, 104, 97, 114, 101, 115]⟩, .slice A sn c] W fun e w' => e = .returned (.string l1) /\ Below W.heap.size W w') := fun W A c hz => by rw [hl1]; exact HLI.out 1 (by omega) W A sn c hz
 have L2 : Hid (∀ W A c, IntsAt W A 8 T.direct -> Calls Tryz.prog 155 #[.string ⟨#[100, 105, 114, 101, 99, 116]⟩, .slice A 8 c] W fun e w' => e = .returned (.string l2) /\ Below W.heap.size W w') := fun W A c hz => by rw [hl2]; exact HLI.out 2 (by omega) W A 8 c hz
 have L3 : Hid (∀ W A c, IntsAt W A qn T.squares -> Calls Tryz.prog 155 #[.string ⟨#[115, 113, 117, 97, 114, 101, 115]⟩, .slice A qn c] W fun e w' => e = .returned (.string l3) /\ Below W.heap.size W w') := fun W A c hz => by rw [hl3]; exact HLI.out 3 (by omega) W A qn c hz
 have HS4 := lh hs4; clear hW0 hl0 hl1 hl2 hl3 hs2 hs3 hs4; have HD8 : Hid (T.direct.length = 8) := hG.dl; have HS := lh hT.sets; have HGG := lh hG; have HSh := lh hT.shares; have HSq := lh hT.squares; have q0 := hT.c0; have q1 := hT.c1; have q10 := hT.c10; have q11 := hT.c11; have q12 := hT.c12; rw [<- hsd] at q10
 have QD : Hid (∀ i, i < 8 -> cs[2 + i]? = some (.int .i64 (T.direct.getD i 0))) := fun i hi => by
  rw [hT.cells]
  match i, hi with
  | 0, _ => rfl
  | 1, _ => rfl
  | 2, _ => rfl
  | 3, _ => rfl
  | 4, _ => rfl
  | 5, _ => rfl
  | 6, _ => rfl
  | 7, _ => rfl
 have HEN : Hid (∀ k, k < gn -> 0 < ((T.sets.getD k (0, [])).2).length /\ ((T.sets.getD k (0, [])).2).length <= 8) := fun k hk => by
  have h1 := hG.len (k := k) (by rw [hT.sets.1]; exact hk); have h2 := hG.cnt.2
  omega
 clear hT hG hnm hsd
 go_enter Tryz.func75, Tryz.ntmps75
 go_upto_region 1 with fail
 obtain ⟨w1, hw1⟩ : ∃ W, W = w.alloc (.cells cs 26) := ⟨_, rfl⟩; rw [<- hw1]; have T1 : Hid (Blk w1 w.heap.size 26 cs) := by show Blk _ _ _ _; rw [hw1]; exact Blk.new _ _ _
 have HB1 : Hid (Below w.heap.size w w1) := by show Below _ _ _; rw [hw1]; exact (Below.refl _ _).alloc (Nat.le_refl _) _
 obtain ⟨g, hg⟩ : ∃ g, g = w.heap.size := ⟨_, rfl⟩; rw [<- hg] at T1 ⊢; clear hw1 hg; have hgl : g < w1.heap.size := lt_of_block T1.out; go_wp2
 go_loopw [3, 4] (fun v i wr => ∃ k : Nat, k <= 8 /\ i = .int .i64 k /\ OwnI wr w1.heap.size v (T.direct.take k) /\ Below w1.heap.size w1 wr) (fun _ i _ => 8 - (intOf i).toNat)
 case atStart => exact ⟨0, Nat.zero_le _, rfl, own_empty w1, (Below.refl _ _).alloc (Nat.le_refl _) _⟩
 case round =>
  obtain ⟨k, hk, rfl, hown, hbw⟩ := hrel
  by_cases hlt : k < 8
  ·have hlen : (T.direct.take k).length = k := by rw [List.length_take, HD8.out]; omega
   have hown0 : wr.ownsRow w1.heap.size 3 1 u3 k ((T.direct.take k).map (Value.int .i64)) := by have := hown; unfold OwnI at this; rwa [hlen] at this
   have hsz := hbw.size; have HB := lh hbw; have cd := ((T1.out.below hbw).cell (2 + k)).trans (QD.out k hlt); obtain ⟨x, hx⟩ : ∃ x, x = T.direct.getD k 0 := ⟨_, rfl⟩; rw [<- hx] at cd
   have HT2 : Hid (T.direct.take (k + 1) = T.direct.take k ++ [x]) := by
    show _ = _
    have hkl : k < T.direct.length := by rw [HD8.out]; exact hlt
    have hgd : T.direct.getD k 0 = T.direct[k] := by simp [List.getD_eq_getElem?_getD, List.getElem?_eq_getElem hkl]
    rw [hx, hgd]; exact (List.take_append_getElem hkl).symm
   have HLEN := lh hlen; clear hown hbw hx hlen
   go_wp2_with (at_builtin; refine wpList_append_own _ rfl _ _ 22 rfl w1.heap.size 3 i0 (.int .i64 0) 1 8 Tryz.underlying22 hi hz0 hz1 hz2 rfl (by decide) _ _ _ rfl (World.ownsRow.alloc hown0 _) ⟨wr.heap.size, 0, none⟩ 1 1 [.int .i64 x] rfl rfl (cell_one_new _ _ _) (by simp [Value.oneCell']) (by unfold maxLen; omega) (by omega) (by simp; omega) ?_; intro v' w2 hown' hgrow _)
   have R : OwnI w2 w1.heap.size v' (T.direct.take (k + 1)) := by
    unfold OwnI; rw [HT2.out, List.length_append, HLEN.out, List.map_append]; exact hown'
   have B1 : Below w1.heap.size w1 w2 := Below.grown (HB.out.alloc (by omega) _) hgrow (by simp; omega) (fun j hj => (hown0.lt j hj).1); clear hown' hgrow hown0; go_wp2; go_roundw
   case rel => exact ⟨k + 1, by omega, by go_num, R, B1⟩
   case measure => simp [intOf]; omega
  ·obtain rfl : k = 8 := by omega
   rw [List.take_of_length_le (by rw [HD8.out]; omega)] at hown; rcases hown.form with ⟨_, hnil⟩ | ⟨gd, cd, hv, _⟩
   ·rw [hnil] at HD8; exact absurd HD8.out (by simp)
   rw [HD8.out] at hv; subst hv; have DI := lh hown.at_; have T2 := lh (T1.out.below hbw); have HB2 := lh (HB1.out.trans (hbw.mono HB1.out.size)); clear hown hbw hk hlt T1 HB1
   go_upto_region 7 with fail
   refine wp_region_grow 18 (by kernel_rfl) (by kernel_rfl) [GR.eq (.pointer (some ⟨g, 0, none⟩)), GR.eq (.string nm), GR.eq (.string W0), GR.eq (.pointer (some ⟨g, 10, none⟩)), GR.eq (.int .i64 sd), GR.row 1 3 #[.int .i64 sd], GR.eq (.string l0), GR.eq (.pointer (some ⟨g, 1, none⟩)), GR.eq (.slice sa sn sc), GR.eq (.string l1), GR.eq (.string s2), GR.eq (.slice (some ⟨gd, 0, none⟩) 8 cd), GR.eq (.string l2), GR.eq (.string s3), GR.eq (.pointer (some ⟨g, 11, none⟩)), GR.eq (.slice qa qn qc), GR.eq (.string l3), GR.eq (.string s4)] 62 rfl (by kernel_rfl) ?_ ?_
   ·refine ⟨?_, ?_, ?_, ?_, ?_, ?_, ?_, ?_, ?_, ?_, ?_, ?_, ?_, ?_, ?_, ?_, ?_, ?_, trivial⟩
    ·intro a W hE hd ho; have e1 : a.tmps[1]?.getD undef = .pointer (some ⟨g, 0, none⟩) := ho 1 (by kernel_rfl); exact gs_same (v := .pointer (some ⟨g, 0, none⟩)) (by go_simp) rfl
    ·intro a W hE hd ho; have e19 : a.tmps[19]?.getD undef = .pointer (some ⟨g, 0, none⟩) := hd 0 19 (by kernel_rfl) (by kernel_rfl); have c0 := ((T2.out.below hE).cell 0).trans q0; exact gs_same (v := .string nm) (by go_simp) rfl
    ·intro a W hE hd ho; have e20 : a.tmps[20]?.getD undef = .string nm := hd 1 20 (by kernel_rfl) (by kernel_rfl); have kk := K0.out; exact gs_same (v := .string W0) (by go_simp) rfl
    ·intro a W hE hd ho; have e1 : a.tmps[1]?.getD undef = .pointer (some ⟨g, 0, none⟩) := ho 1 (by kernel_rfl); exact gs_same (v := .pointer (some ⟨g, 10, none⟩)) (by go_simp) rfl
    ·intro a W hE hd ho; have e22 : a.tmps[22]?.getD undef = .pointer (some ⟨g, 10, none⟩) := hd 3 22 (by kernel_rfl) (by kernel_rfl); have c10 := ((T2.out.below hE).cell 10).trans q10; exact gs_same (v := .int .i64 sd) (by go_simp) rfl
    ·intro a W hE hd ho; have e23 : a.tmps[23]?.getD undef = .int .i64 sd := hd 4 23 (by kernel_rfl) (by kernel_rfl); exact gs_val (v := .slice (some ⟨W.heap.size, 0, none⟩) 1 1) (W' := W.alloc (.cells #[.int .i64 sd] 3)) (by go_simp) ((Below.refl _ _).alloc (Nat.le_refl _) _) ⟨W.heap.size, rfl, Blk.new _ _ _⟩
    ·intro a W hE hd ho; have e21 : a.tmps[21]?.getD undef = .string W0 := hd 2 21 (by kernel_rfl) (by kernel_rfl); obtain ⟨gs, e24, hgs⟩ : ∃ g, a.tmps[24]?.getD undef = .slice (some ⟨g, 0, none⟩) 1 1 /\ Blk W g 3 #[.int .i64 sd] := hd 5 24 (by kernel_rfl) (by kernel_rfl); refine gs_call (f := 155) (args := #[.string W0, .slice (some ⟨gs, 0, none⟩) 1 1]) (by go_simp) ?_; refine (L0.out W _ 1 (row_ints1 hgs)).mono ?_; rintro e w9 ⟨rfl, hbl⟩; exact ⟨_, rfl, hbl, rfl⟩
    ·intro a W hE hd ho; have e1 : a.tmps[1]?.getD undef = .pointer (some ⟨g, 0, none⟩) := ho 1 (by kernel_rfl); exact gs_same (v := .pointer (some ⟨g, 1, none⟩)) (by go_simp) rfl
    ·intro a W hE hd ho; have e26 : a.tmps[26]?.getD undef = .pointer (some ⟨g, 1, none⟩) := hd 7 26 (by kernel_rfl) (by kernel_rfl); have c1 := ((T2.out.below hE).cell 1).trans q1; exact gs_same (v := .slice sa sn sc) (by go_simp) rfl
    ·intro a W hE hd ho; have e27 : a.tmps[27]?.getD undef = .slice sa sn sc := hd 8 27 (by kernel_rfl) (by kernel_rfl); refine gs_call (f := 155) (args := #[.string ⟨#[115, 104, 97, 114, 101, 115]⟩, .slice sa sn sc]) (by go_simp) ?_; refine (L1.out W _ sc (HSh.out.keep (HB2.out.trans (hE.below.mono HB2.out.size)))).mono ?_; rintro e w9 ⟨rfl, hbl⟩; exact ⟨_, rfl, hbl, rfl⟩
    ·intro a W hE hd ho; have e25 : a.tmps[25]?.getD undef = .string l0 := hd 6 25 (by kernel_rfl) (by kernel_rfl); have e28 : a.tmps[28]?.getD undef = .string l1 := hd 9 28 (by kernel_rfl) (by kernel_rfl); have kk := K2.out; exact gs_same (v := .string s2) (by go_simp) rfl
    ·intro a W hE hd ho; have e3 : a.tmps[3]?.getD undef = .slice (some ⟨gd, 0, none⟩) 8 cd := ho 3 (by kernel_rfl); exact gs_same (v := .slice (some ⟨gd, 0, none⟩) 8 cd) (by go_simp) rfl
    ·intro a W hE hd ho; have e30 : a.tmps[30]?.getD undef = .slice (some ⟨gd, 0, none⟩) 8 cd := hd 11 30 (by kernel_rfl) (by kernel_rfl); refine gs_call (f := 155) (args := #[.string ⟨#[100, 105, 114, 101, 99, 116]⟩, .slice (some ⟨gd, 0, none⟩) 8 cd]) (by go_simp) ?_; refine (L2.out W _ cd (DI.out.keep hE)).mono ?_; rintro e w9 ⟨rfl, hbl⟩; exact ⟨_, rfl, hbl, rfl⟩
    ·intro a W hE hd ho; have e29 : a.tmps[29]?.getD undef = .string s2 := hd 10 29 (by kernel_rfl) (by kernel_rfl); have e31 : a.tmps[31]?.getD undef = .string l2 := hd 12 31 (by kernel_rfl) (by kernel_rfl); have kk := K3.out; exact gs_same (v := .string s3) (by go_simp) rfl
    ·intro a W hE hd ho; have e1 : a.tmps[1]?.getD undef = .pointer (some ⟨g, 0, none⟩) := ho 1 (by kernel_rfl); exact gs_same (v := .pointer (some ⟨g, 11, none⟩)) (by go_simp) rfl
    ·intro a W hE hd ho; have e33 : a.tmps[33]?.getD undef = .pointer (some ⟨g, 11, none⟩) := hd 14 33 (by kernel_rfl) (by kernel_rfl); have c11 := ((T2.out.below hE).cell 11).trans q11; exact gs_same (v := .slice qa qn qc) (by go_simp) rfl
    ·intro a W hE hd ho; have e34 : a.tmps[34]?.getD undef = .slice qa qn qc := hd 15 34 (by kernel_rfl) (by kernel_rfl); refine gs_call (f := 155) (args := #[.string ⟨#[115, 113, 117, 97, 114, 101, 115]⟩, .slice qa qn qc]) (by go_simp) ?_; refine (L3.out W _ qc (HSq.out.keep (HB2.out.trans (hE.below.mono HB2.out.size)))).mono ?_; rintro e w9 ⟨rfl, hbl⟩; exact ⟨_, rfl, hbl, rfl⟩
    ·intro a W hE hd ho; have e32 : a.tmps[32]?.getD undef = .string s3 := hd 13 32 (by kernel_rfl) (by kernel_rfl); have e35 : a.tmps[35]?.getD undef = .string l3 := hd 16 35 (by kernel_rfl) (by kernel_rfl); have kk := K4.out; exact gs_same (v := .string s4) (by go_simp) rfl
   intro vv w4 hE hR; have y0 : vv 0 = .pointer (some ⟨g, 0, none⟩) := hR 0 (by omega); have y1 : vv 1 = .string nm := hR 1 (by omega); have y2 : vv 2 = .string W0 := hR 2 (by omega); have y3 : vv 3 = .pointer (some ⟨g, 10, none⟩) := hR 3 (by omega); have y4 : vv 4 = .int .i64 sd := hR 4 (by omega); obtain ⟨z5, y5⟩ : ∃ v, vv 5 = v := ⟨_, rfl⟩; have y6 : vv 6 = .string l0 := hR 6 (by omega); have y7 : vv 7 = .pointer (some ⟨g, 1, none⟩) := hR 7 (by omega); have y8 : vv 8 = .slice sa sn sc := hR 8 (by omega); have y9 : vv 9 = .string l1 := hR 9 (by omega); have y10 : vv 10 = .string s2 := hR 10 (by omega); have y11 : vv 11 = .slice (some ⟨gd, 0, none⟩) 8 cd := hR 11 (by omega); have y12 : vv 12 = .string l2 := hR 12 (by omega); have y13 : vv 13 = .string s3 := hR 13 (by omega); have y14 : vv 14 = .pointer (some ⟨g, 11, none⟩) := hR 14 (by omega); have y15 : vv 15 = .slice qa qn qc := hR 15 (by omega)
   have y16 : vv 16 = .string l3 := hR 16 (by omega); have y17 : vv 17 = .string s4 := hR 17 (by omega); simp only [List.range, List.range.loop, List.foldl_cons, List.foldl_nil, y0, y1, y2, y3, y4, y5, y6, y7, y8, y9, y10, y11, y12, y13, y14, y15, y16, y17, List.drop_succ_cons, List.drop_zero]; simp only [dstAt, List.getElem?_toArray, List.getElem?_cons_zero, List.getElem?_cons_succ, Option.bind_some, Act.put, List.setIfInBounds_toArray, List.set_cons_zero, List.set_cons_succ]; clear y0 y1 y2 y3 y4 y5 y6 y7 y8 y9 y10 y11 y12 y13 y14 y15 y16 y17 hR; have HB4 := lh (HB2.out.trans (hE.below.mono HB2.out.size)); have T4 := lh (T2.out.below hE); clear hE T2 HB2 DI K0 K2 K3 K4 L0 L1 L2 L3; have hz4 := HS4.out; go_wp2
   go_loopw [5, 6] (fun sv i wr => ∃ k : Nat, k <= gn /\ i = .int .i64 k /\ sv = .string (textB nm sh T (4 + k)) /\ Below w.heap.size w wr /\ Hid (Blk wr g 26 cs)) (fun _ i _ => gn - (intOf i).toNat)
   case atStart => exact ⟨0, Nat.zero_le _, rfl, by rw [hz4], HB4.out, T4⟩
   case round =>
    clear hz4 HB4 T4; obtain ⟨k, hk, rfl, rfl, hb, T8⟩ := hrel; have HB8 := lh hb; have t12 := (T8.out.cell 12).trans q12
    by_cases hlt : k < gn
    ·obtain ⟨gb, go, rfl, hsl⟩ := HS.out.2 (by omega); obtain ⟨ea, en, ec, a1, a2, a3⟩ := (hsl.keep hb).2 k hlt; obtain ⟨p, hp⟩ : ∃ p, p = Bell.ePow T.sets k := ⟨_, rfl⟩; obtain ⟨es, hes⟩ : ∃ es, es = (T.sets.getD k (0, [])).2 := ⟨_, rfl⟩; have hen := HEN.out k hlt
     have HRI : Hid (rowI sh T (4 + k) = p :: es) := by
      show _ = _
      unfold rowI; rw [if_neg (by omega), if_neg (by omega), if_neg (by omega), if_neg (by omega), Nat.add_sub_cancel_left, hp, hes]
     rw [<- hp] at a1; rw [<- hes] at a3 hen; rw [a3.1] at hen; obtain ⟨henp, hen8⟩ := hen; have hen9 : en <= 100000 := by omega
     have HES := lh a3; have C0 : Hid (∀ W, Ext wr W -> W.cell? ⟨gb, go + k * 2, none⟩ = some (.int .i64 p)) := fun W hE => (hE.cell (p := ⟨gb, go + k * 2, none⟩) (World.block_lt_of_cell? _ _ a1)).trans a1
     have C1 : Hid (∀ W, Ext wr W -> W.cell? ⟨gb, go + k * 2 + 1, none⟩ = some (.slice ea en ec)) := fun W hE => (hE.cell (p := ⟨gb, go + k * 2 + 1, none⟩) (World.block_lt_of_cell? _ _ a2)).trans a2
     obtain ⟨sk, hsk⟩ : ∃ x, x = textB nm sh T (4 + k) := ⟨_, rfl⟩; obtain ⟨sn2, hsn2⟩ : ∃ x, x = textB nm sh T (4 + (k + 1)) := ⟨_, rfl⟩; obtain ⟨lk, hlk⟩ : ∃ x, x = lineG (wordB nm (4 + k)) (rowI sh T (4 + k)) := ⟨_, rfl⟩; have KN : Hid (∀ w', (Op.stringOp .add sk lk).run Tryz.prog w' = .ok (.string sn2) w') := fun w' => Eq.trans (run_string_add_sum w' _ _ (by have h1 := HSZ.out (4 + k) (by omega); have h2 := HLZ.out (4 + k) (by omega); rw [hsk, hlk]; omega)) (by rw [hsn2, <- Nat.add_assoc, textB_next, hsk, hlk])
     have hwk : wordB nm (4 + k) = ⟨#[112, 111, 119, 101, 114]⟩ := by unfold wordB; rw [if_neg (by omega), show min (4 + k) 4 = 4 by omega]; rfl
     have LK : Hid (∀ W A n c, IntsAt W A n (p :: es) -> Calls Tryz.prog 155 #[.string ⟨#[112, 111, 119, 101, 114]⟩, .slice A n c] W fun e w' => e = .returned (.string lk) /\ Below W.heap.size W w') := fun W A n c hz => by
      have := HLI.out (4 + k) (by omega) W A n c (by rw [HRI.out]; exact hz); rw [<- hlk, hwk] at this; exact this
     rw [<- hsk]; have HSN := lh hsn2; have hki : (k : Int) < (gn : Int) := by omega
     clear hp hes a1 a2 a3 hsk hsn2 hlk hwk hsl hb hlt
     go_upto_region 11 with fail
     refine wp_region_grow 17 (by kernel_rfl) (by kernel_rfl) [GR.eq (.string sk), GR.eq (.pointer (some ⟨g, 12, none⟩)), GR.eq (.slice (some ⟨gb, go, none⟩) gn gc), GR.eq (.int .i64 k), GR.eq (.pointer (some ⟨gb, go + k * 2, none⟩)), GR.eq (.pointer (some ⟨gb, go + k * 2, none⟩)), GR.eq (.int .i64 p), GR.row 1 3 #[.int .i64 p], GR.eq (.pointer (some ⟨g, 12, none⟩)), GR.eq (.slice (some ⟨gb, go, none⟩) gn gc), GR.eq (.int .i64 k), GR.eq (.pointer (some ⟨gb, go + k * 2, none⟩)), GR.eq (.pointer (some ⟨gb, go + k * 2 + 1, none⟩)), GR.eq (.slice ea en ec), GR.ints 0 (p :: es), GR.eq (.string lk), GR.eq (.string sn2)] 62 rfl (by kernel_rfl) ?_ ?_
     ·refine ⟨?_, ?_, ?_, ?_, ?_, ?_, ?_, ?_, ?_, ?_, ?_, ?_, ?_, ?_, ?_, ?_, ?_, trivial⟩
      ·intro a W hE hd ho; have e5 : a.tmps[5]?.getD undef = .string sk := ho 5 (by kernel_rfl); exact gs_same (v := .string sk) (by go_simp) rfl
      ·intro a W hE hd ho; have e1 : a.tmps[1]?.getD undef = .pointer (some ⟨g, 0, none⟩) := ho 1 (by kernel_rfl); exact gs_same (v := .pointer (some ⟨g, 12, none⟩)) (by go_simp) rfl
      ·intro a W hE hd ho; have e45 : a.tmps[45]?.getD undef = .pointer (some ⟨g, 12, none⟩) := hd 1 45 (by kernel_rfl) (by kernel_rfl); have c12 := ((T8.out.below hE).cell 12).trans q12; exact gs_same (v := .slice (some ⟨gb, go, none⟩) gn gc) (by go_simp) rfl
      ·intro a W hE hd ho; have e6 : a.tmps[6]?.getD undef = .int .i64 k := ho 6 (by kernel_rfl); exact gs_same (v := .int .i64 k) (by go_simp) rfl
      ·intro a W hE hd ho; have e46 : a.tmps[46]?.getD undef = .slice (some ⟨gb, go, none⟩) gn gc := hd 2 46 (by kernel_rfl) (by kernel_rfl); have e47 : a.tmps[47]?.getD undef = .int .i64 k := hd 3 47 (by kernel_rfl) (by kernel_rfl); exact gs_same (v := .pointer (some ⟨gb, go + k * 2, none⟩)) (by go_simp) rfl
      ·intro a W hE hd ho; have e48 : a.tmps[48]?.getD undef = .pointer (some ⟨gb, go + k * 2, none⟩) := hd 4 48 (by kernel_rfl) (by kernel_rfl); exact gs_same (v := .pointer (some ⟨gb, go + k * 2, none⟩)) (by go_simp) rfl
      ·intro a W hE hd ho; have e49 : a.tmps[49]?.getD undef = .pointer (some ⟨gb, go + k * 2, none⟩) := hd 5 49 (by kernel_rfl) (by kernel_rfl); have cp := C0.out W hE; exact gs_same (v := .int .i64 p) (by go_simp) rfl
      ·intro a W hE hd ho; have e50 : a.tmps[50]?.getD undef = .int .i64 p := hd 6 50 (by kernel_rfl) (by kernel_rfl); exact gs_val (v := .slice (some ⟨W.heap.size, 0, none⟩) 1 1) (W' := W.alloc (.cells #[.int .i64 p] 3)) (by go_simp) ((Below.refl _ _).alloc (Nat.le_refl _) _) ⟨W.heap.size, rfl, Blk.new _ _ _⟩
      ·intro a W hE hd ho; have e1 : a.tmps[1]?.getD undef = .pointer (some ⟨g, 0, none⟩) := ho 1 (by kernel_rfl); exact gs_same (v := .pointer (some ⟨g, 12, none⟩)) (by go_simp) rfl
      ·intro a W hE hd ho; have e52 : a.tmps[52]?.getD undef = .pointer (some ⟨g, 12, none⟩) := hd 8 52 (by kernel_rfl) (by kernel_rfl); have c12 := ((T8.out.below hE).cell 12).trans q12; exact gs_same (v := .slice (some ⟨gb, go, none⟩) gn gc) (by go_simp) rfl
      ·intro a W hE hd ho; have e6 : a.tmps[6]?.getD undef = .int .i64 k := ho 6 (by kernel_rfl); exact gs_same (v := .int .i64 k) (by go_simp) rfl
      ·intro a W hE hd ho; have e53 : a.tmps[53]?.getD undef = .slice (some ⟨gb, go, none⟩) gn gc := hd 9 53 (by kernel_rfl) (by kernel_rfl); have e54 : a.tmps[54]?.getD undef = .int .i64 k := hd 10 54 (by kernel_rfl) (by kernel_rfl); exact gs_same (v := .pointer (some ⟨gb, go + k * 2, none⟩)) (by go_simp) rfl
      ·intro a W hE hd ho; have e55 : a.tmps[55]?.getD undef = .pointer (some ⟨gb, go + k * 2, none⟩) := hd 11 55 (by kernel_rfl) (by kernel_rfl); exact gs_same (v := .pointer (some ⟨gb, go + k * 2 + 1, none⟩)) (by go_simp) rfl
      ·intro a W hE hd ho; have e56 : a.tmps[56]?.getD undef = .pointer (some ⟨gb, go + k * 2 + 1, none⟩) := hd 12 56 (by kernel_rfl) (by kernel_rfl); have ce := C1.out W hE; exact gs_same (v := .slice ea en ec) (by go_simp) rfl
      ·intro a W hE hd ho; have e57 : a.tmps[57]?.getD undef = .slice ea en ec := hd 13 57 (by kernel_rfl) (by kernel_rfl); obtain ⟨gs, e51, hgs⟩ : ∃ g, a.tmps[51]?.getD undef = .slice (some ⟨g, 0, none⟩) 1 1 /\ Blk W g 3 #[.int .i64 p] := hd 7 51 (by kernel_rfl) (by kernel_rfl); exact gs_cons (.tmp 51) (.tmp 57) rfl ⟨gs, (eval_getD _ _).trans e51, hgs⟩ ((eval_getD _ _).trans e57) (HES.out.keep hE) henp hen9 (Nat.zero_le _)
      ·intro a W hE hd ho; obtain ⟨A, n, c, e58, hz⟩ : ∃ A n c, a.tmps[58]?.getD undef = .slice A n c /\ IntsAt W A n (p :: es) := OwnI.slice (hd 14 58 (by kernel_rfl) (by kernel_rfl)); refine gs_call (f := 155) (args := #[.string ⟨#[112, 111, 119, 101, 114]⟩, .slice A n c]) (by go_simp) ?_; refine (LK.out W A n c hz).mono ?_; rintro e w9 ⟨rfl, hbl⟩; exact ⟨_, rfl, hbl, rfl⟩
      ·intro a W hE hd ho; have e44 : a.tmps[44]?.getD undef = .string sk := hd 0 44 (by kernel_rfl) (by kernel_rfl); have e59 : a.tmps[59]?.getD undef = .string lk := hd 15 59 (by kernel_rfl) (by kernel_rfl); have kk := KN.out; exact gs_same (v := .string sn2) (by go_simp) rfl
     intro vv w9 hE hR; have y0 : vv 0 = .string sk := hR 0 (by omega); have y1 : vv 1 = .pointer (some ⟨g, 12, none⟩) := hR 1 (by omega); have y2 : vv 2 = .slice (some ⟨gb, go, none⟩) gn gc := hR 2 (by omega); have y3 : vv 3 = .int .i64 k := hR 3 (by omega); have y4 : vv 4 = .pointer (some ⟨gb, go + k * 2, none⟩) := hR 4 (by omega); have y5 : vv 5 = .pointer (some ⟨gb, go + k * 2, none⟩) := hR 5 (by omega); have y6 : vv 6 = .int .i64 p := hR 6 (by omega); obtain ⟨z7, y7⟩ : ∃ v, vv 7 = v := ⟨_, rfl⟩; have y8 : vv 8 = .pointer (some ⟨g, 12, none⟩) := hR 8 (by omega); have y9 : vv 9 = .slice (some ⟨gb, go, none⟩) gn gc := hR 9 (by omega); have y10 : vv 10 = .int .i64 k := hR 10 (by omega); have y11 : vv 11 = .pointer (some ⟨gb, go + k * 2, none⟩) := hR 11 (by omega); have y12 : vv 12 = .pointer (some ⟨gb, go + k * 2 + 1, none⟩) := hR 12 (by omega); have y13 : vv 13 = .slice ea en ec := hR 13 (by omega)
     obtain ⟨z14, y14⟩ : ∃ v, vv 14 = v := ⟨_, rfl⟩; have y15 : vv 15 = .string lk := hR 15 (by omega); have y16 : vv 16 = .string sn2 := hR 16 (by omega); simp only [List.range, List.range.loop, List.foldl_cons, List.foldl_nil, y0, y1, y2, y3, y4, y5, y6, y7, y8, y9, y10, y11, y12, y13, y14, y15, y16, List.drop_succ_cons, List.drop_zero]; simp only [dstAt, List.getElem?_toArray, List.getElem?_cons_zero, List.getElem?_cons_succ, Option.bind_some, Act.put, List.setIfInBounds_toArray, List.set_cons_zero, List.set_cons_succ]; clear y0 y1 y2 y3 y4 y5 y6 y7 y8 y9 y10 y11 y12 y13 y14 y15 y16 hR; have HB9 := lh (HB8.out.trans (hE.below.mono HB8.out.size)); have T9 := lh (T8.out.below hE); clear hE T8 HB8 KN LK C0 C1 HES; go_wp2; go_roundw
     case rel => exact ⟨k + 1, by omega, by go_num, by rw [HSN.out], HB9.out, T9⟩
     case measure => simp [intOf]; omega
    ·obtain rfl : k = gn := by omega
     rw [<- HTE.out]; go_wp2; go_ret; exact ⟨rfl, HB8.out⟩
end Go.Proofs.YtmafmebcgmegeaaGreatDoor
