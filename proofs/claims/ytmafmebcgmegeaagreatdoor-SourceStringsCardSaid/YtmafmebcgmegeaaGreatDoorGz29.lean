/- Part. -/
import Derived.Test.YtmafmebcgmegeaaGreatDoorGz1
import Derived.Test.YtmafmebcgmegeaaGreatDoorGz28
import Derived.Test.YtmafmebcgmegeaaGreatDoorGz14
import Derived.ArgAppend
import Derived.Test.YtmafmebcgmegeaaGreatDoorGz10
import Derived.Test.YtmafmebcgmegeaaGreatDoorGz2
import Derived.Test.YtmafmebcgmegeaaGreatDoorGz4
namespace Go.Proofs.YtmafmebcgmegeaaGreatDoor
open Go.RowKit Go.Sort
theorem splitAfter_strs (b : UInt8) (s : ByteArray) (w : World) (hs : s.size < 4294967281) :
  Calls Tryz.prog 206 #[.string s, .string ⟨#[b]⟩] w fun e w' => ∃ g, e = .returned (.slice (some ⟨g, 0, none⟩) (sepL b 1 s).length (sepL b 1 s).length) /\ StrsAt w' (some ⟨g, 0, none⟩) (sepL b 1 s).length (sepL b 1 s) /\ Below w.heap.size w w' := by
 refine (splitAfter_one b s w hs).mono ?_; rintro e w' ⟨rfl, rfl⟩; exact ⟨_, rfl, strsAt_new w _ _, (Below.refl _ _).alloc (Nat.le_refl _) _⟩
def linesB (s : ByteArray) : List ByteArray := (linesOf s.data.toList).map fun l => (⟨l.toArray⟩ : ByteArray)
theorem linesB_len (s : ByteArray) : (linesB s).length = (linesOf s.data.toList).length := by simp [linesB]
theorem linesOf_le (l : List UInt8) : (linesOf l).length <= (cutSt 10 l).1.length + 1 := by
 unfold linesOf; rw [List.length_append, List.length_map]
 split <;> simp
theorem linesB_le (s : ByteArray) : (linesB s).length <= s.size + 1 := by
 rw [linesB_len]; have h1 := linesOf_le s.data.toList; have h2 := sepL_le 10 1 s; rw [sepL_len] at h2
 omega
theorem linesB_size (s : ByteArray) : ∀ x ∈ linesB s, x.size <= s.size := by
 intro x hx; obtain ⟨l, hl, rfl⟩ := List.mem_map.1 hx; have := flat_le_len _ _ hl; rw [linesOf_back] at this
 show l.toArray.size <= s.size
 rw [List.size_toArray]; exact this
set_option maxHeartbeats 2000000 in
set_option maxRecDepth 100000 in
theorem lines_any (s : ByteArray) (w : World) (hs : s.size <= 90000) :
  Calls Tryz.prog 153 #[.string s] w fun e w' => ∃ g c, e = .returned (.slice (some ⟨g, 0, none⟩) (linesB s).length c) /\ StrsAt w' (some ⟨g, 0, none⟩) (linesB s).length (linesB s) /\ Below w.heap.size w w' := by
 have H := lh (splitAfter_strs 10 s w (by omega)); obtain ⟨D, hD⟩ : ∃ D, D = (cutSt 10 s.data.toList).1.map fun p => (⟨(p ++ [10]).toArray⟩ : ByteArray) := ⟨_, rfl⟩
 obtain ⟨c, hc⟩ : ∃ c : ByteArray, c = ⟨(cutSt 10 s.data.toList).2.toArray⟩ := ⟨_, rfl⟩; have hcl : c.data.toList = (cutSt 10 s.data.toList).2 := by rw [hc]
 have e1 : sepL 10 1 s = D ++ [c] := by
  unfold sepL; rw [hD, hc, List.map_append, List.map_map]
  rfl
 have e2 : linesB s = D ++ (if c.data.toList = [] then [] else [c]) := by
  unfold linesB linesOf; rw [List.map_append, List.map_map, hcl, hD]
  congr 1
  by_cases h : (cutSt 10 s.data.toList).2 = []
  ·rw [if_pos h, if_pos h]; rfl
  ·rw [if_neg h, if_neg h, hc]; rfl
 have hle := linesB_le s; have hle2 := sepL_le 10 1 s; rw [e1] at H hle2; have HE2 := lh e2; have hDl : D.length <= 90000 := by simp at hle2; omega
 have tl : c.toList = c.data.toList := ByteArray.toList_eq c; clear hD hc hcl e1 e2 hle hle2 hs; obtain ⟨n, hn⟩ : ∃ n, n = D.length := ⟨_, rfl⟩; have e3 : (D ++ [c]).length = n + 1 := by rw [hn]; simp
 rw [e3] at H; have HN := lh hn; have HDL : Hid (n <= 90000) := by show _ <= _; omega
 have hnn : n <= 90000 := by omega
 clear e3 hDl hn
 by_cases h0 : c.data.toList = []
 ·have q1 : c.toList = [] := tl.trans h0; have HL : Hid (linesB s = D) := by show _ = _; rw [HE2.out, if_pos h0, List.append_nil]
  clear h0 tl
  go_enter Tryz.func153, Tryz.ntmps153
  go_wp2_with fail
  refine H.out.mono ?_; rintro e w1 ⟨g, rfl, hS, hb⟩; have HS := lh hS; have HB := lh hb
  have hlast : w1.cell? ⟨g, n, none⟩ = some (.string c) := by
   obtain ⟨g', o', e, hg, hx⟩ := hS.2 (by omega); have e := Option.some.inj e
   injection e with e1 e2 e3
   subst e1 e2; have := hx n c (by rw [HN.out]; simp)
   rwa [Nat.zero_add] at this
  clear hS hb; go_wp2; go_ret; refine ⟨g, n + 1, ?_, ?_, HB.out⟩
  ·rw [HL.out, <- HN.out]; rfl
  ·rw [HL.out, <- HN.out]; refine ⟨HN.out.symm, fun hp => ?_⟩; obtain ⟨g', o', e, hg, hx⟩ := HS.out.2 (by omega)
   exact ⟨g', o', e, hg, fun i x hi => hx i x (by
    rw [List.getElem?_append_left (List.getElem?_eq_some_iff.1 hi).1]; exact hi)⟩
 ·have q1 : c.toList.isEmpty = false := by
   rw [tl]
   cases h : c.data.toList with
   | nil => exact absurd h h0
   | cons _ _ => rfl
  have HL : Hid (linesB s = D ++ [c]) := by show _ = _; rw [HE2.out, if_neg h0]
  clear h0 tl
  go_enter Tryz.func153, Tryz.ntmps153
  go_wp2_with fail
  refine H.out.mono ?_; rintro e w1 ⟨g, rfl, hS, hb⟩; have HS := lh hS; have HB := lh hb
  have hlast : w1.cell? ⟨g, n, none⟩ = some (.string c) := by
   obtain ⟨g', o', e, hg, hx⟩ := hS.2 (by omega); have e := Option.some.inj e
   injection e with e1 e2 e3
   subst e1 e2; have := hx n c (by rw [HN.out]; simp)
   rwa [Nat.zero_add] at this
  clear hS hb; go_wp2; go_ret; refine ⟨g, n + 1, ?_, ?_, HB.out⟩
  ·rw [HL.out, List.length_append, <- HN.out]; rfl
  ·rw [HL.out, List.length_append, <- HN.out]; exact HS.out
set_option maxHeartbeats 1000000 in
set_option maxRecDepth 100000 in
theorem indexStr_any (w : World) (A : Option Addr) (n c : Nat) (l : List ByteArray) (v : ByteArray) (hn : n <= 100000) (h : StrsAt w A n l) :
  Calls Tryz.prog 252 #[.slice A n c, .string v] w fun e w' => w = w' /\ ∃ r : Int, e = .returned (.int .i64 r) /\ decide (0 <= r) = l.any (fun x => v.toList == x.toList) := by
 have H := lh h; clear h
 go_enter Tryz.func252, Tryz.ntmps252
 go_wp2
 go_loopw [5, 8] (fun _ i wr => ∃ j : Nat, j <= n /\ wr = w /\ i = .int .i64 j /\ Hid ((l.take j).any (fun x => v.toList == x.toList) = false)) (fun _ i _ => n - (intOf i).toNat)
 case atStart => exact ⟨0, Nat.zero_le _, rfl, rfl, by show _ = _; simp⟩
 case round =>
  obtain ⟨j, hj, rfl, rfl, hno⟩ := hrel
  by_cases hlt : j < n
  ·obtain ⟨g, o, rfl, hg, hx⟩ := H.out.2 (by omega); have hjl : j < l.length := by rw [H.out.1]; exact hlt
   obtain ⟨x, hxe⟩ : ∃ x, x = l[j] := ⟨_, rfl⟩; have hc := hx j x (by rw [hxe]; exact List.getElem?_eq_getElem hjl)
   have htk : Hid ((l.take (j + 1)).any (fun x => v.toList == x.toList) = (v.toList == x.toList)) := by
    show _ = _
    rw [List.take_succ_eq_append_getElem hjl, List.any_append, hno.out, <- hxe]
    simp
   have hal : Hid ((v.toList == x.toList) = true -> l.any (fun x => v.toList == x.toList) = true) := fun he => by
    rw [List.any_eq_true]; exact ⟨x, by rw [hxe]; exact List.getElem_mem hjl, he⟩
   clear hx hxe hno
   by_cases he : (v.toList == x.toList) = true
   ·go_wp2
    go_ret
    exact ⟨rfl, _, rfl, by rw [hal.out he]; simp⟩
   ·have he : (v.toList == x.toList) = false := by simpa using he
    go_wp2
    go_roundw
    case rel => exact ⟨j + 1, by omega, trivial, by go_num, by show _ = _; rw [htk.out]; exact he⟩
    case measure => simp [intOf]; omega
  ·obtain rfl : j = n := by omega
   go_wp2
   go_ret
   refine ⟨rfl, _, rfl, ?_⟩; have := hno.out; rw [List.take_of_length_le (by rw [H.out.1]; omega)] at this; rw [this]
   rfl
set_option maxHeartbeats 1000000 in
theorem containsStr_any (w : World) (A : Option Addr) (n c : Nat) (l : List ByteArray) (v : ByteArray) (hn : n <= 100000) (h : StrsAt w A n l) :
  Calls Tryz.prog 239 #[.slice A n c, .string v] w fun e w' => w = w' /\ e = .returned (.bool (l.any (fun x => v.toList == x.toList))) := by
 have H := lh (indexStr_any w A n c l v hn h); clear h; obtain ⟨D, hD⟩ : ∃ D, D = l.any (fun x => v.toList == x.toList) := ⟨_, rfl⟩; rw [<- hD] at H ⊢; clear hD
 go_enter Tryz.func239, Tryz.ntmps239
 go_wp2_with fail
 refine H.out.mono ?_; rintro e w' ⟨rfl, r, rfl, hr⟩; have HR := lh hr; clear hr H
 by_cases hr0 : 0 <= r
 ·have e1 : D = true := by rw [<- HR.out]; simpa using hr0
  have e2 : decide (0 <= r) = true := by simpa using hr0
  subst e1; clear HR; go_wp2; go_ret; exact ⟨rfl, rfl⟩
 ·have e1 : D = false := by rw [<- HR.out]; simpa using hr0
  have e2 : decide (0 <= r) = false := by simpa using hr0
  subst e1; clear HR; go_wp2; go_ret; exact ⟨rfl, rfl⟩
set_option maxHeartbeats 1000000 in
theorem next_none (bx g o : Nat) (l : List ByteArray) (w : World) (h : WordsAt w bx g o 0 l) :
  Calls Tryz.prog 227 #[.pointer (some ⟨bx, 0, none⟩)] w fun e w' => e = .returned (.string ⟨#[]⟩) /\ w = w' := by
 have hc := h.1.cell 0; simp only [List.getElem?_toArray, List.getElem?_cons_zero] at hc; clear h
 go_enter Tryz.func227, Tryz.ntmps227
 go_wp2
 go_ret
 exact ⟨rfl, rfl⟩
def fieldsOk (n k : Nat) (ws : List ByteArray) : Bool := decide (n <= ws.length) && (allD k (ws.drop n) && !((ws.take n).any fun x => ([] : List UInt8) == x.toList))
def FieldsPost (B bx n : Nat) (w : World) (k : Nat) (ws : List ByteArray) (e : Ending) (w' : World) : Prop :=
 Nr B bx w w' /\ ((fieldsOk n k ws = true /\ ∃ g A, e = .returned (.tuple #[.slice (some ⟨g, 0, none⟩) n n, .slice A (ws.drop n).length (ws.drop n).length, .bool true]) /\ w.heap.size <= g /\ StrsAt w' (some ⟨g, 0, none⟩) n (ws.take n) /\ OwnI w' w.heap.size (.slice A (ws.drop n).length (ws.drop n).length) (valD (ws.drop n))) ∨
  (fieldsOk n k ws = false /\ e = .returned (.tuple #[.slice none 0 0, .slice none 0 0, .bool false])))
theorem infoStr : (Tryz.prog.info? 9).map (fun i => (i.zero, i.size, i.bytes)) = some (some (.string ⟨#[]⟩), 1, 16) := by kernel_rfl
set_option maxHeartbeats 4000000 in
set_option maxRecDepth 100000 in
theorem fields_zero (B bx g o m : Nat) (ws : List ByteArray) (k : Nat) (w : World) (h : WordsAt w bx g o m ws) (hB : B <= bx) (hm : m <= 100000) (hk : k <= 18) (hws : ∀ s ∈ ws, s.size <= 100000) :
  Calls Tryz.prog 228 #[.pointer (some ⟨bx, 0, none⟩), .int .i64 0, .func (.func 208) #[] #[], .int .i64 k] w (FieldsPost B bx 0 w k ws) := by
 obtain ⟨i0, hi, hz0, hz1, hz2⟩ := info_parts infoStr; have hbx : bx < w.heap.size := lt_of_block h.1; have H := lh h; have HWS := lh hws; clear h hws
 go_enter Tryz.func228, Tryz.ntmps228
 go_wp2_with (at_make; refine wpList_make_full _ rfl _ _ 155 rfl w.heap.size 9 i0 (.string ⟨#[]⟩) 1 Tryz.underlying155 hi hz0 hz1 _ _ _ _ 0 rfl rfl rfl rfl (by rw [hz2]; omega) (by unfold maxLen; omega) (by simp) ?_; intro w1 hown hg1)
 have hb1 : Below w.heap.size w w1 := Below.grown (Below.refl _ _) hg1 (Nat.le_refl _) (fun k hk => by cases hk); have HB1 : Hid (Nr B bx w w1) := Nr.of hb1 (by omega); have HW1 := lh (H.out.later hb1); have HL1 : Hid (StrsAt w1 (some ⟨w.heap.size, 0, none⟩) 0 []) := by show StrsAt _ _ _ _; exact ⟨rfl, fun h => absurd h (by omega)⟩
 clear hown hg1 hb1
 go_loopw [13, 22] (fun _ i wr => i = .int .i64 0 /\ wr = w1) (fun _ _ _ => 0)
 case atStart => exact ⟨rfl, rfl⟩
 case round =>
  obtain ⟨rfl, rfl⟩ := hrel; have HSZ : Hid (w.heap.size <= wr.heap.size) := HB1.out.1.size
  go_wp2_with fail
  refine (numbers_any B bx g o m ws k _ HW1.out hB hm hk HWS.out).mono ?_; rintro e w2 ⟨hb2, h2⟩; have HB2 : Hid (Nr B bx w w2) := HB1.out.then hb2; clear hb2; have e0 : fieldsOk 0 k ws = allD k ws := by simp [fieldsOk]
  rcases h2 with ⟨ha, A, rfl, hi2⟩ | ⟨ha, rfl⟩
  ·have HI2 := lh hi2; clear hi2
   go_wp2_with fail
   refine (containsStr_any _ _ 0 0 [] ⟨#[]⟩ (by omega) ⟨rfl, fun h => absurd h (by omega)⟩).mono ?_; rintro e w3 ⟨rfl, rfl⟩; go_wp2
   (try simp only [Exit.inBlock, Exit.then])
   refine bodyPost_ret (v := .tuple #[.slice (some ⟨w.heap.size, 0, none⟩) 0 0, .slice A ws.length ws.length, .bool true]) (by simp [results, Tryz.results228, go_sem, asAddr]) rfl ?_; exact ⟨HB2.out, .inl ⟨by rw [e0]; exact ha, _, _, rfl, Nat.le_refl _, ⟨rfl, fun h => absurd h (by omega)⟩, HI2.out.mono HSZ.out⟩⟩
  ·go_wp2
   (try simp only [Exit.inBlock, Exit.then])
   refine bodyPost_ret (v := .tuple #[.slice none 0 0, .slice none 0 0, .bool false]) (by simp [results, Tryz.results228, go_sem, asAddr]) rfl ?_; exact ⟨HB2.out, .inr ⟨by rw [e0]; exact ha, rfl⟩⟩
theorem strs_one {w : World} {g : Nat} {x : ByteArray} (h : Blk w g 9 #[.string x]) : StrsAt w (some ⟨g, 0, none⟩) 1 [x] :=
 ⟨rfl, fun _ => ⟨g, 0, rfl, lt_of_block h, fun i y hy => by
  have := h.cell i; rw [Nat.zero_add, this]
  match i, hy with
  | 0, hy => simp at hy; rw [hy]; rfl⟩⟩
set_option maxHeartbeats 4000000 in
set_option maxRecDepth 100000 in
theorem fields_one (B bx g o m : Nat) (ws : List ByteArray) (k : Nat) (w : World) (h : WordsAt w bx g o m ws) (hB : B <= bx) (hm : m <= 100000) (hk : k <= 18) (hws : ∀ s ∈ ws, s.size <= 100000) :
  Calls Tryz.prog 228 #[.pointer (some ⟨bx, 0, none⟩), .int .i64 1, .func (.func 208) #[] #[], .int .i64 k] w (FieldsPost B bx 1 w k ws) := by
 obtain ⟨i0, hi, hz0, hz1, hz2⟩ := info_parts infoStr; have hbx : bx < w.heap.size := lt_of_block h.1; have hlen := h.2.1.1; have H := lh h; have HWS := lh hws; clear h hws
 go_enter Tryz.func228, Tryz.ntmps228
 go_wp2_with (at_make; refine wpList_make_full _ rfl _ _ 155 rfl w.heap.size 9 i0 (.string ⟨#[]⟩) 1 Tryz.underlying155 hi hz0 hz1 _ _ _ _ 1 rfl rfl rfl rfl (by rw [hz2]; omega) (by unfold maxLen; omega) (by simp) ?_; intro w1 hown hg1)
 have hb1 : Below w.heap.size w w1 := Below.grown (Below.refl _ _) hg1 (Nat.le_refl _) (fun k hk => by cases hk); have HB1 : Hid (Nr B bx w w1) := Nr.of hb1 (by omega); have HW1 := lh (H.out.later hb1); obtain ⟨gS, hgS⟩ : ∃ g, g = w.heap.size := ⟨_, rfl⟩
 have HS1 : Hid (Blk w1 gS 9 #[.string ⟨#[]⟩]) := by
  show Blk _ _ _ _
  obtain ⟨cur, hbk, hcs, hgb, hl⟩ := own_full hown
  have e1 : cur = #[.string ⟨#[]⟩] := by
   apply Array.ext'
   rw [hl]
   first | kernel_rfl | simp [madeCells, Value.cells, go_sem] | simp [madeCells]
  rw [hgS, <- e1]; exact hbk
 rw [<- hgS] at hown ⊢; have hne : gS ≠ bx := by omega
 have hgg : 0 < m -> gS ≠ g := fun hp => by have := H.out.lt hp; omega
 have HGG := lh hgg; have HBS : Hid (B <= gS) := by show _ <= _; omega
 have HGS := lh hgS; clear hown hg1 hb1 hgg hgS; have eN : ∀ args W, (callFunc 227 args).run Tryz.prog W = .ok (.enter 227 args) W := fun args W => by kernel_rfl
 obtain ⟨x0, rest, m', o', hx0, hnext, hm', hrs⟩ : ∃ (x0 : ByteArray) (rest : List ByteArray) (m' o' : Nat), (([x0] = ws.take 1 /\ 1 <= ws.length) ∨ (ws = [] /\ x0 = ⟨#[]⟩)) /\ Hid (∀ W, WordsAt W bx g o m ws -> Calls Tryz.prog 227 #[.pointer (some ⟨bx, 0, none⟩)] W fun e w' => e = .returned (.string x0) /\ WordsAt w' bx g o' m' rest /\ (w' = W ∨ w' = W.setCell ⟨bx, 0, none⟩ (.slice (some ⟨g, o', none⟩) m' m'))) /\ m' <= 100000 /\ rest = ws.drop 1 := by
  rcases ws with _ | ⟨x, ws⟩
  ·obtain rfl : m = 0 := hlen.symm
   exact ⟨⟨#[]⟩, [], 0, o, .inr ⟨rfl, rfl⟩, fun W hW => (next_none bx g o [] W hW).mono (by
    rintro e w' ⟨rfl, rfl⟩; exact ⟨rfl, hW, .inl rfl⟩), by omega, rfl⟩
  ·obtain ⟨n, rfl⟩ : ∃ n, m = n + 1 := ⟨ws.length, by simpa using hlen.symm⟩
   exact ⟨x, ws, n, nxO o n, .inl ⟨rfl, by simp⟩, fun W hW => (next_any bx g o n x ws W (by omega) hW).mono (by
    rintro e w' ⟨rfl, rfl⟩; exact ⟨rfl, hW.nxt, .inr rfl⟩), by omega, rfl⟩
 have HX0 := lh hx0; have HRS := lh hrs; clear hx0 hrs
 go_loopw [13, 22] (fun _ i wr => (i = .int .i64 0 /\ Blk wr gS 9 #[.string ⟨#[]⟩] /\ WordsAt wr bx g o m ws /\ Nr B bx w wr) ∨ (i = .int .i64 1 /\ Blk wr gS 9 #[.string x0] /\ WordsAt wr bx g o' m' rest /\ Nr B bx w wr)) (fun _ i _ => 1 - (intOf i).toNat)
 case atStart => exact .inl ⟨rfl, HS1.out, HW1.out, HB1.out⟩
 case round =>
  clear HS1 HW1 HB1; rcases hrel with ⟨rfl, hS, hW, hb⟩ | ⟨rfl, hS, hW, hb⟩
  ·have HS := lh hS; have HN := lh (hnext.out _ hW); have HB := lh hb; clear hS hW hb hnext
   go_wp2_with fail
   refine HN.out.mono ?_; rintro e w2 ⟨rfl, hW2, h2⟩
   have HS2 : Hid (Blk w2 gS 9 #[.string ⟨#[]⟩]) := by
    show Blk _ _ _ _
    rcases h2 with rfl | rfl
    ·exact HS.out
    ·exact HS.out.far (p := ⟨bx, 0, none⟩) hne _
   have HB2 : Hid (Nr B bx w w2) := by
    show Nr _ _ _ _
    rcases h2 with rfl | rfl
    ·exact HB.out
    ·exact HB.out.box hB _ _
   have HW2 := lh hW2; clear hW2 h2; have c0 := HS2.out.cell 0; have f0 := HS2.out.frozen 0; simp only [List.getElem?_toArray, List.getElem?_cons_zero] at c0; go_wp2; go_roundw
   case rel =>
    refine .inr ⟨rfl, HS2.out.set_ 0 (.string x0), ⟨HW2.out.1.far (p := ⟨gS, 0, none⟩) (Ne.symm hne) _, ?_, HW2.out.2.2⟩, HB2.out.fresh (by omega) (p := ⟨gS, 0, none⟩) (by show w.heap.size <= gS; rw [HGS.out]; exact Nat.le_refl _) _⟩
    by_cases hz : 0 < m
    ·exact HW2.out.2.1.set (p := ⟨gS, 0, none⟩) (Ne.symm (HGG.out hz)) _
    ·have h1 := HW2.out.2.1.1; have h3 : rest.length = 0 := by rw [HRS.out, List.length_drop]; omega
     exact ⟨h1, fun h => absurd h (by omega)⟩
   case measure => simp [intOf]
  ·have HS := lh hS; have HW := lh hW; have HB := lh hb; have HSZ : Hid (w.heap.size <= wr.heap.size) := HB.out.1.size; clear hS hW hb hnext
   go_wp2_with fail
   refine (numbers_any B bx g o' m' rest k _ HW.out hB hm' hk (fun s hs => HWS.out s (by rw [HRS.out] at hs; exact List.mem_of_mem_drop hs))).mono ?_; rintro e w2 ⟨hb2, h2⟩; have HB2 : Hid (Nr B bx w w2) := HB.out.then hb2; have HS2 : Hid (Blk w2 gS 9 #[.string x0]) := HS.out.nr hb2 hne; clear hb2; have e0 : fieldsOk 1 k ws = (decide (1 <= ws.length) && (allD k rest && !((ws.take 1).any fun x => ([] : List UInt8) == x.toList))) := by rw [HRS.out]; rfl
   rcases h2 with ⟨ha, A, rfl, hi2⟩ | ⟨ha, rfl⟩
   ·have HI2 := lh hi2; clear hi2; obtain ⟨D, hD⟩ : ∃ D, D = ([x0].any fun x => (⟨#[]⟩ : ByteArray).toList == x.toList) := ⟨_, rfl⟩; have HC := lh (containsStr_any w2 (some ⟨gS, 0, none⟩) 1 1 [x0] ⟨#[]⟩ (by omega) (strs_one HS2.out)); rw [<- hD] at HC; have HD := lh hD; clear hD; have en : (⟨#[]⟩ : ByteArray).toList = [] := by rw [ByteArray.toList_eq]
    cases hd : D with
    | false =>
      subst hd
      go_wp2_with fail
      refine HC.out.mono ?_; rintro e w3 ⟨rfl, rfl⟩; go_wp2
      (try simp only [Exit.inBlock, Exit.then])
      refine bodyPost_ret (v := .tuple #[.slice (some ⟨gS, 0, none⟩) 1 1, .slice A rest.length rest.length, .bool true]) (by simp [results, Tryz.results228, go_sem, asAddr]) rfl ?_; rcases HX0.out with ⟨h1, h2⟩ | ⟨h1, h2⟩
      ·refine ⟨HB2.out, .inl ⟨?_, gS, A, by rw [HRS.out], by rw [HGS.out]; exact Nat.le_refl _, by rw [<- h1]; exact strs_one HS2.out, by rw [<- HRS.out]; exact HI2.out.mono HSZ.out⟩⟩; rw [e0, ha, <- h1]; have := HD.out; rw [en] at this; rw [<- this]
       simpa using h2
      ·have := HD.out; rw [h2, en] at this
       simp [en] at this
    | true =>
      subst hd
      go_wp2_with fail
      refine HC.out.mono ?_; rintro e w3 ⟨rfl, rfl⟩; go_wp2
      (try simp only [Exit.inBlock, Exit.then])
      refine bodyPost_ret (v := .tuple #[.slice none 0 0, .slice none 0 0, .bool false]) (by simp [results, Tryz.results228, go_sem, asAddr]) rfl ?_; refine ⟨HB2.out, .inr ⟨?_, rfl⟩⟩; rw [e0]; rcases HX0.out with ⟨h1, h2⟩ | ⟨h1, h2⟩
      ·have := HD.out; rw [en] at this; rw [<- h1, <- this]
       simp
      ·rw [h1]; rfl
   ·go_wp2
    (try simp only [Exit.inBlock, Exit.then])
    refine bodyPost_ret (v := .tuple #[.slice none 0 0, .slice none 0 0, .bool false]) (by simp [results, Tryz.results228, go_sem, asAddr]) rfl ?_; exact ⟨HB2.out, .inr ⟨by rw [e0, ha]; simp, rfl⟩⟩
theorem fields_of (n B bx g o m : Nat) (ws : List ByteArray) (k : Nat) (w : World) (hn : n = 0 ∨ n = 1) (h : WordsAt w bx g o m ws) (hB : B <= bx) (hm : m <= 100000) (hk : k <= 18) (hws : ∀ s ∈ ws, s.size <= 100000) :
  Calls Tryz.prog 228 #[.pointer (some ⟨bx, 0, none⟩), .int .i64 n, .func (.func 208) #[] #[], .int .i64 k] w (FieldsPost B bx n w k ws) := by
 rcases hn with rfl | rfl
 ·exact fields_zero B bx g o m ws k w h hB hm hk hws
 ·exact fields_one B bx g o m ws k w h hB hm hk hws
def lineF (n k : Nat) (wd s : ByteArray) : Bool := endedB s && (match wordsL s with | [] => false | x :: ws => (x.toList == wd.toList) && fieldsOk n k ws)
def wordF (n : Nat) (s : ByteArray) : List ByteArray := (wordsL s).tail.take n
def restF (n : Nat) (s : ByteArray) : List ByteArray := (wordsL s).tail.drop n
def LinePost (n : Nat) (w : World) (k : Nat) (wd s : ByteArray) (e : Ending) (w' : World) : Prop :=
 Below w.heap.size w w' /\ ((lineF n k wd s = true /\ ∃ g A, e = .returned (.tuple #[.slice (some ⟨g, 0, none⟩) n n, .slice A (restF n s).length (restF n s).length, .bool true]) /\ w.heap.size <= g /\ StrsAt w' (some ⟨g, 0, none⟩) n (wordF n s) /\ OwnI w' w.heap.size (.slice A (restF n s).length (restF n s).length) (valD (restF n s))) ∨
  (lineF n k wd s = false /\ e = .returned (.tuple #[.slice none 0 0, .slice none 0 0, .bool false])))
set_option maxHeartbeats 4000000 in
set_option maxRecDepth 100000 in
theorem textFields_any (n : Nat) (hn01 : n = 0 ∨ n = 1) (s wd : ByteArray) (k : Nat) (w : World) (hk : k <= 18) (hs : s.size <= 90000) :
  Calls Tryz.prog 207 #[.string s, .string wd, .int .i64 n, .func (.func 208) #[] #[], .int .i64 k] w (LinePost n w k wd s) := by
 obtain ⟨x, ws, hx⟩ := wordsL_cons s; have hle := wordsL_le s; have hsz := wordsL_size s; have H := lh (wordsOf_any s w (by omega)); rw [show sepL 32 0 (lineBd s) = wordsL s from rfl] at H; rw [hx] at H hle hsz; have e1 : lineF n k wd s = (endedB s && ((x.toList == wd.toList) && fieldsOk n k ws)) := by unfold lineF; rw [hx]
 have e2 : wordF n s = ws.take n := by unfold wordF; rw [hx]; rfl
 have e5 : restF n s = ws.drop n := by unfold restF; rw [hx]; rfl
 have HE2 : Hid (wordF n s = ws.take n /\ restF n s = ws.drop n) := ⟨e2, e5⟩; obtain ⟨E, hE⟩ : ∃ E, E = endedB s := ⟨_, rfl⟩; rw [<- hE] at H e1; have HE1 := lh e1; have hlen : ws.length <= 90000 := by simp at hle; omega
 have HSZ : Hid (∀ y ∈ ws, y.size <= 100000) := by
  show ∀ y ∈ ws, _
  intro y hy; have := hsz y (by simp [hy])
  omega
 clear hx hle hsz e1 e2 e5 hE
 cases E with
 | false =>
   go_enter Tryz.func207, Tryz.ntmps207
   go_wp2_with fail
   refine H.out.mono ?_; rintro e w1 ⟨g, hg, rfl, hS, hb⟩; have HB := lh hb; clear hS hb; go_wp2
   (try simp only [Exit.inBlock, Exit.then])
   refine bodyPost_ret (v := .tuple #[.slice none 0 0, .slice none 0 0, .bool false]) (by simp [results, Tryz.results207, go_sem, asAddr]) rfl ?_; exact ⟨HB.out.alloc HB.out.size _, .inr ⟨by rw [HE1.out]; rfl, rfl⟩⟩
 | true =>
   go_enter Tryz.func207, Tryz.ntmps207
   go_wp2_with fail
   refine H.out.mono ?_; rintro e w1 ⟨g, hg, rfl, hS, hb⟩
   have hg1 : g < w1.heap.size := by
    obtain ⟨g', o', e, hg, _⟩ := hS.2 (by simp); have e := Option.some.inj e
    injection e with e1
    omega
   obtain ⟨m, hm⟩ : ∃ m, m = ws.length := ⟨_, rfl⟩; have e3 : (x :: ws).length = m + 1 := by rw [hm]; rfl
   rw [e3] at hS ⊢; have HN := lh hm; have HB := lh hb; have hbs := hb.size
   have hW : WordsAt (w1.alloc (.cells #[.slice (some ⟨g, 0, none⟩) (m + 1) (m + 1)] 300)) w1.heap.size g 0 (m + 1) (x :: ws) :=
    ⟨Blk.new _ _ _, hS.keep ((Below.refl _ w1).alloc (Nat.le_refl _) _) (Nat.le_refl _), by omega⟩
   have HW := lh hW; have hW2 := hW.nxt; have HW2 := lh hW2; have hn2 : m <= 1000000 := by omega
   have hn3 : m <= 100000 := by omega
   have HBB : Hid (Below w.heap.size w ((w1.alloc (.cells #[.slice (some ⟨g, 0, none⟩) (m + 1) (m + 1)] 300)).setCell ⟨w1.heap.size, 0, none⟩ (.slice (some ⟨g, nxO 0 m, none⟩) m m))) := (HB.out.alloc HB.out.size _).setCell (p := ⟨w1.heap.size, 0, none⟩) HB.out.size _; clear hS hb hW hm e3 hW2
   go_wp2_with fail
   refine (next_any _ g 0 m x ws _ hn2 HW.out).mono ?_; rintro e w2 ⟨rfl, rfl⟩; obtain ⟨w2, hw2⟩ : ∃ W, W = ((w1.alloc (.cells #[.slice (some ⟨g, 0, none⟩) (m + 1) (m + 1)] 300)).setCell ⟨w1.heap.size, 0, none⟩ (.slice (some ⟨g, nxO 0 m, none⟩) m m)) := ⟨_, rfl⟩; rw [<- hw2] at HBB HW2 ⊢; clear hw2; obtain ⟨D, hD⟩ : ∃ D, D = (x.toList == wd.toList) := ⟨_, rfl⟩; have HE3 : Hid (lineF n k wd s = (D && fieldsOk n k ws)) := by show _ = _; rw [HE1.out, hD]; simp
   have HD := lh hD; clear hD
   cases D with
   | false =>
     have hd : (x.toList == wd.toList) = false := HD.out.symm; go_wp2
     (try simp only [Exit.inBlock, Exit.then])
     refine bodyPost_ret (v := .tuple #[.slice none 0 0, .slice none 0 0, .bool false]) (by simp [results, Tryz.results207, go_sem, asAddr]) rfl ?_; exact ⟨HBB.out, .inr ⟨by rw [HE3.out]; rfl, rfl⟩⟩
   | true =>
     have hd : (x.toList == wd.toList) = true := HD.out.symm; have HSZ2 : Hid (w.heap.size <= w2.heap.size) := HBB.out.size
     go_wp2_with fail
     refine (fields_of n w.heap.size w1.heap.size g (nxO 0 m) m ws k _ hn01 HW2.out HB.out.size hn3 hk HSZ.out).mono ?_; rintro e w3 ⟨hb3, h3⟩; have HB3 : Hid (Below w.heap.size w w3) := HBB.out.trans hb3.1; clear hb3; rcases h3 with ⟨h3, gS, A, rfl, hgS, hS, hI⟩ | ⟨h3, rfl⟩
     ·have HGS : Hid (w.heap.size <= gS) := Nat.le_trans HSZ2.out hgS; clear hgS; have HS := lh hS; have HI := lh hI; clear hS hI; go_wp2
      (try simp only [Exit.inBlock, Exit.then])
      refine bodyPost_ret (v := .tuple #[.slice (some ⟨gS, 0, none⟩) n n, .slice A (ws.drop n).length (ws.drop n).length, .bool true]) (by simp [results, Tryz.results207, go_sem, asAddr]) rfl ?_; refine ⟨HB3.out, .inl ⟨by rw [HE3.out, h3]; rfl, gS, A, ?_, HGS.out, ?_, ?_⟩⟩
      ·rw [HE2.out.2]
      ·rw [HE2.out.1]; exact HS.out
      ·rw [HE2.out.2]; exact HI.out.mono HSZ2.out
     ·go_wp2
      (try simp only [Exit.inBlock, Exit.then])
      refine bodyPost_ret (v := .tuple #[.slice none 0 0, .slice none 0 0, .bool false]) (by simp [results, Tryz.results207, go_sem, asAddr]) rfl ?_; exact ⟨HB3.out, .inr ⟨by rw [HE3.out, h3]; rfl, rfl⟩⟩
def GR.ints (B : Nat) (zs : List Int) : GR := ⟨fun v W => OwnI W B v zs, fun h hE => h.below hE⟩
def GR.bare : GR := ⟨fun v _ => ∃ g, v = .slice (some ⟨g, 0, none⟩) 0 0, fun h _ => h⟩
def tyW (nm : ByteArray) (va : Value) (T : Bell.Ty) (vq vs : Value) : Array Value := #[.string nm, va, .int .i64 (T.direct.getD 0 0), .int .i64 (T.direct.getD 1 0), .int .i64 (T.direct.getD 2 0), .int .i64 (T.direct.getD 3 0), .int .i64 (T.direct.getD 4 0), .int .i64 (T.direct.getD 5 0), .int .i64 (T.direct.getD 6 0), .int .i64 (T.direct.getD 7 0), .int .i64 T.side, vq, vs]
def GR.ty (B : Nat) (nm : ByteArray) (sh : List Int) (T : Bell.Ty) : GR :=
 ⟨fun v W => ∃ va vq, v = .agg (tyW nm va T vq (.slice none 0 0)) /\ OwnI W B va sh /\ OwnI W B vq T.squares, fun ⟨va, vq, e, h1, h2⟩ hE => ⟨va, vq, e, h1.below hE, h2.below hE⟩⟩
def GR.set (B : Nat) (p : Int) (zs : List Int) : GR := ⟨fun v W => ∃ A m c, v = .agg #[.int .i64 p, .slice A m c] /\ OwnI W B (.slice A m c) zs, fun ⟨A, m, c, e, h⟩ hE => ⟨A, m, c, e, h.below hE⟩⟩
def GR.one (B : Nat) (p : Int) (zs : List Int) : GR := ⟨fun v W => ∃ g A m c, v = .slice (some ⟨g, 0, none⟩) 1 1 /\ Blk W g 172 #[.int .i64 p, .slice A m c] /\ OwnI W B (.slice A m c) zs, fun ⟨g, A, m, c, e, h1, h2⟩ hE => ⟨g, A, m, c, e, h1.below hE, h2.below hE⟩⟩
theorem IntsAt.cellsAt {w : World} {g o n : Nat} {zs : List Int} (h : IntsAt w (some ⟨g, o, none⟩) n zs) : ∀ j u, (zs.map (Value.int .i64))[j]? = some u -> w.cell? ((⟨g, o, none⟩ : Addr).add j) = some u := fun j u hu => by
 have hj : j < n := by
  have := (List.getElem?_eq_some_iff.1 hu).1; rw [List.length_map, h.1] at this; exact this
 obtain ⟨b, off, he, hh⟩ := h.2 (by omega)
 cases he
 rw [addAddr, hh j hj, <- hu]
 simp [List.getD_eq_getElem?_getD, List.getElem?_eq_getElem (show j < zs.length by rw [h.1]; exact hj)]
def stCells (P : List (Int × Value)) : List Value := P.flatMap fun p => [.int .i64 p.1, p.2]
theorem stCells_len (P : List (Int × Value)) : (stCells P).length = P.length * 2 := by
 induction P with
 | nil => rfl
 | cons p l ih => simp only [stCells, List.flatMap_cons, List.length_append, List.length_cons, List.length_nil] at *; omega
theorem stCells_snoc (P : List (Int × Value)) (p : Int × Value) : stCells (P ++ [p]) = stCells P ++ [.int .i64 p.1, p.2] := by simp [stCells]
theorem stCells_at (P : List (Int × Value)) (i : Nat) (hi : i < P.length) : (stCells P)[i * 2]? = some (.int .i64 (P.getD i (0, undef)).1) /\ (stCells P)[i * 2 + 1]? = some (P.getD i (0, undef)).2 := by
 induction P generalizing i with
 | nil => simp at hi
 | cons p l ih =>
   cases i with
   | zero => exact ⟨rfl, rfl⟩
   | succ i =>
     have := ih i (by simpa using hi); have e : stCells (p :: l) = Value.int .i64 p.1 :: p.2 :: stCells l := rfl; rw [e, show (i + 1) * 2 = i * 2 + 1 + 1 by omega]
     simpa using this
theorem infoSet : (Tryz.prog.info? 172).map (fun i => (i.zero, i.size, i.bytes)) = some (some (.agg #[.int .i64 0, .slice none 0 0]), 2, 32) := by kernel_rfl
theorem OwnI.in_row {w : World} {base b : Nat} {v : Value} {zs : List Int} {t : TypeId} {cs : Array Value} (h : OwnI w base v zs) (hb : Blk w b t cs) (ht : t ≠ 3) (new : Array Value) : OwnI (w.setRow b new) base v zs := by
 rcases h with ⟨h1, h2 | ⟨g, cap, cur, hv, hg, hc, r⟩⟩
 ·exact ⟨h1, .inl h2⟩
 ·refine ⟨h1, .inr ⟨g, cap, cur, hv, hg, ?_, r⟩⟩
  have hne : g ≠ b := fun e => by
   subst e; have := hc.symm.trans hb; simp only [Option.some.injEq, Obj.cells.injEq] at this; exact ht this.2.1.symm
  exact (setRow_other w b g new hne).trans hc
theorem row_ext {W W' : World} {base : Nat} {e : TypeId} {size n : Nat} {v : Value} {xs : List Value} (h : W.ownsRow base e size v n xs) (hE : Ext W W') : W'.ownsRow base e size v n xs := by
 refine World.ownsRow.kept h (row := none) ⟨hE.os, hE.tape, hE.output, hE.size, fun k hk _ => hE.block k hk⟩ ?_
 cases hv : v.ownBlock with
 | none => exact .inl rfl
 | some b => exact .inr (by simp)
theorem row_type {W : World} {base : Nat} {e : TypeId} {size n : Nat} {v : Value} {xs : List Value} (h : W.ownsRow base e size v n xs) {b : Nat} (hb : some b = v.ownBlock) : ∃ cur, W.heap[b]? = some (.cells cur e (0, 0)) := by
 rcases h.2 with ⟨rfl, _⟩ | ⟨g, cap, cur, rfl, _, h2, _⟩
 ·simp [Value.ownBlock] at hb
 ·obtain rfl : b = g := by simpa [Value.ownBlock] using hb
  exact ⟨cur, h2⟩
theorem row_blk {W W' : World} {base : Nat} {e : TypeId} {size n : Nat} {v : Value} {xs : List Value} (h : W.ownsRow base e size v n xs) (hg : W.grownBy W' v.ownBlock) {b : Nat} {t : TypeId} {cs : Array Value} (hb : Blk W b t cs) (ht : t ≠ e) : Blk W' b t cs := by
 refine (hg.block b (lt_of_block hb) (fun ej => ?_)).trans hb; obtain ⟨cur, h2⟩ := row_type h ej; have := (show W.heap[b]? = _ from hb).symm.trans h2; simp only [Option.some.injEq, Obj.cells.injEq] at this; exact ht this.2.1
theorem row_row {W W' : World} {base base' : Nat} {e t : TypeId} {size size' n m : Nat} {v u : Value} {xs ys : List Value} (h : W.ownsRow base e size v n xs) (hg : W.grownBy W' v.ownBlock) (ho : W.ownsRow base' t size' u m ys) (ht : t ≠ e) : W'.ownsRow base' t size' u m ys := by
 refine World.ownsRow.kept ho hg ?_
 cases hu : u.ownBlock with
 | none => exact .inl rfl
 | some b =>
   refine .inr fun ej => ?_
   obtain ⟨cur, h2⟩ := row_type h ej; obtain ⟨cur', h3⟩ := row_type ho hu.symm; have := h3.symm.trans h2; simp only [Option.some.injEq, Obj.cells.injEq] at this; exact ht this.2.1
theorem row_cell {W : World} {base : Nat} {t e : TypeId} {size n : Nat} {v : Value} {xs : List Value} (h : W.ownsRow base t size v n xs) {b : Nat} {cs : Array Value} (hb : Blk W b e cs) (ht : t ≠ e) (i : Nat) (u : Value) : (W.setCell ⟨b, i, none⟩ u).ownsRow base t size v n xs := by
 rcases h with ⟨h1, h2 | ⟨g, cap, cur, hv, hg, hc, r⟩⟩
 ·exact ⟨h1, .inl h2⟩
 ·refine ⟨h1, .inr ⟨g, cap, cur, hv, hg, ?_, r⟩⟩
  have hne : g ≠ b := fun e => by
   subst e; have := hc.symm.trans hb; simp only [Option.some.injEq, Obj.cells.injEq] at this; exact ht this.2.1
  exact (Below.heap_setCell W ⟨b, i, none⟩ u g hne).trans hc
theorem _root_.Go.RowKit.Below.ext {A B C : World} (h : Below A.heap.size A B) (k : Ext B C) : Ext A C := Ext.trans h k
theorem row_in_row {W : World} {base : Nat} {t e : TypeId} {size n : Nat} {v : Value} {xs : List Value} (h : W.ownsRow base t size v n xs) {b : Nat} {cs : Array Value} (hb : Blk W b e cs) (ht : t ≠ e) (new : Array Value) : (W.setRow b new).ownsRow base t size v n xs := by
 rcases h with ⟨h1, h2 | ⟨g, cap, cur, hv, hg, hc, r⟩⟩
 ·exact ⟨h1, .inl h2⟩
 ·refine ⟨h1, .inr ⟨g, cap, cur, hv, hg, ?_, r⟩⟩
  have hne : g ≠ b := fun e => by
   subst e; have := hc.symm.trans hb; simp only [Option.some.injEq, Obj.cells.injEq] at this; exact ht this.2.1
  exact (setRow_other W b g new hne).trans hc
theorem OwnI.slice {W : World} {B : Nat} {v : Value} {zs : List Int} (h : OwnI W B v zs) : ∃ A m c, v = .slice A m c /\ IntsAt W A m zs := by
 rcases h.form with ⟨rfl, _⟩ | ⟨g, cap, rfl, _⟩
 ·exact ⟨_, _, _, rfl, h.at_⟩
 ·exact ⟨_, _, _, rfl, h.at_⟩
theorem OwnI.room {W : World} {B : Nat} {A : Option Addr} {n c : Nat} {zs : List Int} (h : OwnI W B (.slice A n c) zs) (hn : 0 < n) : (∃ g, A = some ⟨g, 0, none⟩) /\ n <= c /\ c <= 9223372036854775807 := by
 rcases h.2 with ⟨hv, _⟩ | ⟨g, cap, cur, hv, _, _, h1, h2, _⟩
 ·simp at hv; omega
 ·simp only [Value.slice.injEq] at hv; obtain ⟨rfl, e, rfl⟩ := hv; unfold maxLen at h2; exact ⟨⟨g, rfl⟩, by omega, by omega⟩
theorem gs_copy {o : Oper} {a : Act} {W : World} {Q : Exit -> Act -> World -> Prop} {B n c b off : Nat} {zs : List Int} (s x : Operand) (ho : o.op = .call { callee := .builtin .append, args := #[s, x], argTypes := #[22, 22] })
  (hs : ∃ g, a.eval s = .slice (some ⟨g, 0, none⟩) 0 0) (hx : a.eval x = .slice (some ⟨b, off, none⟩) n c) (hz : IntsAt W (some ⟨b, off, none⟩) n zs) (hn : 0 < n) (hn2 : n <= 100000) (hB : B <= W.heap.size) :
  Oper.wp Tryz.prog o a W (fun a' W' => ∃ v, a' = a.put o.dst v /\ Ext W W' /\ (GR.ints B zs).r v W') Q := by
 obtain ⟨i0, hi, hz0, hz1, hz2⟩ := info_parts infoInt; obtain ⟨g, hg⟩ := hs
 obtain ⟨v', w', hrun, r1, r2⟩ := run_append_arg_grows (P := Tryz.prog) W 22 o.type 3 i0 (.int .i64 0) 1 8 Tryz.underlying22 hi hz0 hz1 hz2 rfl (by decide) ⟨g, 0, none⟩ 0 0 [] rfl (fun j u h => by simp at h)
  ⟨b, off, none⟩ n c (zs.map (Value.int .i64)) (by rw [List.length_map, hz.1, Nat.mul_one]) hz.cellsAt (by omega) (by unfold maxLen; omega) (by omega)
 obtain ⟨g1, g2, g3, g4, g5⟩ := r2; have hE : Ext W w' := ⟨g1, g2, g3, g4, fun k hk => g5 k hk (by simp)⟩; refine gs_val (v := v') (W' := w') ?_ hE ?_
 ·simp [execOp, ho, resolve, invoke, builtin, hg, hx, hrun, Result.andThen]
 ·have h2 : OwnI w' W.heap.size v' zs := by
   unfold OwnI; rw [hz.1]
   simpa using r1
  exact h2.mono hB
theorem OwnI.sl {W : World} {B n : Nat} {v : Value} {zs : List Int} (h : OwnI W B v zs) (hl : zs.length = n) (hn : 0 < n) : ∃ A c, v = .slice A n c := by
 rcases h.form with ⟨h1, h2⟩ | ⟨g3, c3, h1, _⟩
 ·exfalso; rw [h2] at hl; simp at hl; omega
 ·exact ⟨_, _, by rw [h1, hl]⟩
theorem cell_kept {W W' : World} (hE : Ext W W') {p : Addr} {v : Value} (h : W.cell? p = some v) : W'.cell? p = some v := by
 rw [hE.below.cell (World.block_lt_of_cell? _ _ h)]; exact h
theorem Blk.cell_far {w : World} {g b i : Nat} {t : TypeId} {cs : Array Value} (h : Blk w g t cs) (hne : g ≠ b) (u : Value) : Blk (w.setCell ⟨b, i, none⟩ u) g t cs :=
 (Below.heap_setCell w ⟨b, i, none⟩ u g hne).trans h
def GR.oneR (B : Nat) (p : Int) (zs : List Int) : GR := ⟨fun v W => ∃ g A m c, v = .slice (some ⟨g, 0, none⟩) 1 1 /\ Blk W g 145 #[.int .i64 p, .slice A m c] /\ OwnI W B (.slice A m c) zs, fun ⟨g, A, m, c, e, h1, h2⟩ hE => ⟨g, A, m, c, e, h1.below hE, h2.below hE⟩⟩
theorem infoSetR : (Tryz.prog.info? 145).map (fun i => (i.zero, i.size, i.bytes)) = some (some (.agg #[.int .i64 0, .slice none 0 0]), 2, 32) := by kernel_rfl
theorem row_high {w W : World} {base : Nat} {t : TypeId} {size n : Nat} {v : Value} {xs : List Value} (h : w.ownsRow base t size v n xs) (k : ∀ b, base <= b -> b < w.heap.size -> W.heap[b]? = w.heap[b]?) : W.ownsRow base t size v n xs := by
 rcases h with ⟨h1, h2 | ⟨g, cap, cur, hv, hg, hc, r⟩⟩
 ·exact ⟨h1, .inl h2⟩
 ·refine ⟨h1, .inr ⟨g, cap, cur, hv, hg, ?_, r⟩⟩; exact (k g hg (Array.getElem?_eq_some_iff.1 hc).1).trans hc
theorem refFirst7 (g c : Nat) (x y z u v s t : Int) (w : World) (h0 : w.cell? ⟨g, 0, none⟩ = some (.int .i64 x)) (h1 : w.cell? ⟨g, 1, none⟩ = some (.int .i64 y)) (h2 : w.cell? ⟨g, 2, none⟩ = some (.int .i64 z)) (h3 : w.cell? ⟨g, 3, none⟩ = some (.int .i64 u)) (h4 : w.cell? ⟨g, 4, none⟩ = some (.int .i64 v)) (h5 : w.cell? ⟨g, 5, none⟩ = some (.int .i64 s)) (h6 : w.cell? ⟨g, 6, none⟩ = some (.int .i64 t)) :
  Calls Tryz.prog 99 #[.slice (some ⟨g, 0, none⟩) 7 c] w fun e w' => e = .returned (.int .i64 (firstE [x, y, z, u, v, s, t])) /\ w = w' := by
 refine refFirst_any g 7 c [x, y, z, u, v, s, t] w rfl (by omega) ?_; intro i hi
 match i, hi with
 | 0, _ => exact h0
 | 1, _ => exact h1
 | 2, _ => exact h2
 | 3, _ => exact h3
 | 4, _ => exact h4
 | 5, _ => exact h5
 | 6, _ => exact h6
theorem own_empty (w : World) : OwnI (w.alloc (.cells #[] 3)) w.heap.size (.slice (some ⟨w.heap.size, 0, none⟩) 0 0) [] :=
 ⟨rfl, .inr ⟨w.heap.size, 0, #[], rfl, Nat.le_refl _, heap_alloc_new w _, Nat.le_refl _, by unfold maxLen; omega, rfl, rfl⟩⟩
end Go.Proofs.YtmafmebcgmegeaaGreatDoor
