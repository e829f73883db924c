/- Texts Xh of the proof. -/
import Derived.Test.YtmafmebcgmegeaaGreatDoorZ41
import Derived.Test.YtmafmebcgmegeaaGreatDoorZ40
import Derived.Test.YtmafmebcgmegeaaGreatDoorZ34
import Derived.Test.YtmafmebcgmegeaaGreatDoorZ42
import Derived.Test.YtmafmebcgmegeaaGreatDoorZ15
import Derived.Test.YtmafmebcgmegeaaGreatDoorZ16
import Derived.Test.YtmafmebcgmegeaaGreatDoorZ17
namespace Go.Proofs.YtmafmebcgmegeaaGreatDoor
open Go.RowKit Go.Sort
/-- A Boolean that is false where a fact holds alone. -/
def GR.no (p : Prop) : GR := ⟨fun v _ => ∃ b : Bool, v = .bool b ∧ (b = false → p), fun h _ => h⟩
/-- A track of the program, made by the call. -/
def GR.trkL (n : Nat) (l : List Bell.Fx) : GR := ⟨fun v W => ∃ g o c, v = .slice (some ⟨g, o, none⟩) n c ∧ FixesAt W g o n l ∧ n ≤ c ∧ c ≤ 9223372036854775807, fun ⟨g, o, c, e, h1, h2⟩ hE => ⟨g, o, c, e, h1.keep hE, h2⟩⟩
def GR.gv (nm : ByteArray) (sh : List Int) (T : Bell.Ty) (sn qn gn : Nat) : GR :=
  ⟨fun v W => ∃ cs sa sc qb qo qc gb go gc, v = .agg cs ∧ TyOk W cs nm sh T sa sn sc qb qo qn qc gb go gn gc, fun ⟨cs, sa, sc, qb, qo, qc, gb, go, gc, e, h⟩ hE => ⟨cs, sa, sc, qb, qo, qc, gb, go, gc, e, h.keep hE⟩⟩
def GR.box (B : Nat) (t : TypeId) (cs : Array Value) : GR := ⟨fun v W => ∃ g, v = .pointer (some ⟨g, 0, none⟩) ∧ Blk W g t cs ∧ B ≤ g, fun ⟨g, e, h1, h2⟩ hE => ⟨g, e, h1.below hE, h2⟩⟩
theorem run_min2c (P : Program) (a b : Int) (ts : Array TypeId) (t : TypeId) (W : World) : (Builtin.min_ ts t #[.int .i64 a, .int .i64 b]).run P W = .ok (.int .i64 (min a b)) W := run_min2' _ _ _ _ _ _
theorem OwnTR.at2 {w : World} {base g n c : Nat} {l : List Bell.Fx} (h : OwnTR w base (.slice (some ⟨g, 0, none⟩) n c) l) (hn : l.length = n) : TrAt w (some ⟨g, 0, none⟩) n l := by
  obtain ⟨A, c', he, ht, _⟩ := h.at_
  injection he with e1 _ _
  subst e1
  rwa [hn] at ht
theorem mapK_fx {f : Bell.Fx → Bell.Fx} {l : List Bell.Fx} {k : Nat} : Bell.fxAt (Bell.mapK f l k) k = Bell.fxAt l k := by
  unfold Bell.fxAt
  rw [List.getD_eq_getElem?_getD, Bell.mapK_past _ (Nat.le_refl k), ← List.getD_eq_getElem?_getD]
theorem mapK_set {f : Int × List Int → Int × List Int} {s : Bell.Sets} {k : Nat} : (Bell.mapK f s k).getD k (0, []) = s.getD k (0, []) := by
  rw [List.getD_eq_getElem?_getD, Bell.mapK_past _ (Nat.le_refl k), ← List.getD_eq_getElem?_getD]
theorem mapK_int {f : Int → Int} {s : List Int} {k : Nat} : (Bell.mapK f s k).getD k 0 = s.getD k 0 := by
  rw [List.getD_eq_getElem?_getD, Bell.mapK_past _ (Nat.le_refl k), ← List.getD_eq_getElem?_getD]
theorem OwnI.has {w : World} {base : Nat} {v : Value} {zs : List Int} {n : Nat} (h : OwnI w base v zs) (hl : zs.length = n) (hn : 0 < n) : ∃ g c, v = .slice (some ⟨g, 0, none⟩) n c := by
  rcases h.form with ⟨h1, h2⟩ | ⟨g, cap, h1, _⟩
  · rw [h2] at hl; simp at hl; omega
  · exact ⟨g, cap, by rw [h1, hl]⟩
attribute [local go_sem] growsTo growUpon
set_option maxHeartbeats 8000000 in
set_option maxRecDepth 100000 in
theorem cut_walk {nm : ByteArray} {sh : List Int} {T : Bell.Ty} {sa : Option Addr} {sn sc : Nat} {qa : Option Addr} {qn qc : Nat} {ga : Option Addr} {gn gc : Nat} {cs : Array Value} (A : Option Addr) (n c : Nat) (l : List Bell.Fx) (r : Bell.Pl) (at_ more : Int) (w : World) (hT : RTy w cs nm sh T sa sn sc qa qn qc ga gn gc) (hl : TrAt w A n l) (hd8 : T.direct.length = 8) (hm : gn ≤ 140737488351232) (ha : 0 ≤ at_) (ha2 : at_ ≤ 65535) (hb : 0 ≤ more) (hb2 : more ≤ 65535) (hu : Turned w) (hf : FirstWords w) (ht : Tab w) :
    Calls Tryz.prog 9 #[.agg cs, .slice A n c, .agg #[.int .i64 r.x, .int .i64 r.y, .int .i64 r.z, .int .u16 at_, .int .u16 more]] w fun e w' => e = .returned (.bool true) ∧ Below w.heap.size w w' := by
  have U := Lib.hid hu
  have F := Lib.hid hf
  have TB := Lib.hid ht
  have HT := Lib.hid hT
  have HD8 := Lib.hid hd8
  have HL := Lib.hid hl
  have HAT : Hid (0 ≤ at_ ∧ at_ ≤ 65535) := ⟨ha, ha2⟩
  have HMO : Hid (0 ≤ more ∧ more ≤ 65535) := ⟨hb, hb2⟩
  have IT : Hid ((Tryz.prog.info? 26).map (·.size) = some cs.size) := by show _ = _; rw [hT.cells]; kernel_rfl
  obtain ⟨b, off, hA⟩ : ∃ b off, 0 < n → A = some ⟨b, off, none⟩ ∧ FixesAt w b off n l := by
    rcases Nat.eq_zero_or_pos n with h | h
    · exact ⟨0, 0, fun h' => by omega⟩
    · obtain ⟨b, off, h1, h2⟩ := hl.2 h
      exact ⟨b, off, fun _ => ⟨h1, h2⟩⟩
  have HA := Lib.hid hA
  obtain ⟨m, hm1⟩ : ∃ m, m = n - 1 := ⟨_, rfl⟩
  have HM := Lib.hid hm1
  have HNL : Hid (l.length = n) := hl.1
  clear hu hf ht hT hd8 hl ha ha2 hb hb2 hA hm1
  go_enter Tryz.func9, Tryz.ntmps9
  go_upto_region 1 with fail
  obtain ⟨w1, hw1⟩ : ∃ W, W = ((w.alloc (.cells cs 26)).alloc (.cells #[.int .i64 r.x, .int .i64 r.y, .int .i64 r.z, .int .u16 at_, .int .u16 more] 138)) := ⟨_, rfl⟩
  rw [← hw1]
  have TT : Hid (Blk w1 (w.heap.size) 26 cs) := by show Blk _ _ _ _; rw [hw1]; exact (Blk.new _ _ _).alloc _
  have X : Hid (Blk w1 (w.heap.size + 1) 138 #[.int .i64 r.x, .int .i64 r.y, .int .i64 r.z, .int .u16 at_, .int .u16 more]) := by show Blk _ _ _ _; rw [hw1]; exact Blk.at_size _ _ (by simp)
  have hb : Below w.heap.size w w1 := by rw [hw1]; exact (((Below.refl _ _).alloc (Nat.le_refl _) _).alloc (by simp) _)
  obtain ⟨g3, hg3⟩ : ∃ g, g = w.heap.size := ⟨_, rfl⟩
  obtain ⟨g5, hg5⟩ : ∃ g, g = w.heap.size + 1 := ⟨_, rfl⟩
  have HGw1 : Hid (g3 = w.heap.size ∧ g5 = w.heap.size + 1) := ⟨hg3, hg5⟩
  rw [← hg5] at X
  try rw [← hg5]
  rw [← hg3] at TT
  try rw [← hg3]
  clear hw1 hg3 hg5
  have HB := Lib.hid hb
  replace U := Lib.hid (U.out.keep hb)
  replace F := Lib.hid (F.out.keep hb)
  replace TB := Lib.hid (TB.out.keep hb)
  replace HT := Lib.hid (HT.out.keep hb)
  replace HL := Lib.hid (HL.out.keep hb)
  replace HA : Hid (0 < n → A = some ⟨b, off, none⟩ ∧ FixesAt w1 b off n l) := fun h => ⟨(HA.out h).1, (HA.out h).2.keep hb⟩
  clear hb HGw1
  refine wp_region_guard 38 (by kernel_rfl) (by kernel_rfl) [GR.eq (.agg cs), GR.yes (ShortT nm sn qn gn T.sets), GR.no (ShortT nm sn qn gn T.sets), GR.no (ShortT nm sn qn gn T.sets), GR.eq (.agg cs), GR.zero (nameB nm = true ∧ GoodT sh T), GR.no (nameB nm = true ∧ GoodT sh T), GR.no (ShortT nm sn qn gn T.sets ∧ (nameB nm = true ∧ GoodT sh T)), GR.no (ShortT nm sn qn gn T.sets ∧ (nameB nm = true ∧ GoodT sh T)), GR.eq (.slice A n c), GR.eq (.bool (decide ((n : Int) ≤ 17))), GR.eq (.bool (!decide ((n : Int) ≤ 17))), GR.no ((ShortT nm sn qn gn T.sets ∧ (nameB nm = true ∧ GoodT sh T)) ∧ n ≤ 17), GR.no ((ShortT nm sn qn gn T.sets ∧ (nameB nm = true ∧ GoodT sh T)) ∧ n ≤ 17), GR.eq (.slice A n c), GR.zero (Bell.GoodTr l), GR.no (Bell.GoodTr l), GR.no (((ShortT nm sn qn gn T.sets ∧ (nameB nm = true ∧ GoodT sh T)) ∧ n ≤ 17) ∧ Bell.GoodTr l), GR.no (((ShortT nm sn qn gn T.sets ∧ (nameB nm = true ∧ GoodT sh T)) ∧ n ≤ 17) ∧ Bell.GoodTr l), GR.eq (.slice A n c), GR.eq (.slice A n c), GR.eq (.int .i64 n), GR.eq (.int .i64 m), GR.eq (.pointer (some ⟨b, off + m * 5, none⟩)), GR.eq (.pointer (some ⟨b, off + m * 5, none⟩)), GR.eq (.int .i64 (Bell.fxAt l m).t), GR.eq (.slice A n c), GR.eq (.pointer (some ⟨b, off, none⟩)), GR.eq (.pointer (some ⟨b, off, none⟩)), GR.eq (.int .i64 (Bell.fxAt l 0).t), GR.eq (.int .i64 ((Bell.fxAt l m).t - (Bell.fxAt l 0).t)), GR.eq (.bool (decide (200 < (Bell.fxAt l m).t - (Bell.fxAt l 0).t))), GR.no ((((ShortT nm sn qn gn T.sets ∧ (nameB nm = true ∧ GoodT sh T)) ∧ n ≤ 17) ∧ Bell.GoodTr l) ∧ (Bell.fxAt l m).t - (Bell.fxAt l 0).t ≤ 200), GR.no ((((ShortT nm sn qn gn T.sets ∧ (nameB nm = true ∧ GoodT sh T)) ∧ n ≤ 17) ∧ Bell.GoodTr l) ∧ (Bell.fxAt l m).t - (Bell.fxAt l 0).t ≤ 200), GR.eq (.pointer (some ⟨g5, 0, none⟩)), GR.eq (.agg #[.int .i64 r.x, .int .i64 r.y, .int .i64 r.z]), GR.zero (GoodPl r), GR.no (GoodPl r)] 364 rfl (by kernel_rfl) ?_ ?_
  · refine ⟨?_, ?_, ?_, ?_, ?_, ?_, ?_, ?_, ?_, ?_, ?_, ?_, ?_, ?_, ?_, ?_, ?_, ?_, ?_, ?_, ?_, ?_, ?_, ?_, ?_, ?_, ?_, ?_, ?_, ?_, ?_, ?_, ?_, ?_, ?_, ?_, ?_, ?_, trivial⟩
    · intro a W hE hd ho hw
      have e3 : a.tmps[3]?.getD undef = .pointer (some ⟨g3, 0, none⟩) := ho 3 (by kernel_rfl)
      exact gs_load 26 (.tmp 3) rfl ⟨g3, 0, none⟩ (.agg cs) ((eval_getD _ _).trans e3) ((TT.out.below hE).lv Tryz.prog Tryz.underlying26 rfl IT.out) rfl
    · intro a W hE hd ho hw
      have e36 : a.tmps[36]?.getD undef = .agg cs := hd 0 36 (by kernel_rfl) (by kernel_rfl) rfl
      refine gs_call (f := 13) (args := #[.agg cs]) (by go_simp) ?_
      refine (refShortTy_any W (HT.out.keep hE) hm).mono ?_
      rintro e w9 ⟨⟨b, rfl, hb⟩, hbl⟩
      exact ⟨_, rfl, hbl, b, rfl, hb⟩
    · intro a W hE hd ho hw
      obtain ⟨b1, e37, h1⟩ : ∃ b : Bool, a.tmps[37]?.getD undef = .bool b ∧ (b = true → ShortT nm sn qn gn T.sets) := hd 1 37 (by kernel_rfl) (by kernel_rfl) rfl
      exact gs_same (v := .bool (!b1)) (by go_simp) ⟨_, rfl, fun h => h1 (by simpa using h)⟩
    · intro a W hE hd ho hw
      obtain ⟨b1, e38, h1⟩ : ∃ b : Bool, a.tmps[38]?.getD undef = .bool b ∧ (b = false → ShortT nm sn qn gn T.sets) := hd 2 38 (by kernel_rfl) (by kernel_rfl) rfl
      exact gs_same (v := .bool b1) (by go_simp) ⟨b1, rfl, h1⟩
    · intro a W hE hd ho hw
      have e3 : a.tmps[3]?.getD undef = .pointer (some ⟨g3, 0, none⟩) := ho 3 (by kernel_rfl)
      exact gs_load 26 (.tmp 3) rfl ⟨g3, 0, none⟩ (.agg cs) ((eval_getD _ _).trans e3) ((TT.out.below hE).lv Tryz.prog Tryz.underlying26 rfl IT.out) rfl
    · intro a W hE hd ho hw
      have gt := guard_met (g := 3) (b := false) (t := 39) rfl rfl hw
      obtain ⟨b0, e39, h0⟩ : ∃ b : Bool, a.tmps[39]?.getD undef = .bool b ∧ (b = false → ShortT nm sn qn gn T.sets) := hd 3 39 (by kernel_rfl) (by kernel_rfl) rfl
      have hp := h0 (by have h9 := gt.symm.trans e39; cases h9; rfl)
      have e40 : a.tmps[40]?.getD undef = .agg cs := hd 4 40 (by kernel_rfl) (by kernel_rfl) hw
      refine gs_call (f := 20) (args := #[.agg cs]) (by go_simp) ?_
      refine (refType_any W (HT.out.keep hE) HD8.out hp).mono ?_
      rintro e w9 ⟨E, rfl, hb, hbl⟩
      exact ⟨_, rfl, hbl, E, rfl, hb.out⟩
    · intro a W hE hd ho hw
      obtain ⟨z, e41, hz⟩ : ∃ z : Int, a.tmps[41]?.getD undef = .int .i64 z ∧ (z = 0 → (nameB nm = true ∧ GoodT sh T)) := hd 5 41 (by kernel_rfl) (by kernel_rfl) hw
      exact gs_same (v := .bool (z != 0)) (by go_simp) ⟨_, rfl, fun h => hz (by simpa using h)⟩
    · intro a W hE hd ho hw
      obtain ⟨b1, e39, h1⟩ : ∃ b : Bool, a.tmps[39]?.getD undef = .bool b ∧ (b = false → ShortT nm sn qn gn T.sets) := hd 3 39 (by kernel_rfl) (by kernel_rfl) rfl
      cases b1
      · obtain ⟨b2, e42, h2⟩ : ∃ b : Bool, a.tmps[42]?.getD undef = .bool b ∧ (b = false → (nameB nm = true ∧ GoodT sh T)) := hd 6 42 (by kernel_rfl) (by kernel_rfl) (wanted_by (j := 6) (g := 3) (b := false) (t := 39) rfl rfl rfl e39)
        exact gs_same (v := .bool b2) (by go_simp) ⟨_, rfl, fun h => ⟨h1 rfl, h2 h⟩⟩
      · exact gs_same (v := .bool true) (by go_simp) ⟨true, rfl, fun h => by cases h⟩
    · intro a W hE hd ho hw
      obtain ⟨b1, e43, h1⟩ : ∃ b : Bool, a.tmps[43]?.getD undef = .bool b ∧ (b = false → (ShortT nm sn qn gn T.sets ∧ (nameB nm = true ∧ GoodT sh T))) := hd 7 43 (by kernel_rfl) (by kernel_rfl) rfl
      exact gs_same (v := .bool b1) (by go_simp) ⟨b1, rfl, h1⟩
    · intro a W hE hd ho hw
      have e1 : a.tmps[1]?.getD undef = .slice A n c := ho 1 (by kernel_rfl)
      exact gs_same (v := .slice A n c) (by go_simp) rfl
    · intro a W hE hd ho hw
      have e45 : a.tmps[45]?.getD undef = .slice A n c := hd 9 45 (by kernel_rfl) (by kernel_rfl) hw
      refine gs_call (f := 34) (args := #[.slice A n c]) (by go_simp) ?_
      refine (refShortTrack_st A n c W).mono ?_
      rintro e w9 ⟨rfl, hbl⟩
      exact ⟨_, rfl, hbl, rfl⟩
    · intro a W hE hd ho hw
      have e46 : a.tmps[46]?.getD undef = .bool (decide ((n : Int) ≤ 17)) := hd 10 46 (by kernel_rfl) (by kernel_rfl) hw
      exact gs_same (v := .bool (!decide ((n : Int) ≤ 17))) (by go_simp) rfl
    · intro a W hE hd ho hw
      obtain ⟨b1, e44, h1⟩ : ∃ b : Bool, a.tmps[44]?.getD undef = .bool b ∧ (b = false → (ShortT nm sn qn gn T.sets ∧ (nameB nm = true ∧ GoodT sh T))) := hd 8 44 (by kernel_rfl) (by kernel_rfl) rfl
      cases b1
      · have e47 : a.tmps[47]?.getD undef = .bool (!decide ((n : Int) ≤ 17)) := hd 11 47 (by kernel_rfl) (by kernel_rfl) (wanted_by (j := 11) (g := 8) (b := false) (t := 44) rfl rfl rfl e44)
        exact gs_same (v := .bool (!decide ((n : Int) ≤ 17))) (by go_simp) ⟨_, rfl, fun h => ⟨h1 rfl, (by have h5 : decide ((n : Int) ≤ 17) = true := (by simpa using h); have h6 := of_decide_eq_true h5; omega)⟩⟩
      · exact gs_same (v := .bool true) (by go_simp) ⟨true, rfl, fun h => by cases h⟩
    · intro a W hE hd ho hw
      obtain ⟨b1, e48, h1⟩ : ∃ b : Bool, a.tmps[48]?.getD undef = .bool b ∧ (b = false → ((ShortT nm sn qn gn T.sets ∧ (nameB nm = true ∧ GoodT sh T)) ∧ n ≤ 17)) := hd 12 48 (by kernel_rfl) (by kernel_rfl) rfl
      exact gs_same (v := .bool b1) (by go_simp) ⟨b1, rfl, h1⟩
    · intro a W hE hd ho hw
      have e1 : a.tmps[1]?.getD undef = .slice A n c := ho 1 (by kernel_rfl)
      exact gs_same (v := .slice A n c) (by go_simp) rfl
    · intro a W hE hd ho hw
      have gt := guard_met (g := 13) (b := false) (t := 49) rfl rfl hw
      obtain ⟨b0, e49, h0⟩ : ∃ b : Bool, a.tmps[49]?.getD undef = .bool b ∧ (b = false → ((ShortT nm sn qn gn T.sets ∧ (nameB nm = true ∧ GoodT sh T)) ∧ n ≤ 17)) := hd 13 49 (by kernel_rfl) (by kernel_rfl) rfl
      have hp := h0 (by have h9 := gt.symm.trans e49; cases h9; rfl)
      have e50 : a.tmps[50]?.getD undef = .slice A n c := hd 14 50 (by kernel_rfl) (by kernel_rfl) hw
      refine gs_call (f := 39) (args := #[.slice A n c]) (by go_simp) ?_
      refine (refTrack_any A n c l W (HL.out.keep hE) hp.2).mono ?_
      rintro e w9 ⟨E, rfl, hb, hbl⟩
      exact ⟨_, rfl, hbl, E, rfl, hb.out⟩
    · intro a W hE hd ho hw
      obtain ⟨z, e51, hz⟩ : ∃ z : Int, a.tmps[51]?.getD undef = .int .i64 z ∧ (z = 0 → Bell.GoodTr l) := hd 15 51 (by kernel_rfl) (by kernel_rfl) hw
      exact gs_same (v := .bool (z != 0)) (by go_simp) ⟨_, rfl, fun h => hz (by simpa using h)⟩
    · intro a W hE hd ho hw
      obtain ⟨b1, e49, h1⟩ : ∃ b : Bool, a.tmps[49]?.getD undef = .bool b ∧ (b = false → ((ShortT nm sn qn gn T.sets ∧ (nameB nm = true ∧ GoodT sh T)) ∧ n ≤ 17)) := hd 13 49 (by kernel_rfl) (by kernel_rfl) rfl
      cases b1
      · obtain ⟨b2, e52, h2⟩ : ∃ b : Bool, a.tmps[52]?.getD undef = .bool b ∧ (b = false → Bell.GoodTr l) := hd 16 52 (by kernel_rfl) (by kernel_rfl) (wanted_by (j := 16) (g := 13) (b := false) (t := 49) rfl rfl rfl e49)
        exact gs_same (v := .bool b2) (by go_simp) ⟨_, rfl, fun h => ⟨h1 rfl, h2 h⟩⟩
      · exact gs_same (v := .bool true) (by go_simp) ⟨true, rfl, fun h => by cases h⟩
    · intro a W hE hd ho hw
      obtain ⟨b1, e53, h1⟩ : ∃ b : Bool, a.tmps[53]?.getD undef = .bool b ∧ (b = false → (((ShortT nm sn qn gn T.sets ∧ (nameB nm = true ∧ GoodT sh T)) ∧ n ≤ 17) ∧ Bell.GoodTr l)) := hd 17 53 (by kernel_rfl) (by kernel_rfl) rfl
      exact gs_same (v := .bool b1) (by go_simp) ⟨b1, rfl, h1⟩
    · intro a W hE hd ho hw
      have e1 : a.tmps[1]?.getD undef = .slice A n c := ho 1 (by kernel_rfl)
      exact gs_same (v := .slice A n c) (by go_simp) rfl
    · intro a W hE hd ho hw
      have e1 : a.tmps[1]?.getD undef = .slice A n c := ho 1 (by kernel_rfl)
      exact gs_same (v := .slice A n c) (by go_simp) rfl
    · intro a W hE hd ho hw
      have e56 : a.tmps[56]?.getD undef = .slice A n c := hd 20 56 (by kernel_rfl) (by kernel_rfl) hw
      exact gs_same (v := .int .i64 n) (by go_simp) rfl
    · intro a W hE hd ho hw
      have gt := guard_met (g := 18) (b := false) (t := 54) rfl rfl hw
      obtain ⟨b0, e54, h0⟩ : ∃ b : Bool, a.tmps[54]?.getD undef = .bool b ∧ (b = false → (((ShortT nm sn qn gn T.sets ∧ (nameB nm = true ∧ GoodT sh T)) ∧ n ≤ 17) ∧ Bell.GoodTr l)) := hd 18 54 (by kernel_rfl) (by kernel_rfl) rfl
      have hp := h0 (by have h9 := gt.symm.trans e54; cases h9; rfl)
      have n2 : 2 ≤ n := by have h3 := hp.2.lo; rw [HNL.out] at h3; exact h3
      have hm := HM.out
      have e57 : a.tmps[57]?.getD undef = .int .i64 n := hd 21 57 (by kernel_rfl) (by kernel_rfl) hw
      have n6 := hp.1.2
      have wk : IntKind.i64.wrap ((n : Int) - 1) = (m : Int) := by rw [IntWalk.i64_in _ (by omega)]; omega
      clear hm
      exact gs_same (v := .int .i64 m) (by go_simp) rfl
    · intro a W hE hd ho hw
      have gt := guard_met (g := 18) (b := false) (t := 54) rfl rfl hw
      obtain ⟨b0, e54, h0⟩ : ∃ b : Bool, a.tmps[54]?.getD undef = .bool b ∧ (b = false → (((ShortT nm sn qn gn T.sets ∧ (nameB nm = true ∧ GoodT sh T)) ∧ n ≤ 17) ∧ Bell.GoodTr l)) := hd 18 54 (by kernel_rfl) (by kernel_rfl) rfl
      have hp := h0 (by have h9 := gt.symm.trans e54; cases h9; rfl)
      have n2 : 2 ≤ n := by have h3 := hp.2.lo; rw [HNL.out] at h3; exact h3
      have hm := HM.out
      obtain ⟨rfl, _⟩ := HA.out (by omega)
      have e55 : a.tmps[55]?.getD undef = .slice (some ⟨b, off, none⟩) n c := hd 19 55 (by kernel_rfl) (by kernel_rfl) hw
      have e58 : a.tmps[58]?.getD undef = .int .i64 m := hd 22 58 (by kernel_rfl) (by kernel_rfl) hw
      have pl : (m : Int) < (n : Int) := by omega
      clear hm
      exact gs_same (v := .pointer (some ⟨b, off + m * 5, none⟩)) (by go_simp) rfl
    · intro a W hE hd ho hw
      have e59 : a.tmps[59]?.getD undef = .pointer (some ⟨b, off + m * 5, none⟩) := hd 23 59 (by kernel_rfl) (by kernel_rfl) hw
      exact gs_same (v := .pointer (some ⟨b, off + m * 5, none⟩)) (by go_simp) rfl
    · intro a W hE hd ho hw
      have gt := guard_met (g := 18) (b := false) (t := 54) rfl rfl hw
      obtain ⟨b0, e54, h0⟩ : ∃ b : Bool, a.tmps[54]?.getD undef = .bool b ∧ (b = false → (((ShortT nm sn qn gn T.sets ∧ (nameB nm = true ∧ GoodT sh T)) ∧ n ≤ 17) ∧ Bell.GoodTr l)) := hd 18 54 (by kernel_rfl) (by kernel_rfl) rfl
      have hp := h0 (by have h9 := gt.symm.trans e54; cases h9; rfl)
      have n2 : 2 ≤ n := by have h3 := hp.2.lo; rw [HNL.out] at h3; exact h3
      have hm := HM.out
      obtain ⟨rfl, hF⟩ := HA.out (by omega)
      have k0 := ((hF.keep hE.below).2 m (by omega)).1
      clear hm hF
      have e60 : a.tmps[60]?.getD undef = .pointer (some ⟨b, off + m * 5, none⟩) := hd 24 60 (by kernel_rfl) (by kernel_rfl) hw
      exact gs_same (v := .int .i64 (Bell.fxAt l m).t) (by go_simp) rfl
    · intro a W hE hd ho hw
      have e1 : a.tmps[1]?.getD undef = .slice A n c := ho 1 (by kernel_rfl)
      exact gs_same (v := .slice A n c) (by go_simp) rfl
    · intro a W hE hd ho hw
      have gt := guard_met (g := 18) (b := false) (t := 54) rfl rfl hw
      obtain ⟨b0, e54, h0⟩ : ∃ b : Bool, a.tmps[54]?.getD undef = .bool b ∧ (b = false → (((ShortT nm sn qn gn T.sets ∧ (nameB nm = true ∧ GoodT sh T)) ∧ n ≤ 17) ∧ Bell.GoodTr l)) := hd 18 54 (by kernel_rfl) (by kernel_rfl) rfl
      have hp := h0 (by have h9 := gt.symm.trans e54; cases h9; rfl)
      have n2 : 2 ≤ n := by have h3 := hp.2.lo; rw [HNL.out] at h3; exact h3
      have hm := HM.out
      obtain ⟨rfl, _⟩ := HA.out (by omega)
      have e62 : a.tmps[62]?.getD undef = .slice (some ⟨b, off, none⟩) n c := hd 26 62 (by kernel_rfl) (by kernel_rfl) hw
      have pl : ¬ n = 0 := by omega
      clear hm
      exact gs_same (v := .pointer (some ⟨b, off, none⟩)) (by go_simp) rfl
    · intro a W hE hd ho hw
      have e63 : a.tmps[63]?.getD undef = .pointer (some ⟨b, off, none⟩) := hd 27 63 (by kernel_rfl) (by kernel_rfl) hw
      exact gs_same (v := .pointer (some ⟨b, off, none⟩)) (by go_simp) rfl
    · intro a W hE hd ho hw
      have gt := guard_met (g := 18) (b := false) (t := 54) rfl rfl hw
      obtain ⟨b0, e54, h0⟩ : ∃ b : Bool, a.tmps[54]?.getD undef = .bool b ∧ (b = false → (((ShortT nm sn qn gn T.sets ∧ (nameB nm = true ∧ GoodT sh T)) ∧ n ≤ 17) ∧ Bell.GoodTr l)) := hd 18 54 (by kernel_rfl) (by kernel_rfl) rfl
      have hp := h0 (by have h9 := gt.symm.trans e54; cases h9; rfl)
      have n2 : 2 ≤ n := by have h3 := hp.2.lo; rw [HNL.out] at h3; exact h3
      have hm := HM.out
      obtain ⟨rfl, hF⟩ := HA.out (by omega)
      have k0 := ((hF.keep hE.below).2 0 (by omega)).1
      simp only [Nat.zero_mul, Nat.add_zero] at k0
      clear hm hF
      have e64 : a.tmps[64]?.getD undef = .pointer (some ⟨b, off, none⟩) := hd 28 64 (by kernel_rfl) (by kernel_rfl) hw
      exact gs_same (v := .int .i64 (Bell.fxAt l 0).t) (by go_simp) rfl
    · intro a W hE hd ho hw
      have gt := guard_met (g := 18) (b := false) (t := 54) rfl rfl hw
      obtain ⟨b0, e54, h0⟩ : ∃ b : Bool, a.tmps[54]?.getD undef = .bool b ∧ (b = false → (((ShortT nm sn qn gn T.sets ∧ (nameB nm = true ∧ GoodT sh T)) ∧ n ≤ 17) ∧ Bell.GoodTr l)) := hd 18 54 (by kernel_rfl) (by kernel_rfl) rfl
      have hp := h0 (by have h9 := gt.symm.trans e54; cases h9; rfl)
      have n2 : 2 ≤ n := by have h3 := hp.2.lo; rw [HNL.out] at h3; exact h3
      have hm := HM.out
      have pz := hp.2.pts m (by rw [HNL.out]; omega)
      have pa := hp.2.pts 0 (by rw [HNL.out]; omega)
      have u1 := pz.t0
      have u2 := pz.t1
      have u3 := pa.t0
      have u4 := pa.t1
      have e61 : a.tmps[61]?.getD undef = .int .i64 (Bell.fxAt l m).t := hd 25 61 (by kernel_rfl) (by kernel_rfl) hw
      have e65 : a.tmps[65]?.getD undef = .int .i64 (Bell.fxAt l 0).t := hd 29 65 (by kernel_rfl) (by kernel_rfl) hw
      obtain ⟨Z, hZ⟩ : ∃ Z, Z = (Bell.fxAt l m).t := ⟨_, rfl⟩
      obtain ⟨Y, hY⟩ : ∃ Y, Y = (Bell.fxAt l 0).t := ⟨_, rfl⟩
      rw [← hZ] at e61 u1 u2 ⊢
      rw [← hY] at e65 u3 u4 ⊢
      have wk : IntKind.i64.wrap (Z - Y) = Z - Y := IntWalk.i64_in _ (by omega)
      clear hZ hY hm pz pa hp h0
      exact gs_same (v := .int .i64 (Z - Y)) (by go_simp) rfl
    · intro a W hE hd ho hw
      have e66 : a.tmps[66]?.getD undef = .int .i64 ((Bell.fxAt l m).t - (Bell.fxAt l 0).t) := hd 30 66 (by kernel_rfl) (by kernel_rfl) hw
      exact gs_same (v := .bool (decide (200 < (Bell.fxAt l m).t - (Bell.fxAt l 0).t))) (by go_simp) rfl
    · intro a W hE hd ho hw
      obtain ⟨b1, e54, h1⟩ : ∃ b : Bool, a.tmps[54]?.getD undef = .bool b ∧ (b = false → (((ShortT nm sn qn gn T.sets ∧ (nameB nm = true ∧ GoodT sh T)) ∧ n ≤ 17) ∧ Bell.GoodTr l)) := hd 18 54 (by kernel_rfl) (by kernel_rfl) rfl
      cases b1
      · have e67 : a.tmps[67]?.getD undef = .bool (decide (200 < (Bell.fxAt l m).t - (Bell.fxAt l 0).t)) := hd 31 67 (by kernel_rfl) (by kernel_rfl) (wanted_by (j := 31) (g := 18) (b := false) (t := 54) rfl rfl rfl e54)
        exact gs_same (v := .bool (decide (200 < (Bell.fxAt l m).t - (Bell.fxAt l 0).t))) (by go_simp) ⟨_, rfl, fun h => ⟨h1 rfl, by have := of_decide_eq_false h; omega⟩⟩
      · exact gs_same (v := .bool true) (by go_simp) ⟨true, rfl, fun h => by cases h⟩
    · intro a W hE hd ho hw
      obtain ⟨b1, e68, h1⟩ : ∃ b : Bool, a.tmps[68]?.getD undef = .bool b ∧ (b = false → ((((ShortT nm sn qn gn T.sets ∧ (nameB nm = true ∧ GoodT sh T)) ∧ n ≤ 17) ∧ Bell.GoodTr l) ∧ (Bell.fxAt l m).t - (Bell.fxAt l 0).t ≤ 200)) := hd 32 68 (by kernel_rfl) (by kernel_rfl) rfl
      exact gs_same (v := .bool b1) (by go_simp) ⟨b1, rfl, h1⟩
    · intro a W hE hd ho hw
      have e5 : a.tmps[5]?.getD undef = .pointer (some ⟨g5, 0, none⟩) := ho 5 (by kernel_rfl)
      exact gs_same (v := .pointer (some ⟨g5, 0, none⟩)) (by go_simp) rfl
    · intro a W hE hd ho hw
      have e70 : a.tmps[70]?.getD undef = .pointer (some ⟨g5, 0, none⟩) := hd 34 70 (by kernel_rfl) (by kernel_rfl) hw
      have c0 := (X.out.below hE).cell 0
      have c1 := (X.out.below hE).cell 1
      have c2 := (X.out.below hE).cell 2
      simp only [List.getElem?_toArray, List.getElem?_cons_zero, List.getElem?_cons_succ] at c0 c1 c2
      exact gs_same (v := .agg #[.int .i64 r.x, .int .i64 r.y, .int .i64 r.z]) (by go_simp) rfl
    · intro a W hE hd ho hw
      have e71 : a.tmps[71]?.getD undef = .agg #[.int .i64 r.x, .int .i64 r.y, .int .i64 r.z] := hd 35 71 (by kernel_rfl) (by kernel_rfl) hw
      refine gs_call (f := 26) (args := #[.agg #[.int .i64 r.x, .int .i64 r.y, .int .i64 r.z]]) (by go_simp) ?_
      refine (refPlace_any r.x r.y r.z W).mono ?_
      rintro e w9 ⟨rfl, hbl⟩
      exact ⟨_, rfl, hbl, _, rfl, fun h => placeE_good h⟩
    · intro a W hE hd ho hw
      obtain ⟨z, e72, hz⟩ : ∃ z : Int, a.tmps[72]?.getD undef = .int .i64 z ∧ (z = 0 → GoodPl r) := hd 36 72 (by kernel_rfl) (by kernel_rfl) hw
      exact gs_same (v := .bool (z != 0)) (by go_simp) ⟨_, rfl, fun h => hz (by simpa using h)⟩
  intro vs w2 hE hR
  obtain ⟨b33, y33, h33⟩ : ∃ b : Bool, vs 33 = .bool b ∧ (b = false → ((((ShortT nm sn qn gn T.sets ∧ (nameB nm = true ∧ GoodT sh T)) ∧ n ≤ 17) ∧ Bell.GoodTr l) ∧ (Bell.fxAt l m).t - (Bell.fxAt l 0).t ≤ 200)) := hR 33 (by omega) rfl
  have hb := hE.below
  cases b33
  case true =>
    simp only [List.range, List.range.loop, List.foldl_cons, List.foldl_nil, y33, List.drop_succ_cons, List.drop_zero]
    simp only [dstAt, List.getElem?_toArray, List.getElem?_cons_zero, List.getElem?_cons_succ, Option.bind_some, Act.put, List.setIfInBounds_toArray, List.set_cons_zero, List.set_cons_succ]
    clear y33 hR h33 hE
    replace HB := Lib.hid (HB.out.trans (hb.mono HB.out.size))
    replace U := Lib.hid (U.out.keep hb)
    replace F := Lib.hid (F.out.keep hb)
    replace TB := Lib.hid (TB.out.keep hb)
    replace HT := Lib.hid (HT.out.keep hb)
    replace HL := Lib.hid (HL.out.keep hb)
    replace TT := Lib.hid (TT.out.below hb)
    replace X := Lib.hid (X.out.below hb)
    clear hb
    go_wp2_with fail
    refine (awake2_any w2 U.out F.out TB.out).mono ?_
    rintro e wZ ⟨rfl, hb⟩
    replace HB := Lib.hid (HB.out.trans (hb.mono HB.out.size))
    clear hb
    go_wp2
    go_ret
    exact ⟨rfl, HB.out⟩
  obtain ⟨b37, y37, h37⟩ : ∃ b : Bool, vs 37 = .bool b ∧ (b = false → GoodPl r) := hR 37 (by omega) (wanted_by (j := 37) (g := 33) (b := false) (t := 69) rfl rfl rfl (by simp only [List.range, List.range.loop, List.foldl_cons, List.foldl_nil, y33, dstAt, List.getElem?_toArray, List.getElem?_cons_zero, List.getElem?_cons_succ, Option.bind_some, Act.put, List.setIfInBounds_toArray, List.set_cons_zero, List.set_cons_succ, Option.getD_some]))
  simp only [List.range, List.range.loop, List.foldl_cons, List.foldl_nil, y33, y37, List.drop_succ_cons, List.drop_zero]
  simp only [dstAt, List.getElem?_toArray, List.getElem?_cons_zero, List.getElem?_cons_succ, Option.bind_some, Act.put, List.setIfInBounds_toArray, List.set_cons_zero, List.set_cons_succ]
  clear y33 y37 hR hE
  replace HB := Lib.hid (HB.out.trans (hb.mono HB.out.size))
  replace U := Lib.hid (U.out.keep hb)
  replace F := Lib.hid (F.out.keep hb)
  replace TB := Lib.hid (TB.out.keep hb)
  replace HT := Lib.hid (HT.out.keep hb)
  replace HL := Lib.hid (HL.out.keep hb)
  replace TT := Lib.hid (TT.out.below hb)
  replace X := Lib.hid (X.out.below hb)
  clear hb
  cases b37
  case true =>
    clear h33 h37
    go_wp2_with fail
    refine (awake2_any w2 U.out F.out TB.out).mono ?_
    rintro e wZ ⟨rfl, hb⟩
    replace HB := Lib.hid (HB.out.trans (hb.mono HB.out.size))
    clear hb
    go_wp2
    go_ret
    exact ⟨rfl, HB.out⟩
  have HF := Lib.hid (h33 rfl)
  have HGP := Lib.hid (h37 rfl)
  clear h33 h37
  obtain ⟨hn2, hAe, hfx⟩ : 2 ≤ n ∧ A = some ⟨b, off, none⟩ ∧ FixesAt w1 b off n l := by
    have h3 := HF.out.1.2.lo
    rw [HNL.out] at h3
    exact ⟨h3, HA.out (by omega)⟩
  clear hfx
  subst hAe
  have HNG : Hid (nameB nm = true ∧ GoodT sh T) := HF.out.1.1.1.2
  have HSN : Hid (ShortT nm sn qn gn T.sets) := HF.out.1.1.1.1
  have HGR : Hid (Bell.GoodTr l) := HF.out.1.2
  have hn17 : n ≤ 17 := HF.out.1.1.2
  have hnm : n = m + 1 := by have := HM.out; omega
  subst hnm
  obtain ⟨FR, hFR⟩ : ∃ z, z = (Bell.fxAt l 0).t := ⟨_, rfl⟩
  obtain ⟨TO, hTO⟩ : ∃ z, z = (Bell.fxAt l m).t := ⟨_, rfl⟩
  have HFR := Lib.hid hFR
  have HTO := Lib.hid hTO
  have HSP : Hid (0 ≤ FR ∧ FR < TO ∧ TO ≤ 100000000 ∧ TO - FR ≤ 200) := by
    have g := HF.out.1.2
    have h1 := (g.pts 0 (by rw [HNL.out]; omega)).t0
    have h2 := (g.pts m (by rw [HNL.out]; omega)).t1
    have h3 := HF.out.2
    have h4 := g.up 0 m (by omega) (by rw [HNL.out]; omega)
    show _ ∧ _ ∧ _ ∧ _
    rw [hFR, hTO]
    exact ⟨h1, h4, h2, h3⟩
  clear HF HA HM hFR hTO
  have c0 := (HL.out.2 (by omega))
  obtain ⟨_, _, he, hff⟩ := c0
  cases he
  have c0 := (hff.2 0 (by omega)).1
  have c1 := (hff.2 m (by omega)).1
  simp only [Nat.zero_mul, Nat.add_zero] at c0
  rw [← HFR.out] at c0
  rw [← HTO.out] at c1
  clear hff
  have wn : IntKind.i64.wrap (((m + 1 : Nat) : Int) - 1) = (m : Int) := by rw [IntWalk.i64_in _ (by omega)]; omega
  have pm : (m : Int) < ((m + 1 : Nat) : Int) := by omega
  go_upto_region 3 with fail
  go_big_quiet (fail)
  obtain ⟨w3, hw3⟩ : ∃ W, W = w2.drewN nq := ⟨_, rfl⟩
  rw [← hw3]
  have hb : Below w2.heap.size w2 w3 := by rw [hw3]; exact below_drewN' (Below.refl _ _) _
  clear hw3 c0 c1 wn pm
  replace HB := Lib.hid (HB.out.trans (hb.mono HB.out.size))
  replace U := Lib.hid (U.out.keep hb)
  replace F := Lib.hid (F.out.keep hb)
  replace TB := Lib.hid (TB.out.keep hb)
  replace HT := Lib.hid (HT.out.keep hb)
  replace HL := Lib.hid (HL.out.keep hb)
  replace TT := Lib.hid (TT.out.below hb)
  replace X := Lib.hid (X.out.below hb)
  clear hb
  obtain ⟨K, hK⟩ : ∃ K, K = TO - FR + 1 := ⟨_, rfl⟩
  obtain ⟨CU, hCU⟩ : ∃ CU, CU = FR + at_ % K := ⟨_, rfl⟩
  have hsp := HSP.out
  have hat := HAT.out
  have hm1 := Int.emod_nonneg at_ (show K ≠ 0 by omega)
  have hm2 := Int.emod_lt_of_pos at_ (show 0 < K by omega)
  have HCU : Hid (FR ≤ CU ∧ CU ≤ TO) := by show _ ∧ _; omega
  have v1 : IntKind.i64.wrap (TO - FR) = TO - FR := IntWalk.i64_in _ (by omega)
  have v2 : IntKind.i64.wrap (TO - FR + 1) = K := by rw [hK]; exact IntWalk.i64_in _ (by omega)
  have v3 : at_.tmod K = at_ % K := Int.tmod_eq_emod_of_nonneg (by omega)
  have v4 : IntKind.i64.wrap (at_ % K) = at_ % K := IntWalk.i64_in _ (by omega)
  have v5 : IntKind.i64.wrap (FR + at_ % K) = CU := by rw [hCU]; exact IntWalk.i64_in _ (by omega)
  have v6 : IntKind.i64.wrap at_ = at_ := IntWalk.i64_in _ (by omega)
  have k0 : ¬ K = 0 := by omega
  have c3 := X.out.cell 3
  simp only [List.getElem?_toArray, List.getElem?_cons_zero, List.getElem?_cons_succ] at c3
  clear hsp hat hm1 hm2 hCU hK
  go_upto_region 5 with fail
  clear v1 v2 v3 v4 v5 v6 k0 c3
  obtain ⟨WH, hWH⟩ : ∃ z, z = Bell.expoOf T l r 0 100000000 := ⟨_, rfl⟩
  obtain ⟨WA, hWA⟩ : ∃ z, z = Bell.expoOf T l r 0 CU := ⟨_, rfl⟩
  obtain ⟨WB, hWB⟩ : ∃ z, z = Bell.expoOf T l r CU 100000000 := ⟨_, rfl⟩
  obtain ⟨M, hM⟩ : ∃ M, M = (TO - FR).toNat := ⟨_, rfl⟩
  obtain ⟨MX, hMX⟩ : ∃ z, z = (Bell.maxF (Bell.heardAt T l r) FR M).1 := ⟨_, rfl⟩
  obtain ⟨AT, hAT⟩ : ∃ z, z = (Bell.maxF (Bell.heardAt T l r) FR M).2 := ⟨_, rfl⟩
  obtain ⟨LO, hLO⟩ : ∃ z, z = Bell.encLow T l r (l.length - 1) := ⟨_, rfl⟩
  obtain ⟨HI, hHI⟩ : ∃ z, z = Bell.encHigh T l r (l.length - 1) := ⟨_, rfl⟩
  have HWH := Lib.hid hWH
  have hll : l.length - 1 = m := by rw [HNL.out]; rfl
  have E1 : Hid (∀ (cs' : Array Value) (sa' : Option Addr) (sc' qb qo qc' gb go gc' : Nat) (g o c : Nat) (W : World), TyOk W cs' nm sh T sa' sn sc' qb qo qn qc' gb go gn gc' → FixesAt W g o (m + 1) l → m + 1 ≤ c → c ≤ 9223372036854775807 → Calls Tryz.prog 55 #[.agg cs', .slice (some ⟨g, o, none⟩) (m + 1) c, .agg #[.int .i64 0, .int .i64 100000000], .agg (plV r)] W fun e w' => e = .returned (.tuple #[.int .i64 WH, .int .i64 0]) ∧ Below W.heap.size W w') := fun cs' sa' sc' qb qo qc' gb go gc' g o c W hk hf _ _ => by
    have h := Exposure_ok g o (m + 1) c l 0 100000000 r W hk hf HGR.out HGP.out (by omega) (by omega) (by omega)
    rwa [← hWH] at h
  have E2 : Hid (∀ (cs' : Array Value) (sa' : Option Addr) (sc' qb qo qc' gb go gc' : Nat) (g o c : Nat) (W : World), TyOk W cs' nm sh T sa' sn sc' qb qo qn qc' gb go gn gc' → FixesAt W g o (m + 1) l → m + 1 ≤ c → c ≤ 9223372036854775807 → Calls Tryz.prog 55 #[.agg cs', .slice (some ⟨g, o, none⟩) (m + 1) c, .agg #[.int .i64 0, .int .i64 CU], .agg (plV r)] W fun e w' => e = .returned (.tuple #[.int .i64 WA, .int .i64 0]) ∧ Below W.heap.size W w') := fun cs' sa' sc' qb qo qc' gb go gc' g o c W hk hf _ _ => by
    have h := Exposure_ok g o (m + 1) c l 0 CU r W hk hf HGR.out HGP.out (by omega) (by have := HSP.out; have := HCU.out; omega) (by have := HSP.out; have := HCU.out; omega)
    rwa [← hWA] at h
  have E3 : Hid (∀ (cs' : Array Value) (sa' : Option Addr) (sc' qb qo qc' gb go gc' : Nat) (g o c : Nat) (W : World), TyOk W cs' nm sh T sa' sn sc' qb qo qn qc' gb go gn gc' → FixesAt W g o (m + 1) l → m + 1 ≤ c → c ≤ 9223372036854775807 → Calls Tryz.prog 55 #[.agg cs', .slice (some ⟨g, o, none⟩) (m + 1) c, .agg #[.int .i64 CU, .int .i64 100000000], .agg (plV r)] W fun e w' => e = .returned (.tuple #[.int .i64 WB, .int .i64 0]) ∧ Below W.heap.size W w') := fun cs' sa' sc' qb qo qc' gb go gc' g o c W hk hf _ _ => by
    have h := Exposure_ok g o (m + 1) c l CU 100000000 r W hk hf HGR.out HGP.out (by have := HSP.out; have := HCU.out; omega) (by have := HSP.out; have := HCU.out; omega) (by omega)
    rwa [← hWB] at h
  have E4 : Hid (∀ (cs' : Array Value) (sa' : Option Addr) (sc' qb qo qc' gb go gc' : Nat) (g o c : Nat) (W : World), TyOk W cs' nm sh T sa' sn sc' qb qo qn qc' gb go gn gc' → FixesAt W g o (m + 1) l → m + 1 ≤ c → c ≤ 9223372036854775807 → Calls Tryz.prog 56 #[.agg cs', .slice (some ⟨g, o, none⟩) (m + 1) c, .agg #[.int .i64 0, .int .i64 100000000], .agg (plV r)] W fun e w' => e = .returned (.tuple #[.int .i64 MX, .int .i64 AT, .int .i64 0]) ∧ Below W.heap.size W w') := fun cs' sa' sc' qb qo qc' gb go gc' g o c W hk hf _ _ => by
    have h := Maximum_ok g o (m + 1) c l 0 100000000 FR TO M r W hk hf HGR.out HGP.out (by omega) (by omega) (by omega) (by rw [← HFR.out]; have := HSP.out; omega) (by rw [hll, ← HTO.out]; have := HSP.out; omega) hM (by have := HSP.out; omega)
    rwa [← hMX, ← hAT] at h
  have E5 : Hid (∀ (cs' : Array Value) (sa' : Option Addr) (sc' qb qo qc' gb go gc' : Nat) (g o c : Nat) (W : World), TyOk W cs' nm sh T sa' sn sc' qb qo qn qc' gb go gn gc' → FixesAt W g o (m + 1) l → m + 1 ≤ c → c ≤ 9223372036854775807 → Calls Tryz.prog 57 #[.agg cs', .slice (some ⟨g, o, none⟩) (m + 1) c, .agg (plV r)] W fun e w' => e = .returned (.tuple #[.agg #[.int .i64 LO, .int .i64 HI], .int .i64 0]) ∧ Below W.heap.size W w') := fun cs' sa' sc' qb qo qc' gb go gc' g o c W hk hf h1 h2 => by
    have h := Enclosed_ok g o (m + 1) c l r W hk hf HGR.out HGP.out h1 h2
    rwa [← hLO, ← hHI] at h
  have HNUM : Hid (WA + WB = WH ∧ LO ≤ WH ∧ WH ≤ HI ∧ FR ≤ AT ∧ AT < TO ∧ (0 ≤ WA ∧ WA ≤ 200000000000) ∧ (0 ≤ WB ∧ WB ≤ 200000000000) ∧ (0 ≤ WH ∧ WH ≤ 200000000000)) := by
    have gT := HNG.out.2.ty
    have g := HGR.out
    have hsp := HSP.out
    have hcu := HCU.out
    have k1 := Bell.cut_whole (T := T) (r := r) g (c := CU) (by rw [← HFR.out]; exact hcu.1) (by rw [hll, ← HTO.out]; exact hcu.2)
    have k2 := Bell.whole_in gT g r
    obtain ⟨i, i1, i2, _⟩ := Bell.most_first gT l r FR (n := M) (by omega)
    have k3 := Bell.expo_range gT g r 0 CU
    have k4 := Bell.expo_range gT g r CU 100000000
    have k5 := Bell.expo_range gT g r 0 100000000
    rw [← hWA, ← hWB, ← hWH] at k1
    rw [← hLO, ← hHI, ← hWH] at k2
    rw [← hAT] at i2
    rw [← hWA] at k3
    rw [← hWB] at k4
    rw [← hWH] at k5
    exact ⟨k1, k2.1, k2.2, by omega, by omega, k3, k4, k5⟩
  have HROW : Hid (∀ k : Nat, k < M → 0 ≤ Bell.heardAt T l r (FR + k) ∧ Bell.heardAt T l r (FR + k) ≤ MX ∧ (FR + k < AT → Bell.heardAt T l r (FR + k) < MX) ∧ (FR + k = AT → Bell.heardAt T l r (FR + k) = MX)) := fun k hk => by
    have gT := HNG.out.2.ty
    obtain ⟨i, i1, i2, i3, i4, i5⟩ := Bell.most_first gT l r FR (n := M) (by have := HSP.out; omega)
    rw [← hAT] at i2
    rw [← hMX] at i3 i4 i5
    refine ⟨(Bell.heard_range gT _ r).1, i4 k hk, fun h => i5 k (by omega), fun h => ?_⟩
    have e : k = i := by omega
    rw [e]; exact i3
  have HSUM : Hid (WH = Bell.sumF (Bell.heardAt T l r) FR M) := by
    show _ = _
    rw [hWH, Bell.whole_at HGR.out, hll, ← HTO.out, ← HFR.out, hM]
  have HMM : Hid (M = (TO - FR).toNat) := hM
  clear hWH hWA hWB hM hMX hAT hLO hHI hll
  refine wp_region_allN 13 rfl (by kernel_rfl) (by kernel_rfl) [GR.eq (.agg cs), GR.gv nm sh T sn qn gn, GR.eq (.slice (some ⟨b, off, none⟩) (m + 1) c), GR.trkL (m + 1) l, GR.eq (.agg #[.int .i64 0, .int .i64 100000000]), GR.eq (.pointer (some ⟨g5, 0, none⟩)), GR.eq (.agg (plV r)), GR.eq (.tuple #[.int .i64 WH, .int .i64 0]), GR.eq (.tuple #[.int .i64 WH, .int .i64 0]), GR.eq (.int .i64 WH), GR.eq (.int .i64 0), GR.eq (.int .i64 WH), GR.eq (.int .i64 0)] 364 rfl (by kernel_rfl) ?_ ?_
  · refine ⟨?_, ?_, ?_, ?_, ?_, ?_, ?_, ?_, ?_, ?_, ?_, ?_, ?_, trivial⟩
    · intro a W hE hd ho
      have e3 : a.tmps[3]?.getD undef = .pointer (some ⟨g3, 0, none⟩) := ho 3 (by kernel_rfl)
      exact gs_load 26 (.tmp 3) rfl ⟨g3, 0, none⟩ (.agg cs) ((eval_getD _ _).trans e3) ((TT.out.below hE).lv Tryz.prog Tryz.underlying26 rfl IT.out) rfl
    · intro a W hE hd ho
      have e98 : a.tmps[98]?.getD undef = .agg cs := hd 0 98 (by kernel_rfl) (by kernel_rfl)
      refine gs_call (f := 16) (args := #[.agg cs]) (by go_simp) ?_
      refine (given_any W (HT.out.keep hE) HNG.out.2 HNG.out.1 HSN.out.name).mono ?_
      rintro e w9 ⟨cs', sa', sc', qb, qo, qc', gb, go, gc', rfl, h1, h2⟩
      exact ⟨_, rfl, h2, cs', sa', sc', qb, qo, qc', gb, go, gc', rfl, h1⟩
    · intro a W hE hd ho
      have e1 : a.tmps[1]?.getD undef = .slice (some ⟨b, off, none⟩) (m + 1) c := ho 1 (by kernel_rfl)
      exact gs_same (v := .slice (some ⟨b, off, none⟩) (m + 1) c) (by go_simp) rfl
    · intro a W hE hd ho
      have e100 : a.tmps[100]?.getD undef = .slice (some ⟨b, off, none⟩) (m + 1) c := hd 2 100 (by kernel_rfl) (by kernel_rfl)
      refine gs_call (f := 36) (args := #[.slice (some ⟨b, off, none⟩) (m + 1) c]) (by go_simp) ?_
      refine (fixes_any (some ⟨b, off, none⟩) (m + 1) c l W (HL.out.keep hE) (by omega)).mono ?_
      rintro e w9 ⟨A', c', rfl, h1, h2, h3⟩
      obtain ⟨g', o', rfl, h4⟩ := h1.2 (by omega)
      exact ⟨_, rfl, h3, g', o', c', rfl, h4, h2.1, h2.2⟩
    · intro a W hE hd ho
      refine gs_call (f := 79) (args := #[]) (by go_simp) ?_
      refine (all_any W).mono ?_
      rintro e w' ⟨rfl, hb⟩
      exact ⟨_, rfl, hb, rfl⟩
    · intro a W hE hd ho
      have e5 : a.tmps[5]?.getD undef = .pointer (some ⟨g5, 0, none⟩) := ho 5 (by kernel_rfl)
      exact gs_same (v := .pointer (some ⟨g5, 0, none⟩)) (by go_simp) rfl
    · intro a W hE hd ho
      have e103 : a.tmps[103]?.getD undef = .pointer (some ⟨g5, 0, none⟩) := hd 5 103 (by kernel_rfl) (by kernel_rfl)
      have c0 := (X.out.below hE).cell 0
      have c1 := (X.out.below hE).cell 1
      have c2 := (X.out.below hE).cell 2
      simp only [List.getElem?_toArray, List.getElem?_cons_zero, List.getElem?_cons_succ] at c0 c1 c2
      exact gs_same (v := .agg #[.int .i64 r.x, .int .i64 r.y, .int .i64 r.z]) (by go_simp) rfl
    · intro a W hE hd ho
      have e102 : a.tmps[102]?.getD undef = .agg #[.int .i64 0, .int .i64 100000000] := hd 4 102 (by kernel_rfl) (by kernel_rfl)
      have e104 : a.tmps[104]?.getD undef = .agg (plV r) := hd 6 104 (by kernel_rfl) (by kernel_rfl)
      obtain ⟨cs', sa', sc', qb, qo, qc', gb, go, gc', e99, hk⟩ : ∃ cs sa sc qb qo qc gb go gc, a.tmps[99]?.getD undef = .agg cs ∧ TyOk W cs nm sh T sa sn sc qb qo qn qc gb go gn gc := hd 1 99 (by kernel_rfl) (by kernel_rfl)
      obtain ⟨g', o', c', e101, hf, hc1, hc2⟩ : ∃ g o c, a.tmps[101]?.getD undef = .slice (some ⟨g, o, none⟩) (m + 1) c ∧ FixesAt W g o (m + 1) l ∧ m + 1 ≤ c ∧ c ≤ 9223372036854775807 := hd 3 101 (by kernel_rfl) (by kernel_rfl)
      refine gs_call (f := 55) (args := #[.agg cs', .slice (some ⟨g', o', none⟩) (m + 1) c', .agg #[.int .i64 0, .int .i64 100000000], .agg (plV r)]) (by go_simp) ?_
      refine (E1.out _ _ _ _ _ _ _ _ _ _ _ _ W hk hf hc1 hc2).mono ?_
      rintro e w' ⟨rfl, hb⟩
      exact ⟨_, rfl, hb, rfl⟩
    · intro a W hE hd ho
      have e105 : a.tmps[105]?.getD undef = .tuple #[.int .i64 WH, .int .i64 0] := hd 7 105 (by kernel_rfl) (by kernel_rfl)
      exact gs_same (v := .tuple #[.int .i64 WH, .int .i64 0]) (by go_simp) rfl
    · intro a W hE hd ho
      have e97 : a.tmps[97]?.getD undef = .tuple #[.int .i64 WH, .int .i64 0] := hd 8 97 (by kernel_rfl) (by kernel_rfl)
      exact gs_same (v := .int .i64 WH) (by go_simp) rfl
    · intro a W hE hd ho
      have e97 : a.tmps[97]?.getD undef = .tuple #[.int .i64 WH, .int .i64 0] := hd 8 97 (by kernel_rfl) (by kernel_rfl)
      exact gs_same (v := .int .i64 0) (by go_simp) rfl
    · intro a W hE hd ho
      have e106 : a.tmps[106]?.getD undef = .int .i64 WH := hd 9 106 (by kernel_rfl) (by kernel_rfl)
      exact gs_same (v := .int .i64 WH) (by go_simp) rfl
    · intro a W hE hd ho
      have e107 : a.tmps[107]?.getD undef = .int .i64 0 := hd 10 107 (by kernel_rfl) (by kernel_rfl)
      exact gs_same (v := .int .i64 0) (by go_simp) rfl
  intro vt w4 hE hR
  have y0 : vt 0 = .agg cs := hR 0 (by omega)
  obtain ⟨vgv, y1⟩ : ∃ v, vt 1 = v := ⟨_, rfl⟩
  have y2 : vt 2 = .slice (some ⟨b, off, none⟩) (m + 1) c := hR 2 (by omega)
  obtain ⟨vfx, y3⟩ : ∃ v, vt 3 = v := ⟨_, rfl⟩
  have y4 : vt 4 = .agg #[.int .i64 0, .int .i64 100000000] := hR 4 (by omega)
  have y5 : vt 5 = .pointer (some ⟨g5, 0, none⟩) := hR 5 (by omega)
  have y6 : vt 6 = .agg (plV r) := hR 6 (by omega)
  have y7 : vt 7 = .tuple #[.int .i64 WH, .int .i64 0] := hR 7 (by omega)
  have y8 : vt 8 = .tuple #[.int .i64 WH, .int .i64 0] := hR 8 (by omega)
  have y9 : vt 9 = .int .i64 WH := hR 9 (by omega)
  have y10 : vt 10 = .int .i64 0 := hR 10 (by omega)
  have y11 : vt 11 = .int .i64 WH := hR 11 (by omega)
  have y12 : vt 12 = .int .i64 0 := hR 12 (by omega)
  simp only [List.range, List.range.loop, List.foldl_cons, List.foldl_nil, y0, y1, y2, y3, y4, y5, y6, y7, y8, y9, y10, y11, y12, List.drop_succ_cons, List.drop_zero]
  simp only [dstAt, List.getElem?_toArray, List.getElem?_cons_zero, List.getElem?_cons_succ, Option.bind_some, Act.put, List.setIfInBounds_toArray, List.set_cons_zero, List.set_cons_succ]
  clear y0 y1 y2 y3 y4 y5 y6 y7 y8 y9 y10 y11 y12 hR
  have hb := hE.below
  replace HB := Lib.hid (HB.out.trans (hb.mono HB.out.size))
  replace U := Lib.hid (U.out.keep hb)
  replace F := Lib.hid (F.out.keep hb)
  replace TB := Lib.hid (TB.out.keep hb)
  replace HT := Lib.hid (HT.out.keep hb)
  replace HL := Lib.hid (HL.out.keep hb)
  replace TT := Lib.hid (TT.out.below hb)
  replace X := Lib.hid (X.out.below hb)
  clear hb
  clear hE
  go_upto_region 6 with fail
  refine wp_region_allN 14 rfl (by kernel_rfl) (by kernel_rfl) [GR.eq (.agg cs), GR.gv nm sh T sn qn gn, GR.eq (.slice (some ⟨b, off, none⟩) (m + 1) c), GR.trkL (m + 1) l, GR.eq (.int .i64 CU), GR.eq (.agg #[.int .i64 0, .int .i64 CU]), GR.eq (.pointer (some ⟨g5, 0, none⟩)), GR.eq (.agg (plV r)), GR.eq (.tuple #[.int .i64 WA, .int .i64 0]), GR.eq (.tuple #[.int .i64 WA, .int .i64 0]), GR.eq (.int .i64 WA), GR.eq (.int .i64 0), GR.eq (.int .i64 WA), GR.eq (.int .i64 0)] 364 rfl (by kernel_rfl) ?_ ?_
  · refine ⟨?_, ?_, ?_, ?_, ?_, ?_, ?_, ?_, ?_, ?_, ?_, ?_, ?_, ?_, trivial⟩
    · intro a W hE hd ho
      have e3 : a.tmps[3]?.getD undef = .pointer (some ⟨g3, 0, none⟩) := ho 3 (by kernel_rfl)
      exact gs_load 26 (.tmp 3) rfl ⟨g3, 0, none⟩ (.agg cs) ((eval_getD _ _).trans e3) ((TT.out.below hE).lv Tryz.prog Tryz.underlying26 rfl IT.out) rfl
    · intro a W hE hd ho
      have e109 : a.tmps[109]?.getD undef = .agg cs := hd 0 109 (by kernel_rfl) (by kernel_rfl)
      refine gs_call (f := 16) (args := #[.agg cs]) (by go_simp) ?_
      refine (given_any W (HT.out.keep hE) HNG.out.2 HNG.out.1 HSN.out.name).mono ?_
      rintro e w9 ⟨cs', sa', sc', qb, qo, qc', gb, go, gc', rfl, h1, h2⟩
      exact ⟨_, rfl, h2, cs', sa', sc', qb, qo, qc', gb, go, gc', rfl, h1⟩
    · intro a W hE hd ho
      have e1 : a.tmps[1]?.getD undef = .slice (some ⟨b, off, none⟩) (m + 1) c := ho 1 (by kernel_rfl)
      exact gs_same (v := .slice (some ⟨b, off, none⟩) (m + 1) c) (by go_simp) rfl
    · intro a W hE hd ho
      have e111 : a.tmps[111]?.getD undef = .slice (some ⟨b, off, none⟩) (m + 1) c := hd 2 111 (by kernel_rfl) (by kernel_rfl)
      refine gs_call (f := 36) (args := #[.slice (some ⟨b, off, none⟩) (m + 1) c]) (by go_simp) ?_
      refine (fixes_any (some ⟨b, off, none⟩) (m + 1) c l W (HL.out.keep hE) (by omega)).mono ?_
      rintro e w9 ⟨A', c', rfl, h1, h2, h3⟩
      obtain ⟨g', o', rfl, h4⟩ := h1.2 (by omega)
      exact ⟨_, rfl, h3, g', o', c', rfl, h4, h2.1, h2.2⟩
    · intro a W hE hd ho
      have e9 : a.tmps[9]?.getD undef = .int .i64 CU := ho 9 (by kernel_rfl)
      exact gs_same (v := .int .i64 CU) (by go_simp) rfl
    · intro a W hE hd ho
      have e113 : a.tmps[113]?.getD undef = .int .i64 CU := hd 4 113 (by kernel_rfl) (by kernel_rfl)
      exact gs_same (v := .agg #[.int .i64 0, .int .i64 CU]) (by go_simp) rfl
    · intro a W hE hd ho
      have e5 : a.tmps[5]?.getD undef = .pointer (some ⟨g5, 0, none⟩) := ho 5 (by kernel_rfl)
      exact gs_same (v := .pointer (some ⟨g5, 0, none⟩)) (by go_simp) rfl
    · intro a W hE hd ho
      have e115 : a.tmps[115]?.getD undef = .pointer (some ⟨g5, 0, none⟩) := hd 6 115 (by kernel_rfl) (by kernel_rfl)
      have c0 := (X.out.below hE).cell 0
      have c1 := (X.out.below hE).cell 1
      have c2 := (X.out.below hE).cell 2
      simp only [List.getElem?_toArray, List.getElem?_cons_zero, List.getElem?_cons_succ] at c0 c1 c2
      exact gs_same (v := .agg #[.int .i64 r.x, .int .i64 r.y, .int .i64 r.z]) (by go_simp) rfl
    · intro a W hE hd ho
      have e114 : a.tmps[114]?.getD undef = .agg #[.int .i64 0, .int .i64 CU] := hd 5 114 (by kernel_rfl) (by kernel_rfl)
      have e116 : a.tmps[116]?.getD undef = .agg (plV r) := hd 7 116 (by kernel_rfl) (by kernel_rfl)
      obtain ⟨cs', sa', sc', qb, qo, qc', gb, go, gc', e110, hk⟩ : ∃ cs sa sc qb qo qc gb go gc, a.tmps[110]?.getD undef = .agg cs ∧ TyOk W cs nm sh T sa sn sc qb qo qn qc gb go gn gc := hd 1 110 (by kernel_rfl) (by kernel_rfl)
      obtain ⟨g', o', c', e112, hf, hc1, hc2⟩ : ∃ g o c, a.tmps[112]?.getD undef = .slice (some ⟨g, o, none⟩) (m + 1) c ∧ FixesAt W g o (m + 1) l ∧ m + 1 ≤ c ∧ c ≤ 9223372036854775807 := hd 3 112 (by kernel_rfl) (by kernel_rfl)
      refine gs_call (f := 55) (args := #[.agg cs', .slice (some ⟨g', o', none⟩) (m + 1) c', .agg #[.int .i64 0, .int .i64 CU], .agg (plV r)]) (by go_simp) ?_
      refine (E2.out _ _ _ _ _ _ _ _ _ _ _ _ W hk hf hc1 hc2).mono ?_
      rintro e w' ⟨rfl, hb⟩
      exact ⟨_, rfl, hb, rfl⟩
    · intro a W hE hd ho
      have e117 : a.tmps[117]?.getD undef = .tuple #[.int .i64 WA, .int .i64 0] := hd 8 117 (by kernel_rfl) (by kernel_rfl)
      exact gs_same (v := .tuple #[.int .i64 WA, .int .i64 0]) (by go_simp) rfl
    · intro a W hE hd ho
      have e108 : a.tmps[108]?.getD undef = .tuple #[.int .i64 WA, .int .i64 0] := hd 9 108 (by kernel_rfl) (by kernel_rfl)
      exact gs_same (v := .int .i64 WA) (by go_simp) rfl
    · intro a W hE hd ho
      have e108 : a.tmps[108]?.getD undef = .tuple #[.int .i64 WA, .int .i64 0] := hd 9 108 (by kernel_rfl) (by kernel_rfl)
      exact gs_same (v := .int .i64 0) (by go_simp) rfl
    · intro a W hE hd ho
      have e118 : a.tmps[118]?.getD undef = .int .i64 WA := hd 10 118 (by kernel_rfl) (by kernel_rfl)
      exact gs_same (v := .int .i64 WA) (by go_simp) rfl
    · intro a W hE hd ho
      have e119 : a.tmps[119]?.getD undef = .int .i64 0 := hd 11 119 (by kernel_rfl) (by kernel_rfl)
      exact gs_same (v := .int .i64 0) (by go_simp) rfl
  intro vt w5 hE hR
  have y0 : vt 0 = .agg cs := hR 0 (by omega)
  obtain ⟨vgv, y1⟩ : ∃ v, vt 1 = v := ⟨_, rfl⟩
  have y2 : vt 2 = .slice (some ⟨b, off, none⟩) (m + 1) c := hR 2 (by omega)
  obtain ⟨vfx, y3⟩ : ∃ v, vt 3 = v := ⟨_, rfl⟩
  have y4 : vt 4 = .int .i64 CU := hR 4 (by omega)
  have y5 : vt 5 = .agg #[.int .i64 0, .int .i64 CU] := hR 5 (by omega)
  have y6 : vt 6 = .pointer (some ⟨g5, 0, none⟩) := hR 6 (by omega)
  have y7 : vt 7 = .agg (plV r) := hR 7 (by omega)
  have y8 : vt 8 = .tuple #[.int .i64 WA, .int .i64 0] := hR 8 (by omega)
  have y9 : vt 9 = .tuple #[.int .i64 WA, .int .i64 0] := hR 9 (by omega)
  have y10 : vt 10 = .int .i64 WA := hR 10 (by omega)
  have y11 : vt 11 = .int .i64 0 := hR 11 (by omega)
  have y12 : vt 12 = .int .i64 WA := hR 12 (by omega)
  have y13 : vt 13 = .int .i64 0 := hR 13 (by omega)
  simp only [List.range, List.range.loop, List.foldl_cons, List.foldl_nil, y0, y1, y2, y3, y4, y5, y6, y7, y8, y9, y10, y11, y12, y13, List.drop_succ_cons, List.drop_zero]
  simp only [dstAt, List.getElem?_toArray, List.getElem?_cons_zero, List.getElem?_cons_succ, Option.bind_some, Act.put, List.setIfInBounds_toArray, List.set_cons_zero, List.set_cons_succ]
  clear y0 y1 y2 y3 y4 y5 y6 y7 y8 y9 y10 y11 y12 y13 hR
  have hb := hE.below
  replace HB := Lib.hid (HB.out.trans (hb.mono HB.out.size))
  replace U := Lib.hid (U.out.keep hb)
  replace F := Lib.hid (F.out.keep hb)
  replace TB := Lib.hid (TB.out.keep hb)
  replace HT := Lib.hid (HT.out.keep hb)
  replace HL := Lib.hid (HL.out.keep hb)
  replace TT := Lib.hid (TT.out.below hb)
  replace X := Lib.hid (X.out.below hb)
  clear hb
  clear hE
  go_upto_region 7 with fail
  refine wp_region_allN 14 rfl (by kernel_rfl) (by kernel_rfl) [GR.eq (.agg cs), GR.gv nm sh T sn qn gn, GR.eq (.slice (some ⟨b, off, none⟩) (m + 1) c), GR.trkL (m + 1) l, GR.eq (.int .i64 CU), GR.eq (.agg #[.int .i64 CU, .int .i64 100000000]), GR.eq (.pointer (some ⟨g5, 0, none⟩)), GR.eq (.agg (plV r)), GR.eq (.tuple #[.int .i64 WB, .int .i64 0]), GR.eq (.tuple #[.int .i64 WB, .int .i64 0]), GR.eq (.int .i64 WB), GR.eq (.int .i64 0), GR.eq (.int .i64 WB), GR.eq (.int .i64 0)] 364 rfl (by kernel_rfl) ?_ ?_
  · refine ⟨?_, ?_, ?_, ?_, ?_, ?_, ?_, ?_, ?_, ?_, ?_, ?_, ?_, ?_, trivial⟩
    · intro a W hE hd ho
      have e3 : a.tmps[3]?.getD undef = .pointer (some ⟨g3, 0, none⟩) := ho 3 (by kernel_rfl)
      exact gs_load 26 (.tmp 3) rfl ⟨g3, 0, none⟩ (.agg cs) ((eval_getD _ _).trans e3) ((TT.out.below hE).lv Tryz.prog Tryz.underlying26 rfl IT.out) rfl
    · intro a W hE hd ho
      have e121 : a.tmps[121]?.getD undef = .agg cs := hd 0 121 (by kernel_rfl) (by kernel_rfl)
      refine gs_call (f := 16) (args := #[.agg cs]) (by go_simp) ?_
      refine (given_any W (HT.out.keep hE) HNG.out.2 HNG.out.1 HSN.out.name).mono ?_
      rintro e w9 ⟨cs', sa', sc', qb, qo, qc', gb, go, gc', rfl, h1, h2⟩
      exact ⟨_, rfl, h2, cs', sa', sc', qb, qo, qc', gb, go, gc', rfl, h1⟩
    · intro a W hE hd ho
      have e1 : a.tmps[1]?.getD undef = .slice (some ⟨b, off, none⟩) (m + 1) c := ho 1 (by kernel_rfl)
      exact gs_same (v := .slice (some ⟨b, off, none⟩) (m + 1) c) (by go_simp) rfl
    · intro a W hE hd ho
      have e123 : a.tmps[123]?.getD undef = .slice (some ⟨b, off, none⟩) (m + 1) c := hd 2 123 (by kernel_rfl) (by kernel_rfl)
      refine gs_call (f := 36) (args := #[.slice (some ⟨b, off, none⟩) (m + 1) c]) (by go_simp) ?_
      refine (fixes_any (some ⟨b, off, none⟩) (m + 1) c l W (HL.out.keep hE) (by omega)).mono ?_
      rintro e w9 ⟨A', c', rfl, h1, h2, h3⟩
      obtain ⟨g', o', rfl, h4⟩ := h1.2 (by omega)
      exact ⟨_, rfl, h3, g', o', c', rfl, h4, h2.1, h2.2⟩
    · intro a W hE hd ho
      have e9 : a.tmps[9]?.getD undef = .int .i64 CU := ho 9 (by kernel_rfl)
      exact gs_same (v := .int .i64 CU) (by go_simp) rfl
    · intro a W hE hd ho
      have e125 : a.tmps[125]?.getD undef = .int .i64 CU := hd 4 125 (by kernel_rfl) (by kernel_rfl)
      exact gs_same (v := .agg #[.int .i64 CU, .int .i64 100000000]) (by go_simp) rfl
    · intro a W hE hd ho
      have e5 : a.tmps[5]?.getD undef = .pointer (some ⟨g5, 0, none⟩) := ho 5 (by kernel_rfl)
      exact gs_same (v := .pointer (some ⟨g5, 0, none⟩)) (by go_simp) rfl
    · intro a W hE hd ho
      have e127 : a.tmps[127]?.getD undef = .pointer (some ⟨g5, 0, none⟩) := hd 6 127 (by kernel_rfl) (by kernel_rfl)
      have c0 := (X.out.below hE).cell 0
      have c1 := (X.out.below hE).cell 1
      have c2 := (X.out.below hE).cell 2
      simp only [List.getElem?_toArray, List.getElem?_cons_zero, List.getElem?_cons_succ] at c0 c1 c2
      exact gs_same (v := .agg #[.int .i64 r.x, .int .i64 r.y, .int .i64 r.z]) (by go_simp) rfl
    · intro a W hE hd ho
      have e126 : a.tmps[126]?.getD undef = .agg #[.int .i64 CU, .int .i64 100000000] := hd 5 126 (by kernel_rfl) (by kernel_rfl)
      have e128 : a.tmps[128]?.getD undef = .agg (plV r) := hd 7 128 (by kernel_rfl) (by kernel_rfl)
      obtain ⟨cs', sa', sc', qb, qo, qc', gb, go, gc', e122, hk⟩ : ∃ cs sa sc qb qo qc gb go gc, a.tmps[122]?.getD undef = .agg cs ∧ TyOk W cs nm sh T sa sn sc qb qo qn qc gb go gn gc := hd 1 122 (by kernel_rfl) (by kernel_rfl)
      obtain ⟨g', o', c', e124, hf, hc1, hc2⟩ : ∃ g o c, a.tmps[124]?.getD undef = .slice (some ⟨g, o, none⟩) (m + 1) c ∧ FixesAt W g o (m + 1) l ∧ m + 1 ≤ c ∧ c ≤ 9223372036854775807 := hd 3 124 (by kernel_rfl) (by kernel_rfl)
      refine gs_call (f := 55) (args := #[.agg cs', .slice (some ⟨g', o', none⟩) (m + 1) c', .agg #[.int .i64 CU, .int .i64 100000000], .agg (plV r)]) (by go_simp) ?_
      refine (E3.out _ _ _ _ _ _ _ _ _ _ _ _ W hk hf hc1 hc2).mono ?_
      rintro e w' ⟨rfl, hb⟩
      exact ⟨_, rfl, hb, rfl⟩
    · intro a W hE hd ho
      have e129 : a.tmps[129]?.getD undef = .tuple #[.int .i64 WB, .int .i64 0] := hd 8 129 (by kernel_rfl) (by kernel_rfl)
      exact gs_same (v := .tuple #[.int .i64 WB, .int .i64 0]) (by go_simp) rfl
    · intro a W hE hd ho
      have e120 : a.tmps[120]?.getD undef = .tuple #[.int .i64 WB, .int .i64 0] := hd 9 120 (by kernel_rfl) (by kernel_rfl)
      exact gs_same (v := .int .i64 WB) (by go_simp) rfl
    · intro a W hE hd ho
      have e120 : a.tmps[120]?.getD undef = .tuple #[.int .i64 WB, .int .i64 0] := hd 9 120 (by kernel_rfl) (by kernel_rfl)
      exact gs_same (v := .int .i64 0) (by go_simp) rfl
    · intro a W hE hd ho
      have e130 : a.tmps[130]?.getD undef = .int .i64 WB := hd 10 130 (by kernel_rfl) (by kernel_rfl)
      exact gs_same (v := .int .i64 WB) (by go_simp) rfl
    · intro a W hE hd ho
      have e131 : a.tmps[131]?.getD undef = .int .i64 0 := hd 11 131 (by kernel_rfl) (by kernel_rfl)
      exact gs_same (v := .int .i64 0) (by go_simp) rfl
  intro vt w6 hE hR
  have y0 : vt 0 = .agg cs := hR 0 (by omega)
  obtain ⟨vgv, y1⟩ : ∃ v, vt 1 = v := ⟨_, rfl⟩
  have y2 : vt 2 = .slice (some ⟨b, off, none⟩) (m + 1) c := hR 2 (by omega)
  obtain ⟨vfx, y3⟩ : ∃ v, vt 3 = v := ⟨_, rfl⟩
  have y4 : vt 4 = .int .i64 CU := hR 4 (by omega)
  have y5 : vt 5 = .agg #[.int .i64 CU, .int .i64 100000000] := hR 5 (by omega)
  have y6 : vt 6 = .pointer (some ⟨g5, 0, none⟩) := hR 6 (by omega)
  have y7 : vt 7 = .agg (plV r) := hR 7 (by omega)
  have y8 : vt 8 = .tuple #[.int .i64 WB, .int .i64 0] := hR 8 (by omega)
  have y9 : vt 9 = .tuple #[.int .i64 WB, .int .i64 0] := hR 9 (by omega)
  have y10 : vt 10 = .int .i64 WB := hR 10 (by omega)
  have y11 : vt 11 = .int .i64 0 := hR 11 (by omega)
  have y12 : vt 12 = .int .i64 WB := hR 12 (by omega)
  have y13 : vt 13 = .int .i64 0 := hR 13 (by omega)
  simp only [List.range, List.range.loop, List.foldl_cons, List.foldl_nil, y0, y1, y2, y3, y4, y5, y6, y7, y8, y9, y10, y11, y12, y13, List.drop_succ_cons, List.drop_zero]
  simp only [dstAt, List.getElem?_toArray, List.getElem?_cons_zero, List.getElem?_cons_succ, Option.bind_some, Act.put, List.setIfInBounds_toArray, List.set_cons_zero, List.set_cons_succ]
  clear y0 y1 y2 y3 y4 y5 y6 y7 y8 y9 y10 y11 y12 y13 hR
  have hb := hE.below
  replace HB := Lib.hid (HB.out.trans (hb.mono HB.out.size))
  replace U := Lib.hid (U.out.keep hb)
  replace F := Lib.hid (F.out.keep hb)
  replace TB := Lib.hid (TB.out.keep hb)
  replace HT := Lib.hid (HT.out.keep hb)
  replace HL := Lib.hid (HL.out.keep hb)
  replace TT := Lib.hid (TT.out.below hb)
  replace X := Lib.hid (X.out.below hb)
  clear hb
  clear hE
  go_upto_region 8 with fail
  refine wp_region_allN 15 rfl (by kernel_rfl) (by kernel_rfl) [GR.eq (.agg cs), GR.gv nm sh T sn qn gn, GR.eq (.slice (some ⟨b, off, none⟩) (m + 1) c), GR.trkL (m + 1) l, GR.eq (.agg #[.int .i64 0, .int .i64 100000000]), GR.eq (.pointer (some ⟨g5, 0, none⟩)), GR.eq (.agg (plV r)), GR.eq (.tuple #[.int .i64 MX, .int .i64 AT, .int .i64 0]), GR.eq (.tuple #[.int .i64 MX, .int .i64 AT, .int .i64 0]), GR.eq (.int .i64 MX), GR.eq (.int .i64 AT), GR.eq (.int .i64 0), GR.eq (.int .i64 MX), GR.eq (.int .i64 AT), GR.eq (.int .i64 0)] 364 rfl (by kernel_rfl) ?_ ?_
  · refine ⟨?_, ?_, ?_, ?_, ?_, ?_, ?_, ?_, ?_, ?_, ?_, ?_, ?_, ?_, ?_, trivial⟩
    · intro a W hE hd ho
      have e3 : a.tmps[3]?.getD undef = .pointer (some ⟨g3, 0, none⟩) := ho 3 (by kernel_rfl)
      exact gs_load 26 (.tmp 3) rfl ⟨g3, 0, none⟩ (.agg cs) ((eval_getD _ _).trans e3) ((TT.out.below hE).lv Tryz.prog Tryz.underlying26 rfl IT.out) rfl
    · intro a W hE hd ho
      have e133 : a.tmps[133]?.getD undef = .agg cs := hd 0 133 (by kernel_rfl) (by kernel_rfl)
      refine gs_call (f := 16) (args := #[.agg cs]) (by go_simp) ?_
      refine (given_any W (HT.out.keep hE) HNG.out.2 HNG.out.1 HSN.out.name).mono ?_
      rintro e w9 ⟨cs', sa', sc', qb, qo, qc', gb, go, gc', rfl, h1, h2⟩
      exact ⟨_, rfl, h2, cs', sa', sc', qb, qo, qc', gb, go, gc', rfl, h1⟩
    · intro a W hE hd ho
      have e1 : a.tmps[1]?.getD undef = .slice (some ⟨b, off, none⟩) (m + 1) c := ho 1 (by kernel_rfl)
      exact gs_same (v := .slice (some ⟨b, off, none⟩) (m + 1) c) (by go_simp) rfl
    · intro a W hE hd ho
      have e135 : a.tmps[135]?.getD undef = .slice (some ⟨b, off, none⟩) (m + 1) c := hd 2 135 (by kernel_rfl) (by kernel_rfl)
      refine gs_call (f := 36) (args := #[.slice (some ⟨b, off, none⟩) (m + 1) c]) (by go_simp) ?_
      refine (fixes_any (some ⟨b, off, none⟩) (m + 1) c l W (HL.out.keep hE) (by omega)).mono ?_
      rintro e w9 ⟨A', c', rfl, h1, h2, h3⟩
      obtain ⟨g', o', rfl, h4⟩ := h1.2 (by omega)
      exact ⟨_, rfl, h3, g', o', c', rfl, h4, h2.1, h2.2⟩
    · intro a W hE hd ho
      refine gs_call (f := 79) (args := #[]) (by go_simp) ?_
      refine (all_any W).mono ?_
      rintro e w' ⟨rfl, hb⟩
      exact ⟨_, rfl, hb, rfl⟩
    · intro a W hE hd ho
      have e5 : a.tmps[5]?.getD undef = .pointer (some ⟨g5, 0, none⟩) := ho 5 (by kernel_rfl)
      exact gs_same (v := .pointer (some ⟨g5, 0, none⟩)) (by go_simp) rfl
    · intro a W hE hd ho
      have e138 : a.tmps[138]?.getD undef = .pointer (some ⟨g5, 0, none⟩) := hd 5 138 (by kernel_rfl) (by kernel_rfl)
      have c0 := (X.out.below hE).cell 0
      have c1 := (X.out.below hE).cell 1
      have c2 := (X.out.below hE).cell 2
      simp only [List.getElem?_toArray, List.getElem?_cons_zero, List.getElem?_cons_succ] at c0 c1 c2
      exact gs_same (v := .agg #[.int .i64 r.x, .int .i64 r.y, .int .i64 r.z]) (by go_simp) rfl
    · intro a W hE hd ho
      have e137 : a.tmps[137]?.getD undef = .agg #[.int .i64 0, .int .i64 100000000] := hd 4 137 (by kernel_rfl) (by kernel_rfl)
      have e139 : a.tmps[139]?.getD undef = .agg (plV r) := hd 6 139 (by kernel_rfl) (by kernel_rfl)
      obtain ⟨cs', sa', sc', qb, qo, qc', gb, go, gc', e134, hk⟩ : ∃ cs sa sc qb qo qc gb go gc, a.tmps[134]?.getD undef = .agg cs ∧ TyOk W cs nm sh T sa sn sc qb qo qn qc gb go gn gc := hd 1 134 (by kernel_rfl) (by kernel_rfl)
      obtain ⟨g', o', c', e136, hf, hc1, hc2⟩ : ∃ g o c, a.tmps[136]?.getD undef = .slice (some ⟨g, o, none⟩) (m + 1) c ∧ FixesAt W g o (m + 1) l ∧ m + 1 ≤ c ∧ c ≤ 9223372036854775807 := hd 3 136 (by kernel_rfl) (by kernel_rfl)
      refine gs_call (f := 56) (args := #[.agg cs', .slice (some ⟨g', o', none⟩) (m + 1) c', .agg #[.int .i64 0, .int .i64 100000000], .agg (plV r)]) (by go_simp) ?_
      refine (E4.out _ _ _ _ _ _ _ _ _ _ _ _ W hk hf hc1 hc2).mono ?_
      rintro e w' ⟨rfl, hb⟩
      exact ⟨_, rfl, hb, rfl⟩
    · intro a W hE hd ho
      have e140 : a.tmps[140]?.getD undef = .tuple #[.int .i64 MX, .int .i64 AT, .int .i64 0] := hd 7 140 (by kernel_rfl) (by kernel_rfl)
      exact gs_same (v := .tuple #[.int .i64 MX, .int .i64 AT, .int .i64 0]) (by go_simp) rfl
    · intro a W hE hd ho
      have e132 : a.tmps[132]?.getD undef = .tuple #[.int .i64 MX, .int .i64 AT, .int .i64 0] := hd 8 132 (by kernel_rfl) (by kernel_rfl)
      exact gs_same (v := .int .i64 MX) (by go_simp) rfl
    · intro a W hE hd ho
      have e132 : a.tmps[132]?.getD undef = .tuple #[.int .i64 MX, .int .i64 AT, .int .i64 0] := hd 8 132 (by kernel_rfl) (by kernel_rfl)
      exact gs_same (v := .int .i64 AT) (by go_simp) rfl
    · intro a W hE hd ho
      have e132 : a.tmps[132]?.getD undef = .tuple #[.int .i64 MX, .int .i64 AT, .int .i64 0] := hd 8 132 (by kernel_rfl) (by kernel_rfl)
      exact gs_same (v := .int .i64 0) (by go_simp) rfl
    · intro a W hE hd ho
      have e141 : a.tmps[141]?.getD undef = .int .i64 MX := hd 9 141 (by kernel_rfl) (by kernel_rfl)
      exact gs_same (v := .int .i64 MX) (by go_simp) rfl
    · intro a W hE hd ho
      have e142 : a.tmps[142]?.getD undef = .int .i64 AT := hd 10 142 (by kernel_rfl) (by kernel_rfl)
      exact gs_same (v := .int .i64 AT) (by go_simp) rfl
    · intro a W hE hd ho
      have e143 : a.tmps[143]?.getD undef = .int .i64 0 := hd 11 143 (by kernel_rfl) (by kernel_rfl)
      exact gs_same (v := .int .i64 0) (by go_simp) rfl
  intro vt w7 hE hR
  have y0 : vt 0 = .agg cs := hR 0 (by omega)
  obtain ⟨vgv, y1⟩ : ∃ v, vt 1 = v := ⟨_, rfl⟩
  have y2 : vt 2 = .slice (some ⟨b, off, none⟩) (m + 1) c := hR 2 (by omega)
  obtain ⟨vfx, y3⟩ : ∃ v, vt 3 = v := ⟨_, rfl⟩
  have y4 : vt 4 = .agg #[.int .i64 0, .int .i64 100000000] := hR 4 (by omega)
  have y5 : vt 5 = .pointer (some ⟨g5, 0, none⟩) := hR 5 (by omega)
  have y6 : vt 6 = .agg (plV r) := hR 6 (by omega)
  have y7 : vt 7 = .tuple #[.int .i64 MX, .int .i64 AT, .int .i64 0] := hR 7 (by omega)
  have y8 : vt 8 = .tuple #[.int .i64 MX, .int .i64 AT, .int .i64 0] := hR 8 (by omega)
  have y9 : vt 9 = .int .i64 MX := hR 9 (by omega)
  have y10 : vt 10 = .int .i64 AT := hR 10 (by omega)
  have y11 : vt 11 = .int .i64 0 := hR 11 (by omega)
  have y12 : vt 12 = .int .i64 MX := hR 12 (by omega)
  have y13 : vt 13 = .int .i64 AT := hR 13 (by omega)
  have y14 : vt 14 = .int .i64 0 := hR 14 (by omega)
  simp only [List.range, List.range.loop, List.foldl_cons, List.foldl_nil, y0, y1, y2, y3, y4, y5, y6, y7, y8, y9, y10, y11, y12, y13, y14, List.drop_succ_cons, List.drop_zero]
  simp only [dstAt, List.getElem?_toArray, List.getElem?_cons_zero, List.getElem?_cons_succ, Option.bind_some, Act.put, List.setIfInBounds_toArray, List.set_cons_zero, List.set_cons_succ]
  clear y0 y1 y2 y3 y4 y5 y6 y7 y8 y9 y10 y11 y12 y13 y14 hR
  have hb := hE.below
  replace HB := Lib.hid (HB.out.trans (hb.mono HB.out.size))
  replace U := Lib.hid (U.out.keep hb)
  replace F := Lib.hid (F.out.keep hb)
  replace TB := Lib.hid (TB.out.keep hb)
  replace HT := Lib.hid (HT.out.keep hb)
  replace HL := Lib.hid (HL.out.keep hb)
  replace TT := Lib.hid (TT.out.below hb)
  replace X := Lib.hid (X.out.below hb)
  clear hb
  clear hE
  go_upto_region 9 with fail
  refine wp_region_growQ 11 9 (by kernel_rfl) (by kernel_rfl) [GR.eq (.agg cs), GR.gv nm sh T sn qn gn, GR.eq (.slice (some ⟨b, off, none⟩) (m + 1) c), GR.trkL (m + 1) l, GR.eq (.pointer (some ⟨g5, 0, none⟩)), GR.eq (.agg (plV r)), GR.eq (.tuple #[.agg #[.int .i64 LO, .int .i64 HI], .int .i64 0]), GR.eq (.tuple #[.agg #[.int .i64 LO, .int .i64 HI], .int .i64 0]), GR.eq (.agg #[.int .i64 LO, .int .i64 HI]), GR.eq (.int .i64 0), GR.box w7.heap.size 100 #[.int .i64 0, .int .i64 0]] 364 rfl (by kernel_rfl) (fun c a d v w h => by cases d <;> exact h) ?_ ?_ ?_
  · intro oq a W hoq hE hd
    obtain rfl := Option.some.inj hoq.symm
    have e144 : a.tmps[144]?.getD undef = .tuple #[.agg #[.int .i64 LO, .int .i64 HI], .int .i64 0] := hd 7 144 (by kernel_rfl) (by kernel_rfl)
    exact ⟨.int .i64 0, fun w' => by go_simp, rfl⟩
  · refine ⟨?_, ?_, ?_, ?_, ?_, ?_, ?_, ?_, ?_, ?_, ?_, trivial⟩
    · intro a W hE hd ho
      have e3 : a.tmps[3]?.getD undef = .pointer (some ⟨g3, 0, none⟩) := ho 3 (by kernel_rfl)
      exact gs_load 26 (.tmp 3) rfl ⟨g3, 0, none⟩ (.agg cs) ((eval_getD _ _).trans e3) ((TT.out.below hE).lv Tryz.prog Tryz.underlying26 rfl IT.out) rfl
    · intro a W hE hd ho
      have e145 : a.tmps[145]?.getD undef = .agg cs := hd 0 145 (by kernel_rfl) (by kernel_rfl)
      refine gs_call (f := 16) (args := #[.agg cs]) (by go_simp) ?_
      refine (given_any W (HT.out.keep hE) HNG.out.2 HNG.out.1 HSN.out.name).mono ?_
      rintro e w9 ⟨cs', sa', sc', qb, qo, qc', gb, go, gc', rfl, h1, h2⟩
      exact ⟨_, rfl, h2, cs', sa', sc', qb, qo, qc', gb, go, gc', rfl, h1⟩
    · intro a W hE hd ho
      have e1 : a.tmps[1]?.getD undef = .slice (some ⟨b, off, none⟩) (m + 1) c := ho 1 (by kernel_rfl)
      exact gs_same (v := .slice (some ⟨b, off, none⟩) (m + 1) c) (by go_simp) rfl
    · intro a W hE hd ho
      have e147 : a.tmps[147]?.getD undef = .slice (some ⟨b, off, none⟩) (m + 1) c := hd 2 147 (by kernel_rfl) (by kernel_rfl)
      refine gs_call (f := 36) (args := #[.slice (some ⟨b, off, none⟩) (m + 1) c]) (by go_simp) ?_
      refine (fixes_any (some ⟨b, off, none⟩) (m + 1) c l W (HL.out.keep hE) (by omega)).mono ?_
      rintro e w9 ⟨A', c', rfl, h1, h2, h3⟩
      obtain ⟨g', o', rfl, h4⟩ := h1.2 (by omega)
      exact ⟨_, rfl, h3, g', o', c', rfl, h4, h2.1, h2.2⟩
    · intro a W hE hd ho
      have e5 : a.tmps[5]?.getD undef = .pointer (some ⟨g5, 0, none⟩) := ho 5 (by kernel_rfl)
      exact gs_same (v := .pointer (some ⟨g5, 0, none⟩)) (by go_simp) rfl
    · intro a W hE hd ho
      have e149 : a.tmps[149]?.getD undef = .pointer (some ⟨g5, 0, none⟩) := hd 4 149 (by kernel_rfl) (by kernel_rfl)
      have c0 := (X.out.below hE).cell 0
      have c1 := (X.out.below hE).cell 1
      have c2 := (X.out.below hE).cell 2
      simp only [List.getElem?_toArray, List.getElem?_cons_zero, List.getElem?_cons_succ] at c0 c1 c2
      exact gs_same (v := .agg #[.int .i64 r.x, .int .i64 r.y, .int .i64 r.z]) (by go_simp) rfl
    · intro a W hE hd ho
      have e150 : a.tmps[150]?.getD undef = .agg (plV r) := hd 5 150 (by kernel_rfl) (by kernel_rfl)
      obtain ⟨cs', sa', sc', qb, qo, qc', gb, go, gc', e146, hk⟩ : ∃ cs sa sc qb qo qc gb go gc, a.tmps[146]?.getD undef = .agg cs ∧ TyOk W cs nm sh T sa sn sc qb qo qn qc gb go gn gc := hd 1 146 (by kernel_rfl) (by kernel_rfl)
      obtain ⟨g', o', c', e148, hf, hc1, hc2⟩ : ∃ g o c, a.tmps[148]?.getD undef = .slice (some ⟨g, o, none⟩) (m + 1) c ∧ FixesAt W g o (m + 1) l ∧ m + 1 ≤ c ∧ c ≤ 9223372036854775807 := hd 3 148 (by kernel_rfl) (by kernel_rfl)
      refine gs_call (f := 57) (args := #[.agg cs', .slice (some ⟨g', o', none⟩) (m + 1) c', .agg (plV r)]) (by go_simp) ?_
      refine (E5.out _ _ _ _ _ _ _ _ _ _ _ _ W hk hf hc1 hc2).mono ?_
      rintro e w' ⟨rfl, hb⟩
      exact ⟨_, rfl, hb, rfl⟩
    · intro a W hE hd ho
      have e151 : a.tmps[151]?.getD undef = .tuple #[.agg #[.int .i64 LO, .int .i64 HI], .int .i64 0] := hd 6 151 (by kernel_rfl) (by kernel_rfl)
      exact gs_same (v := .tuple #[.agg #[.int .i64 LO, .int .i64 HI], .int .i64 0]) (by go_simp) rfl
    · intro a W hE hd ho
      have e144 : a.tmps[144]?.getD undef = .tuple #[.agg #[.int .i64 LO, .int .i64 HI], .int .i64 0] := hd 7 144 (by kernel_rfl) (by kernel_rfl)
      exact gs_same (v := .agg #[.int .i64 LO, .int .i64 HI]) (by go_simp) rfl
    · intro a W hE hd ho
      have e144 : a.tmps[144]?.getD undef = .tuple #[.agg #[.int .i64 LO, .int .i64 HI], .int .i64 0] := hd 7 144 (by kernel_rfl) (by kernel_rfl)
      exact gs_same (v := .int .i64 0) (by go_simp) rfl
    · intro a W hE hd ho
      exact gs_val (v := .pointer (some ⟨W.heap.size, 0, none⟩)) (W' := W.alloc (.cells #[.int .i64 0, .int .i64 0] 100)) (by go_simp) ((Below.refl _ _).alloc (Nat.le_refl _) _) ⟨_, rfl, Blk.new _ _ _, hE.below.size⟩
  intro vt w8 hE hR
  have y0 : vt 0 = .agg cs := hR 0 (by omega)
  obtain ⟨vgv, y1⟩ : ∃ v, vt 1 = v := ⟨_, rfl⟩
  have y2 : vt 2 = .slice (some ⟨b, off, none⟩) (m + 1) c := hR 2 (by omega)
  obtain ⟨vfx, y3⟩ : ∃ v, vt 3 = v := ⟨_, rfl⟩
  have y4 : vt 4 = .pointer (some ⟨g5, 0, none⟩) := hR 4 (by omega)
  have y5 : vt 5 = .agg (plV r) := hR 5 (by omega)
  have y6 : vt 6 = .tuple #[.agg #[.int .i64 LO, .int .i64 HI], .int .i64 0] := hR 6 (by omega)
  have y7 : vt 7 = .tuple #[.agg #[.int .i64 LO, .int .i64 HI], .int .i64 0] := hR 7 (by omega)
  have y8 : vt 8 = .agg #[.int .i64 LO, .int .i64 HI] := hR 8 (by omega)
  have y9 : vt 9 = .int .i64 0 := hR 9 (by omega)
  obtain ⟨g19, y10, hb19, hg19⟩ : ∃ g, vt 10 = .pointer (some ⟨g, 0, none⟩) ∧ Blk w8 g 100 #[.int .i64 0, .int .i64 0] ∧ w7.heap.size ≤ g := hR 10 (by omega)
  simp only [List.range, List.range.loop, List.foldl_cons, List.foldl_nil, y0, y1, y2, y3, y4, y5, y6, y7, y8, y9, y10, List.drop_succ_cons, List.drop_zero]
  simp only [dstAt, List.getElem?_toArray, List.getElem?_cons_zero, List.getElem?_cons_succ, Option.bind_some, Act.put, List.setIfInBounds_toArray, List.set_cons_zero, List.set_cons_succ]
  clear y0 y1 y2 y3 y4 y5 y6 y7 y8 y9 y10 hR
  refine any_next (fuel := 1) (k := 11) (by kernel_rfl) rfl rfl ?_
  refine wp_store_row 100 (.tmp 19) (.tmp 152) rfl g19 #[.int .i64 LO, .int .i64 HI] rfl rfl 100 _ hb19 (by kernel_rfl) rfl (by simp [Value.oneCell']) ?_
  obtain ⟨w9, hw9⟩ : ∃ W, W = w8.setRow g19 #[.int .i64 LO, .int .i64 HI] := ⟨_, rfl⟩
  rw [← hw9]
  have hb : Below w7.heap.size w7 w9 := by rw [hw9]; exact hE.below.setRow' hg19 _
  have BI : Hid (Blk w9 g19 100 #[.int .i64 LO, .int .i64 HI]) := by show Blk _ _ _ _; rw [hw9]; exact hb19.setRow _
  clear hw9 hE hb19 hg19 E2 E3 E4 E5
  replace HB := Lib.hid (HB.out.trans (hb.mono HB.out.size))
  replace U := Lib.hid (U.out.keep hb)
  replace F := Lib.hid (F.out.keep hb)
  replace TB := Lib.hid (TB.out.keep hb)
  replace HT := Lib.hid (HT.out.keep hb)
  replace HL := Lib.hid (HL.out.keep hb)
  replace TT := Lib.hid (TT.out.below hb)
  replace X := Lib.hid (X.out.below hb)
  clear hb
  try simp only [Act.put, List.setIfInBounds_toArray, List.set_cons_zero, List.set_cons_succ]
  refine any_take (fuel := 0) (k := 12) (v := .int .i64 0) rfl (by kernel_rfl) (by kernel_rfl) (by kernel_rfl) (fun _ _ _ h => h) rfl (fun w => by go_simp) ?_
  simp only [Act.put, List.setIfInBounds_toArray, List.set_cons_zero, List.set_cons_succ]
  refine any_done (by kernel_rfl) ?_
  have nm1 := HNUM.out.1
  obtain ⟨q1, q2, q3, q4, q5, q6, q7, q8⟩ := HNUM.out
  have i0 := BI.out.cell 0
  have i1 := BI.out.cell 1
  simp only [List.getElem?_toArray, List.getElem?_cons_zero, List.getElem?_cons_succ] at i0 i1
  have v1 : IntKind.i64.wrap (WA + WB) = WH := by rw [q1]; exact IntWalk.i64_in _ (by omega)
  have n1 : ¬ WH < LO := by omega
  have n2 : ¬ HI < WH := by omega
  have n3 : ¬ AT < FR := by omega
  have n4 : ¬ TO ≤ AT := by omega
  clear nm1 q1 q2 q3 q4 q5 q6 q7 q8
  go_upto_region 12 with fail
  clear v1 n1 n2 n3 n4 i0 i1 BI
  go_wp2_with fail
  go_loopw [21, 22, 23, 24, 25, 26] (fun sm nn _ _ _ _ wr => ∃ k : Nat, k ≤ M ∧ nn = .int .i64 (FR + k) ∧ sm = .int .i64 (Bell.sumF (Bell.heardAt T l r) FR k) ∧ Below w9.heap.size w9 wr) (fun _ nn _ _ _ _ _ => (TO - intOf nn).toNat)
  case atStart => exact ⟨0, Nat.zero_le _, by simp, rfl, Below.refl _ _⟩
  case round =>
    obtain ⟨k, hk, rfl, rfl, hb⟩ := hrel
    have hmm := HMM.out
    have hsp := HSP.out
    by_cases hlt : k < M
    · have HBW := Lib.hid hb
      have hlt2 : FR + (k : Int) < TO := by omega
      obtain ⟨NN, hNN⟩ : ∃ N : Int, N = FR + (k : Int) := ⟨_, rfl⟩
      obtain ⟨S, hS⟩ : ∃ S, S = Bell.stAt l NN := ⟨_, rfl⟩
      obtain ⟨H, hH⟩ : ∃ H, H = Bell.heardAt T l r NN := ⟨_, rfl⟩
      have HH1 : Hid (H = Bell.heardOf T S r) := by show _ = _; rw [hH, hS]; rfl
      have t1 : (Bell.fxAt l 0).t ≤ NN := by rw [← HFR.out]; omega
      have t2 : NN < (Bell.fxAt l (l.length - 1)).t := by rw [HNL.out]; show _ < (Bell.fxAt l m).t; rw [← HTO.out]; omega
      have HGS : Hid (Bell.GoodSt S) := by show Bell.GoodSt _; rw [hS]; exact Bell.state_ok HGR.out t1 t2
      have HAQ : Hid (∀ (g o c : Nat) (W : World), FixesAt W g o (m + 1) l → Calls Tryz.prog 35 #[.slice (some ⟨g, o, none⟩) (m + 1) c, .int .i64 NN] W fun e w' => e = .returned (.tuple #[.agg (stV S), .int .i64 0]) ∧ Below W.heap.size W w') := fun g o c W hf => by
        have h := At_ok g o (m + 1) c l NN W hf HGR.out t1 t2
        rwa [← hS] at h
      have hrow := HROW.out k hlt
      rw [← hNN, ← hH] at hrow
      have HRW := Lib.hid hrow
      have HSN2 : Hid (Bell.sumF (Bell.heardAt T l r) FR k + H = Bell.sumF (Bell.heardAt T l r) FR (k + 1)) := by show _ = _; rw [hH, hNN]; rfl
      have HNN : Hid (NN = FR + (k : Int)) := hNN
      obtain ⟨SU, hSU⟩ : ∃ s, s = Bell.sumF (Bell.heardAt T l r) FR k := ⟨_, rfl⟩
      have HRG : Hid (0 ≤ H ∧ H ≤ 200000000) := by show _ ∧ _; rw [hH]; exact Bell.heard_range HNG.out.2.ty _ r
      have HSR : Hid (0 ≤ SU ∧ SU ≤ 200000000 * (k : Int)) := by show _ ∧ _; rw [hSU]; exact ⟨Bell.sumF_nonneg fun j => (Bell.heard_range HNG.out.2.ty _ r).1, by have := Bell.sumF_upto (f := Bell.heardAt T l r) (a := FR) (c := 200000000) (n := k) (fun j => (Bell.heard_range HNG.out.2.ty _ r).2); omega⟩
      rw [← hSU] at HSN2 ⊢
      rw [← hNN] at hlt2 ⊢
      have hkM : k ≤ 200 := by omega
      clear hb hNN hS hH t1 t2 hrow hSU hmm hsp
      go_wp2_with fail
      refine (fixes_any (some ⟨b, off, none⟩) (m + 1) c l wr (HL.out.keep HBW.out) (by omega)).mono ?_
      rintro e wa ⟨Af, cf, rfl, h1, h2, hb⟩
      obtain ⟨gf, of, rfl, hff⟩ := h1.2 (by omega)
      have HFF := Lib.hid hff
      clear h1 h2 hff
      replace HBW := Lib.hid (HBW.out.trans (hb.mono HBW.out.size))
      clear hb
      go_wp2_with fail
      refine (HAQ.out gf of cf wa HFF.out).mono ?_
      rintro e wb ⟨rfl, hb⟩
      replace HBW := Lib.hid (HBW.out.trans (hb.mono HBW.out.size))
      clear hb HFF HAQ
      unfold stV
      go_upto_region 17 with fail
      obtain ⟨wc, hwc⟩ : ∃ W, W = (wb.alloc (.cells #[.int .i64 S.x, .int .i64 S.y, .int .i64 S.z, .int .i64 S.hx, .int .i64 S.hy, .int .i64 S.p] 46)) := ⟨_, rfl⟩
      rw [← hwc]
      have BS : Hid (Blk wc (wb.heap.size) 46 #[.int .i64 S.x, .int .i64 S.y, .int .i64 S.z, .int .i64 S.hx, .int .i64 S.hy, .int .i64 S.p]) := by show Blk _ _ _ _; rw [hwc]; exact Blk.new _ _ _
      have hb : Below wb.heap.size wb wc := by rw [hwc]; exact ((Below.refl _ _).alloc (Nat.le_refl _) _)
      obtain ⟨g23, hg23⟩ : ∃ g, g = wb.heap.size := ⟨_, rfl⟩
      have HGwc : Hid (g23 = wb.heap.size) := hg23
      rw [← hg23] at BS
      try rw [← hg23]
      clear hwc hg23
      replace HBW := Lib.hid (HBW.out.trans (hb.mono HBW.out.size))
      clear hb HGwc
      have KT := Lib.hid (TT.out.below HBW.out)
      have KX := Lib.hid (X.out.below HBW.out)
      have KH := Lib.hid (HT.out.keep HBW.out)
      refine wp_region_allN 11 rfl (by kernel_rfl) (by kernel_rfl) [GR.eq (.agg cs), GR.gv nm sh T sn qn gn, GR.eq (.agg #[.int .i64 S.x, .int .i64 S.y, .int .i64 S.z, .int .i64 S.hx, .int .i64 S.hy, .int .i64 S.p]), GR.eq (.pointer (some ⟨g5, 0, none⟩)), GR.eq (.agg (plV r)), GR.eq (.tuple #[.int .i64 H, .int .i64 0]), GR.eq (.tuple #[.int .i64 H, .int .i64 0]), GR.eq (.int .i64 H), GR.eq (.int .i64 0), GR.eq (.int .i64 H), GR.eq (.int .i64 0)] 364 rfl (by kernel_rfl) ?_ ?_
      · refine ⟨?_, ?_, ?_, ?_, ?_, ?_, ?_, ?_, ?_, ?_, ?_, trivial⟩
        · intro a W hE hd ho
          have e3 : a.tmps[3]?.getD undef = .pointer (some ⟨g3, 0, none⟩) := ho 3 (by kernel_rfl)
          exact gs_load 26 (.tmp 3) rfl ⟨g3, 0, none⟩ (.agg cs) ((eval_getD _ _).trans e3) ((KT.out.below hE).lv Tryz.prog Tryz.underlying26 rfl IT.out) rfl
        · intro a W hE hd ho
          have e215 : a.tmps[215]?.getD undef = .agg cs := hd 0 215 (by kernel_rfl) (by kernel_rfl)
          refine gs_call (f := 16) (args := #[.agg cs]) (by go_simp) ?_
          refine (given_any W (KH.out.keep hE) HNG.out.2 HNG.out.1 HSN.out.name).mono ?_
          rintro e w9 ⟨cs', sa', sc', qb, qo, qc', gb, go, gc', rfl, h1, h2⟩
          exact ⟨_, rfl, h2, cs', sa', sc', qb, qo, qc', gb, go, gc', rfl, h1⟩
        · intro a W hE hd ho
          have e23 : a.tmps[23]?.getD undef = .pointer (some ⟨g23, 0, none⟩) := ho 23 (by kernel_rfl)
          have c0 := (BS.out.below hE).cell 0
          have c1 := (BS.out.below hE).cell 1
          have c2 := (BS.out.below hE).cell 2
          have c3 := (BS.out.below hE).cell 3
          have c4 := (BS.out.below hE).cell 4
          have c5 := (BS.out.below hE).cell 5
          simp only [List.getElem?_toArray, List.getElem?_cons_zero, List.getElem?_cons_succ] at c0 c1 c2 c3 c4 c5
          exact gs_same (v := .agg #[.int .i64 S.x, .int .i64 S.y, .int .i64 S.z, .int .i64 S.hx, .int .i64 S.hy, .int .i64 S.p]) (by go_simp) rfl
        · intro a W hE hd ho
          have e5 : a.tmps[5]?.getD undef = .pointer (some ⟨g5, 0, none⟩) := ho 5 (by kernel_rfl)
          exact gs_same (v := .pointer (some ⟨g5, 0, none⟩)) (by go_simp) rfl
        · intro a W hE hd ho
          have e218 : a.tmps[218]?.getD undef = .pointer (some ⟨g5, 0, none⟩) := hd 3 218 (by kernel_rfl) (by kernel_rfl)
          have c0 := (KX.out.below hE).cell 0
          have c1 := (KX.out.below hE).cell 1
          have c2 := (KX.out.below hE).cell 2
          simp only [List.getElem?_toArray, List.getElem?_cons_zero, List.getElem?_cons_succ] at c0 c1 c2
          exact gs_same (v := .agg #[.int .i64 r.x, .int .i64 r.y, .int .i64 r.z]) (by go_simp) rfl
        · intro a W hE hd ho
          have e217 : a.tmps[217]?.getD undef = .agg #[.int .i64 S.x, .int .i64 S.y, .int .i64 S.z, .int .i64 S.hx, .int .i64 S.hy, .int .i64 S.p] := hd 2 217 (by kernel_rfl) (by kernel_rfl)
          have e219 : a.tmps[219]?.getD undef = .agg (plV r) := hd 4 219 (by kernel_rfl) (by kernel_rfl)
          obtain ⟨cs', sa', sc', qb, qo, qc', gb, go, gc', e216, hk⟩ : ∃ cs sa sc qb qo qc gb go gc, a.tmps[216]?.getD undef = .agg cs ∧ TyOk W cs nm sh T sa sn sc qb qo qn qc gb go gn gc := hd 1 216 (by kernel_rfl) (by kernel_rfl)
          refine gs_call (f := 18) (args := #[.agg cs', .agg #[.int .i64 S.x, .int .i64 S.y, .int .i64 S.z, .int .i64 S.hx, .int .i64 S.hy, .int .i64 S.p], .agg (plV r)]) (by go_simp) ?_
          have h := Heard_ok S r W hk HGS.out HGP.out
          rw [← HH1.out] at h
          refine h.mono ?_
          rintro e w' ⟨rfl, hb⟩
          exact ⟨_, rfl, hb, rfl⟩
        · intro a W hE hd ho
          have e220 : a.tmps[220]?.getD undef = .tuple #[.int .i64 H, .int .i64 0] := hd 5 220 (by kernel_rfl) (by kernel_rfl)
          exact gs_same (v := .tuple #[.int .i64 H, .int .i64 0]) (by go_simp) rfl
        · intro a W hE hd ho
          have e214 : a.tmps[214]?.getD undef = .tuple #[.int .i64 H, .int .i64 0] := hd 6 214 (by kernel_rfl) (by kernel_rfl)
          exact gs_same (v := .int .i64 H) (by go_simp) rfl
        · intro a W hE hd ho
          have e214 : a.tmps[214]?.getD undef = .tuple #[.int .i64 H, .int .i64 0] := hd 6 214 (by kernel_rfl) (by kernel_rfl)
          exact gs_same (v := .int .i64 0) (by go_simp) rfl
        · intro a W hE hd ho
          have e221 : a.tmps[221]?.getD undef = .int .i64 H := hd 7 221 (by kernel_rfl) (by kernel_rfl)
          exact gs_same (v := .int .i64 H) (by go_simp) rfl
        · intro a W hE hd ho
          have e222 : a.tmps[222]?.getD undef = .int .i64 0 := hd 8 222 (by kernel_rfl) (by kernel_rfl)
          exact gs_same (v := .int .i64 0) (by go_simp) rfl
      intro vt wd hE hR
      have y0 : vt 0 = .agg cs := hR 0 (by omega)
      obtain ⟨vgv, y1⟩ : ∃ v, vt 1 = v := ⟨_, rfl⟩
      have y2 : vt 2 = .agg #[.int .i64 S.x, .int .i64 S.y, .int .i64 S.z, .int .i64 S.hx, .int .i64 S.hy, .int .i64 S.p] := hR 2 (by omega)
      have y3 : vt 3 = .pointer (some ⟨g5, 0, none⟩) := hR 3 (by omega)
      have y4 : vt 4 = .agg (plV r) := hR 4 (by omega)
      have y5 : vt 5 = .tuple #[.int .i64 H, .int .i64 0] := hR 5 (by omega)
      have y6 : vt 6 = .tuple #[.int .i64 H, .int .i64 0] := hR 6 (by omega)
      have y7 : vt 7 = .int .i64 H := hR 7 (by omega)
      have y8 : vt 8 = .int .i64 0 := hR 8 (by omega)
      have y9 : vt 9 = .int .i64 H := hR 9 (by omega)
      have y10 : vt 10 = .int .i64 0 := hR 10 (by omega)
      simp only [List.range, List.range.loop, List.foldl_cons, List.foldl_nil, y0, y1, y2, y3, y4, y5, y6, y7, y8, y9, y10, List.drop_succ_cons, List.drop_zero]
      simp only [dstAt, List.getElem?_toArray, List.getElem?_cons_zero, List.getElem?_cons_succ, Option.bind_some, Act.put, List.setIfInBounds_toArray, List.set_cons_zero, List.set_cons_succ]
      clear y0 y1 y2 y3 y4 y5 y6 y7 y8 y9 y10 hR
      replace HBW := Lib.hid (HBW.out.trans (hE.below.mono HBW.out.size))
      clear hE KT KX KH BS HGS HH1
      obtain ⟨k1, k2, k3, k4⟩ := HRW.out
      have n1 : ¬ H < 0 := by omega
      have n2 : ¬ MX < H := by omega
      have HC3 : ((H == MX) = true ∧ (NN == AT) = true) ∨ ((H == MX) = false ∧ (NN == AT) = false) ∨ ((H == MX) = true ∧ (NN == AT) = false ∧ ¬ NN ≤ AT) := by
        by_cases e1 : NN = AT
        · have := k4 e1; exact .inl ⟨by simp; omega, by simp; omega⟩
        · by_cases e2 : H = MX
          · exact .inr (.inr ⟨by simp; omega, by simp; omega, fun h => by have := k3 (by omega); omega⟩)
          · exact .inr (.inl ⟨by simp; omega, by simp; omega⟩)
      clear k1 k2 k3 k4 HRW
      have hsr := HSR.out
      have hrg := HRG.out
      have v1 : IntKind.i64.wrap (SU + H) = Bell.sumF (Bell.heardAt T l r) FR (k + 1) := by rw [← HSN2.out]; exact IntWalk.i64_in _ (by omega)
      have hn2 := HNN.out
      have hsp := HSP.out
      have v2 : IntKind.i64.wrap (NN + 1) = FR + ((k + 1 : Nat) : Int) := by rw [IntWalk.i64_in _ (by omega)]; omega
      have HME : Hid ((TO - (FR + ((k + 1 : Nat) : Int))).toNat < (TO - NN).toNat) := by show _ < _; omega
      clear hsr hrg hn2 hsp HSR HRG HSN2
      rcases HC3 with ⟨q1, q2⟩ | ⟨q1, q2⟩ | ⟨q1, q2, q3⟩
      all_goals
        go_wp2
        go_roundw
        case rel => exact ⟨k + 1, by omega, rfl, rfl, HBW.out⟩
        case measure => exact HME.out
    · obtain rfl : M = k := by omega
      replace HB := Lib.hid (HB.out.trans (hb.mono HB.out.size))
      replace U := Lib.hid (U.out.keep hb)
      replace F := Lib.hid (F.out.keep hb)
      replace TB := Lib.hid (TB.out.keep hb)
      replace HT := Lib.hid (HT.out.keep hb)
      replace HL := Lib.hid (HL.out.keep hb)
      replace TT := Lib.hid (TT.out.below hb)
      replace X := Lib.hid (X.out.below hb)
      clear hb
      obtain ⟨w10, rfl⟩ : ∃ W, W = wr := ⟨_, rfl⟩
      have hge : ¬ FR + (M : Int) < TO := by omega
      have hs := HSUM.out
      rw [← hs]
      clear hs hmm hsp hlt hk
      go_wp2_with fail
      refine (refOwnedTrack_any b off (m + 1) c l w10 HL.out (by omega) (by omega)).mono ?_
      rintro e w11 ⟨gO, cO, rfl, ho, hb⟩
      clear hge
      obtain ⟨AD, hAD⟩ : ∃ z, z = more % 50 := ⟨_, rfl⟩
      have HAD : Hid (0 ≤ AD ∧ AD < 50) := by show _ ∧ _; omega
      have HADM : Hid (more.tmod 50 = AD) := by show _ = _; rw [hAD]; exact Int.tmod_eq_emod_of_nonneg HMO.out.1
      clear hAD
      go_wp2_with fail
      go_loopw [28, 262] (fun _ i wr => ∃ k : Nat, k ≤ m + 1 ∧ i = .int .i64 k ∧ OwnTR wr w10.heap.size (.slice (some ⟨gO, 0, none⟩) (m + 1) cO) (Bell.mapK (Bell.sg AD) l k) ∧ Below w10.heap.size w10 wr) (fun _ i _ => m + 1 - (intOf i).toNat)
      case atStart => exact ⟨0, Nat.zero_le _, rfl, by rw [Bell.mapK_0]; exact ho, hb⟩
      case round =>
        clear ho hb
        obtain ⟨k, hk, rfl, hown, hb⟩ := hrel
        by_cases hlt : k < m + 1
        · have hl5 : (Bell.mapK (Bell.sg AD) l k).length = m + 1 := by rw [Bell.mapK_len, HNL.out]
          have hrow : wr.ownsRow w10.heap.size 140 5 (.slice (some ⟨gO, 0, none⟩) (m + 1) cO) (m + 1) (fxCells (Bell.mapK (Bell.sg AD) l k)) := by have := hown; unfold OwnTR at this; rwa [hl5] at this
          obtain ⟨d0, d1, d2, d3, d4⟩ := fxCells_at (Bell.mapK (Bell.sg AD) l k) k (by omega)
          have cw := World.ownsRow.cellAt hrow (k * 5 + 4) (by omega)
          rw [d4, mapK_fx] at cw
          have hp0 := (HGR.out.pts k (by rw [HNL.out]; exact hlt)).p0
          have hp1 := (HGR.out.pts k (by rw [HNL.out]; exact hlt)).p1
          obtain ⟨PW, hPW⟩ : ∃ z, z = (Bell.fxAt l k).p := ⟨_, rfl⟩
          rw [← hPW] at cw hp0 hp1
          have HPW := Lib.hid hPW
          have hg := (World.ownsRow.lt hrow gO rfl).1
          have HX9 := Lib.hid (X.out.below hb)
          have had := HAD.out
          have hmo := HMO.out
          have v1 : IntKind.i64.wrap more = more := IntWalk.i64_in _ (by omega)
          have v2 := HADM.out
          have v3 : IntKind.i64.wrap AD = AD := IntWalk.i64_in _ (by omega)
          have v4 : IntKind.i64.wrap (PW + AD) = PW + AD := IntWalk.i64_in _ (by omega)
          have r1 : ∀ ts t W, (Builtin.min_ ts t #[.int .i64 100, .int .i64 (PW + AD)]).run Tryz.prog W = .ok (.int .i64 (min 100 (PW + AD))) W := fun ts t W => run_min2c _ _ _ _ _ _
          have pk : (k : Int) < ((m + 1 : Nat) : Int) := by omega
          have HBX := Lib.hid hb
          have HOW := Lib.hid hown
          have HCW := Lib.hid cw
          clear hrow hown hb cw d0 d1 d2 d3 d4 hPW hp0 hp1 had hmo hl5
          go_upto_region 27 with fail
          refine wp_region_grow 13 (by kernel_rfl) (by kernel_rfl) [GR.eq (.slice (some ⟨gO, 0, none⟩) (m + 1) cO), GR.eq (.int .i64 k), GR.eq (.slice (some ⟨gO, 0, none⟩) (m + 1) cO), GR.eq (.int .i64 k), GR.eq (.pointer (some ⟨gO, k * 5, none⟩)), GR.eq (.pointer (some ⟨gO, k * 5 + 4, none⟩)), GR.eq (.int .i64 PW), GR.eq (.pointer (some ⟨g5, 4, none⟩)), GR.eq (.int .u16 more), GR.eq (.int .i64 more), GR.eq (.int .i64 AD), GR.eq (.int .i64 ((PW + AD))), GR.eq (.int .i64 ((min 100 (PW + AD))))] 364 rfl (by kernel_rfl) ?_ ?_
          · refine ⟨?_, ?_, ?_, ?_, ?_, ?_, ?_, ?_, ?_, ?_, ?_, ?_, ?_, trivial⟩
            · intro a W hE hd ho
              have e27 : a.tmps[27]?.getD undef = .slice (some ⟨gO, 0, none⟩) (m + 1) cO := ho 27 (by kernel_rfl)
              exact gs_same (v := .slice (some ⟨gO, 0, none⟩) (m + 1) cO) (by go_simp) rfl
            · intro a W hE hd ho
              have e28 : a.tmps[28]?.getD undef = .int .i64 k := ho 28 (by kernel_rfl)
              exact gs_same (v := .int .i64 k) (by go_simp) rfl
            · intro a W hE hd ho
              have e27 : a.tmps[27]?.getD undef = .slice (some ⟨gO, 0, none⟩) (m + 1) cO := ho 27 (by kernel_rfl)
              exact gs_same (v := .slice (some ⟨gO, 0, none⟩) (m + 1) cO) (by go_simp) rfl
            · intro a W hE hd ho
              have e28 : a.tmps[28]?.getD undef = .int .i64 k := ho 28 (by kernel_rfl)
              exact gs_same (v := .int .i64 k) (by go_simp) rfl
            · intro a W hE hd ho
              have e267 : a.tmps[267]?.getD undef = .slice (some ⟨gO, 0, none⟩) (m + 1) cO := hd 2 267 (by kernel_rfl) (by kernel_rfl)
              have e268 : a.tmps[268]?.getD undef = .int .i64 k := hd 3 268 (by kernel_rfl) (by kernel_rfl)
              exact gs_same (v := .pointer (some ⟨gO, k * 5, none⟩)) (by go_simp) rfl
            · intro a W hE hd ho
              have e269 : a.tmps[269]?.getD undef = .pointer (some ⟨gO, k * 5, none⟩) := hd 4 269 (by kernel_rfl) (by kernel_rfl)
              exact gs_same (v := .pointer (some ⟨gO, k * 5 + 4, none⟩)) (by go_simp) rfl
            · intro a W hE hd ho
              have e270 : a.tmps[270]?.getD undef = .pointer (some ⟨gO, k * 5 + 4, none⟩) := hd 5 270 (by kernel_rfl) (by kernel_rfl)
              have cw := cell_kept hE HCW.out
              exact gs_same (v := .int .i64 PW) (by go_simp) rfl
            · intro a W hE hd ho
              have e5 : a.tmps[5]?.getD undef = .pointer (some ⟨g5, 0, none⟩) := ho 5 (by kernel_rfl)
              exact gs_same (v := .pointer (some ⟨g5, 4, none⟩)) (by go_simp) rfl
            · intro a W hE hd ho
              have e272 : a.tmps[272]?.getD undef = .pointer (some ⟨g5, 4, none⟩) := hd 7 272 (by kernel_rfl) (by kernel_rfl)
              have c4 := (HX9.out.below hE).cell 4
              simp only [List.getElem?_toArray, List.getElem?_cons_zero, List.getElem?_cons_succ] at c4
              exact gs_same (v := .int .u16 more) (by go_simp) rfl
            · intro a W hE hd ho
              have e273 : a.tmps[273]?.getD undef = .int .u16 more := hd 8 273 (by kernel_rfl) (by kernel_rfl)
              exact gs_same (v := .int .i64 more) (by go_simp) rfl
            · intro a W hE hd ho
              have e274 : a.tmps[274]?.getD undef = .int .i64 more := hd 9 274 (by kernel_rfl) (by kernel_rfl)
              exact gs_same (v := .int .i64 AD) (by go_simp) rfl
            · intro a W hE hd ho
              have e271 : a.tmps[271]?.getD undef = .int .i64 PW := hd 6 271 (by kernel_rfl) (by kernel_rfl)
              have e275 : a.tmps[275]?.getD undef = .int .i64 AD := hd 10 275 (by kernel_rfl) (by kernel_rfl)
              exact gs_same (v := .int .i64 ((PW + AD))) (by go_simp) rfl
            · intro a W hE hd ho
              have e276 : a.tmps[276]?.getD undef = .int .i64 ((PW + AD)) := hd 11 276 (by kernel_rfl) (by kernel_rfl)
              exact gs_same (v := .int .i64 ((min 100 (PW + AD)))) (by go_simp) rfl
          intro v7 wx hE hR
          have y0 : v7 0 = .slice (some ⟨gO, 0, none⟩) (m + 1) cO := hR 0 (by omega)
          have y1 : v7 1 = .int .i64 k := hR 1 (by omega)
          have y2 : v7 2 = .slice (some ⟨gO, 0, none⟩) (m + 1) cO := hR 2 (by omega)
          have y3 : v7 3 = .int .i64 k := hR 3 (by omega)
          have y4 : v7 4 = .pointer (some ⟨gO, k * 5, none⟩) := hR 4 (by omega)
          have y5 : v7 5 = .pointer (some ⟨gO, k * 5 + 4, none⟩) := hR 5 (by omega)
          have y6 : v7 6 = .int .i64 PW := hR 6 (by omega)
          have y7 : v7 7 = .pointer (some ⟨g5, 4, none⟩) := hR 7 (by omega)
          have y8 : v7 8 = .int .u16 more := hR 8 (by omega)
          have y9 : v7 9 = .int .i64 more := hR 9 (by omega)
          have y10 : v7 10 = .int .i64 AD := hR 10 (by omega)
          have y11 : v7 11 = .int .i64 ((PW + AD)) := hR 11 (by omega)
          have y12 : v7 12 = .int .i64 ((min 100 (PW + AD))) := hR 12 (by omega)
          simp only [List.range, List.range.loop, List.foldl_cons, List.foldl_nil, y0, y1, y2, y3, y4, y5, y6, y7, y8, y9, y10, y11, y12, List.drop_succ_cons, List.drop_zero]
          simp only [dstAt, List.getElem?_toArray, List.getElem?_cons_zero, List.getElem?_cons_succ, Option.bind_some, Act.put, List.setIfInBounds_toArray, List.set_cons_zero, List.set_cons_succ]
          clear y0 y1 y2 y3 y4 y5 y6 y7 y8 y9 y10 y11 y12 hR
          have hown := row_ext HOW.out hE
          have hb := HBX.out.trans (hE.below.mono HBX.out.size)
          have R := Lib.hid (OwnTR.raise (show OwnTR wx w10.heap.size (.slice (some ⟨gO, 0, none⟩) (m + 1) cO) (Bell.mapK (Bell.sg AD) l k) from hown) HNL.out hlt)
          rw [← HPW.out] at R
          have f1 := World.ownsRow.frozenAt (n := (Bell.mapK (Bell.sg AD) l k).length) (show wx.ownsRow w10.heap.size 140 5 (.slice (some ⟨gO, 0, none⟩) (Bell.mapK (Bell.sg AD) l k).length cO) _ (fxCells (Bell.mapK (Bell.sg AD) l k)) by have h := hown; rwa [show m + 1 = (Bell.mapK (Bell.sg AD) l k).length by rw [Bell.mapK_len, HNL.out]] at h) (k * 5 + 4)
          have c1 := cell_kept hE HCW.out
          have B1 := Lib.hid (hb.setCell (p := ⟨gO, k * 5 + 4, none⟩) hg (.int .i64 (min 100 (PW + AD))))
          clear hown hb hE HX9 HBX HOW HCW
          go_wp2
          go_roundw
          case rel => exact ⟨k + 1, by omega, by go_num, R.out, B1.out⟩
          case measure => simp [intOf]; omega
        · obtain rfl : k = m + 1 := by omega
          have HST : Hid (TrAt wr (some ⟨gO, 0, none⟩) (m + 1) (Bell.strong AD l)) := by show TrAt _ _ _ _; have h := hown.at2 (by rw [Bell.mapK_len, HNL.out]); rwa [show Bell.mapK (Bell.sg AD) l (m + 1) = Bell.strong AD l by rw [← HNL.out]; exact Bell.strong_all _ _] at h
          clear hown hlt hk
          replace HB := Lib.hid (HB.out.trans (hb.mono HB.out.size))
          replace U := Lib.hid (U.out.keep hb)
          replace F := Lib.hid (F.out.keep hb)
          replace TB := Lib.hid (TB.out.keep hb)
          replace HT := Lib.hid (HT.out.keep hb)
          replace HL := Lib.hid (HL.out.keep hb)
          replace TT := Lib.hid (TT.out.below hb)
          replace X := Lib.hid (X.out.below hb)
          clear hb
          obtain ⟨w12, rfl⟩ : ∃ W, W = wr := ⟨_, rfl⟩
          go_wp2_with (refine wpList_load_row rfl 26 _ rfl g3 rfl 26 cs (0, 0) _ TT.out Tryz.underlying26 rfl IT.out ?_)
          refine (refOwned_apart w12 HT.out HNG.out.2).mono ?_
          rintro e w13 ⟨base, A1, c1, gq, c2, gS, cS, P, rfl, hbase, hO, hAp, hb⟩
          have HAP := Lib.hid hAp
          have HBS := Lib.hid hbase
          have HO := Lib.hid hO
          clear hAp hbase hO
          obtain ⟨tw, htw⟩ : ∃ tw, tw = tyW nm (.slice A1 sn c1) T (.slice (some ⟨gq, 0, none⟩) qn c2) (.slice (some ⟨gS, 0, none⟩) gn cS) := ⟨_, rfl⟩
          rw [← htw]
          have HTW := Lib.hid htw
          have HTS : Hid (13 = tw.size) := by show _ = _; rw [htw]; rfl
          have tin : Hid ((Tryz.prog.info? 26).map (·.size) = some tw.size) := by show _ = _; rw [htw]; kernel_rfl
          have tone : Hid (tw.all (fun u => u.oneCell') = true) := by show _ = _; rw [htw]; simp [tyW, Value.oneCell']
          clear htw
          have HBD := Lib.hid hb
          clear hb
          go_upto_region 30 with (refine wpList_store_row rfl 26 _ _ rfl w13.heap.size tw rfl rfl 26 _ (Blk.new w13 26 #[.string ⟨#[]⟩, .slice none 0 0, .int .i64 0, .int .i64 0, .int .i64 0, .int .i64 0, .int .i64 0, .int .i64 0, .int .i64 0, .int .i64 0, .int .i64 0, .slice none 0 0, .slice none 0 0]) tin.out HTS.out tone.out ?_)
          obtain ⟨w14, hw14⟩ : ∃ W, W = (w13.alloc (.cells #[.string ⟨#[]⟩, .slice none 0 0, .int .i64 0, .int .i64 0, .int .i64 0, .int .i64 0, .int .i64 0, .int .i64 0, .int .i64 0, .int .i64 0, .int .i64 0, .slice none 0 0, .slice none 0 0] 26)).setRow w13.heap.size tw := ⟨_, rfl⟩
          rw [← hw14]
          obtain ⟨g29, hg29⟩ : ∃ x, x = w13.heap.size := ⟨_, rfl⟩
          rw [← hg29]
          have hb2 : Below w13.heap.size w13 w14 := by rw [hw14]; exact ((Below.refl _ _).alloc (Nat.le_refl _) _).setRow' (Nat.le_refl _) _
          have TL : Blk w14 g29 26 tw := by rw [hw14, hg29]; exact (Blk.new w13 26 #[.string ⟨#[]⟩, .slice none 0 0, .int .i64 0, .int .i64 0, .int .i64 0, .int .i64 0, .int .i64 0, .int .i64 0, .int .i64 0, .int .i64 0, .int .i64 0, .slice none 0 0, .slice none 0 0]).setRow _
          have HB4 : Below w12.heap.size w12 w14 := HBD.out.trans (hb2.mono HBD.out.size)
          have HO4 : OwnTy w14 base sh { T with sets := T.sets } A1 sn c1 gq qn c2 gS gn cS P := HO.out.high (fun b _ hb => hb2.block b hb)
          have HGE : Hid (∀ k g n c, k < gn → (P.getD k (0, undef)).2 = .slice (some ⟨g, 0, none⟩) n c → g < g29 ∧ w12.heap.size ≤ g) := fun k g n c hk hv => by
            have h := World.ownsRow.lt (HO.out.each k hk).2 g (by rw [hv]; rfl)
            rw [hg29]; exact ⟨h.2, Nat.le_trans HBS.out h.1⟩
          have HGN : Hid (T.sets.length = gn ∧ T.squares.length = qn ∧ 0 < qn) := by
            have h1 := HT.out.sets.1; have h2 := HT.out.squares.1; have h3 := HNG.out.2.cnt.2.1
            exact ⟨h1, h2, by rw [← h2]; exact h3⟩
          clear hw14 hg29 hb2 HO HBD
          have c12 : w14.cell? ⟨g29, 12, none⟩ = some (.slice (some ⟨gS, 0, none⟩) gn cS) := (TL.cell 12).trans (by rw [HTW.out]; rfl)
          go_wp2_with fail
          clear c12
          go_loopw [286] (fun i wr => ∃ k : Nat, k ≤ gn ∧ i = .int .i64 k ∧ OwnTy wr base sh { T with sets := Bell.mapK (Bell.lg more) T.sets k } A1 sn c1 gq qn c2 gS gn cS P ∧ Blk wr g29 26 tw ∧ Below w12.heap.size w12 wr) (fun i _ => gn - (intOf i).toNat)
          case atStart => exact ⟨0, Nat.zero_le _, rfl, by rw [Bell.mapK_0]; exact HO4, TL, HB4⟩
          case round =>
            clear TL HB4 HO4
            obtain ⟨k, hk, rfl, hO, hT, hb⟩ := hrel
            by_cases hlt : k < gn
            · have hkl : k < T.sets.length := by rw [HGN.out.1]; exact hlt
              obtain ⟨zs, hzs⟩ : ∃ z, z = (T.sets.getD k (0, [])).2 := ⟨_, rfl⟩
              have hq8 : qn ≤ 8 := by have h := HNG.out.2.cnt.2.2; rw [HGN.out.2.1] at h; exact h
              have HZL : Hid (zs.length = qn) := by show _ = _; rw [hzs, HNG.out.2.len hkl, HGN.out.2.1]
              obtain ⟨e1, e2⟩ := hO.each k hlt
              rw [show ({ T with sets := Bell.mapK (Bell.lg more) T.sets k } : Bell.Ty).sets = Bell.mapK (Bell.lg more) T.sets k from rfl, mapK_set, ← hzs] at e2
              obtain ⟨gE, cE, hv⟩ := e2.has HZL.out HGN.out.2.2
              have HV := Lib.hid hv
              have HZS := Lib.hid hzs
              have hrc := World.ownsRow.cellAt hO.row (k * 2 + 1) (by omega)
              rw [(stCells_at P k (by rw [hO.len]; exact hlt)).2, hv] at hrc
              have c12 : wr.cell? ⟨g29, 12, none⟩ = some (.slice (some ⟨gS, 0, none⟩) gn cS) := (hT.cell 12).trans (by rw [HTW.out]; rfl)
              have pk : (k : Int) < (gn : Int) := by omega
              have HO1 := Lib.hid hO
              have HT1 := Lib.hid hT
              have HB1 := Lib.hid hb
              clear hO hT hb e1 e2 hv hzs
              go_wp2_with fail
              clear hrc c12
              go_loopw [296] (fun j wq => ∃ q : Nat, q ≤ qn ∧ j = .int .i64 q ∧ OwnTy wq base sh { T with sets := Bell.loudIK more T.sets k q } A1 sn c1 gq qn c2 gS gn cS P ∧ Blk wq g29 26 tw ∧ Below w12.heap.size w12 wq) (fun j _ => qn - (intOf j).toNat)
              case atStart => exact ⟨0, Nat.zero_le _, rfl, by rw [Bell.loudIK_0 more hkl]; exact HO1.out, HT1.out, HB1.out⟩
              case round =>
                clear HO1 HT1 HB1
                obtain ⟨q, hq, rfl, hO, hT, hb⟩ := hrel
                by_cases hltq : q < qn
                · have hql : q < (T.sets.getD k (0, [])).2.length := by rw [← HZS.out, HZL.out]; exact hltq
                  obtain ⟨e1, e2⟩ := hO.each k hlt
                  rw [show ({ T with sets := Bell.loudIK more T.sets k q } : Bell.Ty).sets = Bell.loudIK more T.sets k q from rfl, Bell.loudIK_at more hkl, HV.out, ← HZS.out] at e2
                  obtain ⟨p1, p2, p3, p4⟩ := e2.parts
                  have c1 := p3 q hltq
                  rw [mapK_int] at c1
                  have f1 := p4 q
                  have hrc := World.ownsRow.cellAt hO.row (k * 2 + 1) (by omega)
                  rw [(stCells_at P k (by rw [hO.len]; exact hlt)).2, HV.out] at hrc
                  have c12 : wr.cell? ⟨g29, 12, none⟩ = some (.slice (some ⟨gS, 0, none⟩) gn cS) := (hT.cell 12).trans (by rw [HTW.out]; rfl)
                  obtain ⟨hge1, hge2⟩ := HGE.out k gE qn cE hlt HV.out
                  have hE0 := HNG.out.2.ty.sets.lo k q hkl (by rw [HGN.out.2.1]; exact hltq)
                  have hE1 := HNG.out.2.ty.sets.hi k q hkl (by rw [HGN.out.2.1]; exact hltq)
                  unfold Bell.eAt at hE0 hE1
                  rw [← HZS.out] at hE0 hE1
                  obtain ⟨EN, hEN⟩ : ∃ z, z = zs.getD q 0 := ⟨_, rfl⟩
                  rw [← hEN] at c1 hE0 hE1
                  have hmo := HMO.out
                  have v1 : IntKind.i64.wrap more = more := IntWalk.i64_in _ (by omega)
                  have v4 : IntKind.i64.wrap (EN + more) = EN + more := IntWalk.i64_in _ (by omega)
                  have r1 : ∀ ts t W, (Builtin.min_ ts t #[.int .i64 100000000, .int .i64 (EN + more)]).run Tryz.prog W = .ok (.int .i64 (Bell.lf more EN)) W := fun ts t W => run_min2c _ _ _ _ _ _
                  have HX9 := Lib.hid (X.out.below hb)
                  have pq : (q : Int) < (qn : Int) := by omega
                  have pk2 : (k : Int) < (gn : Int) := by omega
                  have HRC := Lib.hid hrc
                  have H12 := Lib.hid c12
                  have HCE := Lib.hid c1
                  have HO9 := Lib.hid hO
                  have HT9 := Lib.hid hT
                  have HB9 := Lib.hid hb
                  have HEN := Lib.hid hEN
                  clear hO hT hb e1 e2 p1 p2 p3 p4 hEN hE0 hE1 hmo hql hrc c12 c1 f1
                  go_upto_region 36 with fail
                  refine wp_region_grow 21 (by kernel_rfl) (by kernel_rfl) [GR.eq (.pointer (some ⟨g29, 12, none⟩)), GR.eq (.slice (some ⟨gS, 0, none⟩) gn cS), GR.eq (.int .i64 k), GR.eq (.pointer (some ⟨gS, k * 2, none⟩)), GR.eq (.pointer (some ⟨gS, k * 2 + 1, none⟩)), GR.eq (.slice (some ⟨gE, 0, none⟩) qn cE), GR.eq (.int .i64 q), GR.eq (.pointer (some ⟨g29, 12, none⟩)), GR.eq (.slice (some ⟨gS, 0, none⟩) gn cS), GR.eq (.int .i64 k), GR.eq (.pointer (some ⟨gS, k * 2, none⟩)), GR.eq (.pointer (some ⟨gS, k * 2 + 1, none⟩)), GR.eq (.slice (some ⟨gE, 0, none⟩) qn cE), GR.eq (.int .i64 q), GR.eq (.pointer (some ⟨gE, q, none⟩)), GR.eq (.int .i64 EN), GR.eq (.pointer (some ⟨g5, 4, none⟩)), GR.eq (.int .u16 more), GR.eq (.int .i64 more), GR.eq (.int .i64 ((EN + more))), GR.eq (.int .i64 ((Bell.lf more EN)))] 364 rfl (by kernel_rfl) ?_ ?_
                  · refine ⟨?_, ?_, ?_, ?_, ?_, ?_, ?_, ?_, ?_, ?_, ?_, ?_, ?_, ?_, ?_, ?_, ?_, ?_, ?_, ?_, ?_, trivial⟩
                    · intro a W hE hd ho
                      have e29 : a.tmps[29]?.getD undef = .pointer (some ⟨g29, 0, none⟩) := ho 29 (by kernel_rfl)
                      exact gs_same (v := .pointer (some ⟨g29, 12, none⟩)) (by go_simp) rfl
                    · intro a W hE hd ho
                      have e299 : a.tmps[299]?.getD undef = .pointer (some ⟨g29, 12, none⟩) := hd 0 299 (by kernel_rfl) (by kernel_rfl)
                      have c12 := cell_kept hE H12.out
                      exact gs_same (v := .slice (some ⟨gS, 0, none⟩) gn cS) (by go_simp) rfl
                    · intro a W hE hd ho
                      have e30 : a.tmps[30]?.getD undef = .int .i64 k := ho 30 (by kernel_rfl)
                      exact gs_same (v := .int .i64 k) (by go_simp) rfl
                    · intro a W hE hd ho
                      have e300 : a.tmps[300]?.getD undef = .slice (some ⟨gS, 0, none⟩) gn cS := hd 1 300 (by kernel_rfl) (by kernel_rfl)
                      have e301 : a.tmps[301]?.getD undef = .int .i64 k := hd 2 301 (by kernel_rfl) (by kernel_rfl)
                      exact gs_same (v := .pointer (some ⟨gS, k * 2, none⟩)) (by go_simp) rfl
                    · intro a W hE hd ho
                      have e302 : a.tmps[302]?.getD undef = .pointer (some ⟨gS, k * 2, none⟩) := hd 3 302 (by kernel_rfl) (by kernel_rfl)
                      exact gs_same (v := .pointer (some ⟨gS, k * 2 + 1, none⟩)) (by go_simp) rfl
                    · intro a W hE hd ho
                      have e303 : a.tmps[303]?.getD undef = .pointer (some ⟨gS, k * 2 + 1, none⟩) := hd 4 303 (by kernel_rfl) (by kernel_rfl)
                      have hrc := cell_kept hE HRC.out
                      exact gs_same (v := .slice (some ⟨gE, 0, none⟩) qn cE) (by go_simp) rfl
                    · intro a W hE hd ho
                      have e31 : a.tmps[31]?.getD undef = .int .i64 q := ho 31 (by kernel_rfl)
                      exact gs_same (v := .int .i64 q) (by go_simp) rfl
                    · intro a W hE hd ho
                      have e29 : a.tmps[29]?.getD undef = .pointer (some ⟨g29, 0, none⟩) := ho 29 (by kernel_rfl)
                      exact gs_same (v := .pointer (some ⟨g29, 12, none⟩)) (by go_simp) rfl
                    · intro a W hE hd ho
                      have e306 : a.tmps[306]?.getD undef = .pointer (some ⟨g29, 12, none⟩) := hd 7 306 (by kernel_rfl) (by kernel_rfl)
                      have c12 := cell_kept hE H12.out
                      exact gs_same (v := .slice (some ⟨gS, 0, none⟩) gn cS) (by go_simp) rfl
                    · intro a W hE hd ho
                      have e30 : a.tmps[30]?.getD undef = .int .i64 k := ho 30 (by kernel_rfl)
                      exact gs_same (v := .int .i64 k) (by go_simp) rfl
                    · intro a W hE hd ho
                      have e307 : a.tmps[307]?.getD undef = .slice (some ⟨gS, 0, none⟩) gn cS := hd 8 307 (by kernel_rfl) (by kernel_rfl)
                      have e308 : a.tmps[308]?.getD undef = .int .i64 k := hd 9 308 (by kernel_rfl) (by kernel_rfl)
                      exact gs_same (v := .pointer (some ⟨gS, k * 2, none⟩)) (by go_simp) rfl
                    · intro a W hE hd ho
                      have e309 : a.tmps[309]?.getD undef = .pointer (some ⟨gS, k * 2, none⟩) := hd 10 309 (by kernel_rfl) (by kernel_rfl)
                      exact gs_same (v := .pointer (some ⟨gS, k * 2 + 1, none⟩)) (by go_simp) rfl
                    · intro a W hE hd ho
                      have e310 : a.tmps[310]?.getD undef = .pointer (some ⟨gS, k * 2 + 1, none⟩) := hd 11 310 (by kernel_rfl) (by kernel_rfl)
                      have hrc := cell_kept hE HRC.out
                      exact gs_same (v := .slice (some ⟨gE, 0, none⟩) qn cE) (by go_simp) rfl
                    · intro a W hE hd ho
                      have e31 : a.tmps[31]?.getD undef = .int .i64 q := ho 31 (by kernel_rfl)
                      exact gs_same (v := .int .i64 q) (by go_simp) rfl
                    · intro a W hE hd ho
                      have e311 : a.tmps[311]?.getD undef = .slice (some ⟨gE, 0, none⟩) qn cE := hd 12 311 (by kernel_rfl) (by kernel_rfl)
                      have e312 : a.tmps[312]?.getD undef = .int .i64 q := hd 13 312 (by kernel_rfl) (by kernel_rfl)
                      exact gs_same (v := .pointer (some ⟨gE, q, none⟩)) (by go_simp) rfl
                    · intro a W hE hd ho
                      have e313 : a.tmps[313]?.getD undef = .pointer (some ⟨gE, q, none⟩) := hd 14 313 (by kernel_rfl) (by kernel_rfl)
                      have c1 := cell_kept hE HCE.out
                      exact gs_same (v := .int .i64 EN) (by go_simp) rfl
                    · intro a W hE hd ho
                      have e5 : a.tmps[5]?.getD undef = .pointer (some ⟨g5, 0, none⟩) := ho 5 (by kernel_rfl)
                      exact gs_same (v := .pointer (some ⟨g5, 4, none⟩)) (by go_simp) rfl
                    · intro a W hE hd ho
                      have e315 : a.tmps[315]?.getD undef = .pointer (some ⟨g5, 4, none⟩) := hd 16 315 (by kernel_rfl) (by kernel_rfl)
                      have c4 := (HX9.out.below hE).cell 4
                      simp only [List.getElem?_toArray, List.getElem?_cons_zero, List.getElem?_cons_succ] at c4
                      exact gs_same (v := .int .u16 more) (by go_simp) rfl
                    · intro a W hE hd ho
                      have e316 : a.tmps[316]?.getD undef = .int .u16 more := hd 17 316 (by kernel_rfl) (by kernel_rfl)
                      exact gs_same (v := .int .i64 more) (by go_simp) rfl
                    · intro a W hE hd ho
                      have e314 : a.tmps[314]?.getD undef = .int .i64 EN := hd 15 314 (by kernel_rfl) (by kernel_rfl)
                      have e317 : a.tmps[317]?.getD undef = .int .i64 more := hd 18 317 (by kernel_rfl) (by kernel_rfl)
                      exact gs_same (v := .int .i64 ((EN + more))) (by go_simp) rfl
                    · intro a W hE hd ho
                      have e318 : a.tmps[318]?.getD undef = .int .i64 ((EN + more)) := hd 19 318 (by kernel_rfl) (by kernel_rfl)
                      exact gs_same (v := .int .i64 ((Bell.lf more EN))) (by go_simp) rfl
                  intro v8 wx hE hR
                  have y0 : v8 0 = .pointer (some ⟨g29, 12, none⟩) := hR 0 (by omega)
                  have y1 : v8 1 = .slice (some ⟨gS, 0, none⟩) gn cS := hR 1 (by omega)
                  have y2 : v8 2 = .int .i64 k := hR 2 (by omega)
                  have y3 : v8 3 = .pointer (some ⟨gS, k * 2, none⟩) := hR 3 (by omega)
                  have y4 : v8 4 = .pointer (some ⟨gS, k * 2 + 1, none⟩) := hR 4 (by omega)
                  have y5 : v8 5 = .slice (some ⟨gE, 0, none⟩) qn cE := hR 5 (by omega)
                  have y6 : v8 6 = .int .i64 q := hR 6 (by omega)
                  have y7 : v8 7 = .pointer (some ⟨g29, 12, none⟩) := hR 7 (by omega)
                  have y8 : v8 8 = .slice (some ⟨gS, 0, none⟩) gn cS := hR 8 (by omega)
                  have y9 : v8 9 = .int .i64 k := hR 9 (by omega)
                  have y10 : v8 10 = .pointer (some ⟨gS, k * 2, none⟩) := hR 10 (by omega)
                  have y11 : v8 11 = .pointer (some ⟨gS, k * 2 + 1, none⟩) := hR 11 (by omega)
                  have y12 : v8 12 = .slice (some ⟨gE, 0, none⟩) qn cE := hR 12 (by omega)
                  have y13 : v8 13 = .int .i64 q := hR 13 (by omega)
                  have y14 : v8 14 = .pointer (some ⟨gE, q, none⟩) := hR 14 (by omega)
                  have y15 : v8 15 = .int .i64 EN := hR 15 (by omega)
                  have y16 : v8 16 = .pointer (some ⟨g5, 4, none⟩) := hR 16 (by omega)
                  have y17 : v8 17 = .int .u16 more := hR 17 (by omega)
                  have y18 : v8 18 = .int .i64 more := hR 18 (by omega)
                  have y19 : v8 19 = .int .i64 ((EN + more)) := hR 19 (by omega)
                  have y20 : v8 20 = .int .i64 ((Bell.lf more EN)) := hR 20 (by omega)
                  simp only [List.range, List.range.loop, List.foldl_cons, List.foldl_nil, y0, y1, y2, y3, y4, y5, y6, y7, y8, y9, y10, y11, y12, y13, y14, y15, y16, y17, y18, y19, y20, List.drop_succ_cons, List.drop_zero]
                  simp only [dstAt, List.getElem?_toArray, List.getElem?_cons_zero, List.getElem?_cons_succ, Option.bind_some, Act.put, List.setIfInBounds_toArray, List.set_cons_zero, List.set_cons_succ]
                  clear y0 y1 y2 y3 y4 y5 y6 y7 y8 y9 y10 y11 y12 y13 y14 y15 y16 y17 y18 y19 y20 hR
                  have hO : OwnTy wx base sh { T with sets := Bell.loudIK more T.sets k q } A1 sn c1 gq qn c2 gS gn cS P := HO9.out.high (fun b _ h => hE.below.block b h)
                  have hT : Blk wx g29 26 tw := HT9.out.below hE
                  have hb := HB9.out.trans (hE.below.mono HB9.out.size)
                  have R1 := hO.raise HAP.out hlt (by rw [Bell.loudIK_len, HGN.out.1]) HV.out q (Bell.lf more ((T.sets.getD k (0, [])).2.getD q 0))
                  rw [Bell.loudIK_step more hkl (by rw [← HZS.out, HZL.out]; exact hltq), ← HZS.out, ← HEN.out] at R1
                  obtain ⟨e1, e2⟩ := hO.each k hlt
                  rw [show ({ T with sets := Bell.loudIK more T.sets k q } : Bell.Ty).sets = Bell.loudIK more T.sets k q from rfl, Bell.loudIK_at more hkl, HV.out, ← HZS.out] at e2
                  have f1 := e2.parts.2.2.2 q
                  have c1 := cell_kept hE HCE.out
                  have RO := Lib.hid R1
                  have RT := Lib.hid (hT.cell_far (b := gE) (i := q) (by omega) (.int .i64 (Bell.lf more EN)))
                  have RB := Lib.hid (hb.setCell (p := ⟨gE, q, none⟩) hge2 (.int .i64 (Bell.lf more EN)))
                  clear R1 hO hT hb e1 e2 hge1 hge2 hE HRC H12 HCE HO9 HT9 HB9 HEN HX9
                  go_wp2
                  go_roundw
                  case rel => exact ⟨q + 1, by omega, by go_num, RO.out, RT.out, RB.out⟩
                  case measure => simp [intOf]; omega
                · obtain rfl : q = qn := by omega
                  have h := hO
                  rw [show Bell.loudIK more T.sets k q = Bell.mapK (Bell.lg more) T.sets (k + 1) by rw [← Bell.loudIK_all more hkl, ← HZS.out, HZL.out]] at h
                  have R2 := Lib.hid h
                  have RT := Lib.hid hT
                  have RB := Lib.hid hb
                  clear h hO hT hb hltq hq
                  go_wp2
                  go_roundw
                  case rel => exact ⟨k + 1, by omega, by go_num, R2.out, RT.out, RB.out⟩
                  case measure => simp [intOf]; omega
            · obtain rfl : gn = k := by omega
              rw [show Bell.mapK (Bell.lg more) T.sets gn = Bell.loud more T.sets by rw [← HGN.out.1]; exact Bell.loud_all _ _] at hO
              have HR2 : Hid (RTy wr tw nm sh { T with sets := Bell.loud more T.sets } A1 sn c1 (some ⟨gq, 0, none⟩) qn c2 (some ⟨gS, 0, none⟩) gn cS) := rty_own HTW.out hO (by show (Bell.loud more T.sets).length = gn; rw [Bell.loud_len, HGN.out.1])
              have HG2 : Hid (GoodT sh { T with sets := Bell.loud more T.sets }) := ⟨HNG.out.2.dl, Bell.tyE_loud HMO.out.1 HNG.out.2.ok⟩
              have TL := Lib.hid hT
              clear hO hT hlt hk
              replace HB := Lib.hid (HB.out.trans (hb.mono HB.out.size))
              replace U := Lib.hid (U.out.keep hb)
              replace F := Lib.hid (F.out.keep hb)
              replace TB := Lib.hid (TB.out.keep hb)
              replace HT := Lib.hid (HT.out.keep hb)
              replace HL := Lib.hid (HL.out.keep hb)
              replace TT := Lib.hid (TT.out.below hb)
              replace X := Lib.hid (X.out.below hb)
              replace HST := Lib.hid (HST.out.keep hb)
              clear hb
              obtain ⟨w15, rfl⟩ : ∃ W, W = wr := ⟨_, rfl⟩
              obtain ⟨CN, hCN⟩ : ∃ z, z = Bell.expoOf T (Bell.strong AD l) r 0 100000000 := ⟨_, rfl⟩
              obtain ⟨DN, hDN⟩ : ∃ z, z = Bell.expoOf { T with sets := Bell.loud more T.sets } l r 0 100000000 := ⟨_, rfl⟩
              have HGE2 : Hid (WH ≤ CN ∧ WH ≤ DN) := by
                show _ ∧ _
                rw [hCN, hDN, HWH.out]
                exact ⟨Bell.expo_strong HNG.out.2.ty HAD.out.1 HGR.out r, Bell.expo_loud HNG.out.2.dl HNG.out.2.ok HMO.out.1 l r 0 100000000⟩
              have E6 : Hid (∀ (cs' : Array Value) (sa' : Option Addr) (sc' qb qo qc' gb go gc' : Nat) (g o c : Nat) (W : World), TyOk W cs' nm sh T sa' sn sc' qb qo qn qc' gb go gn gc' → FixesAt W g o (m + 1) (Bell.strong AD l) → m + 1 ≤ c → c ≤ 9223372036854775807 → Calls Tryz.prog 55 #[.agg cs', .slice (some ⟨g, o, none⟩) (m + 1) c, .agg #[.int .i64 0, .int .i64 100000000], .agg (plV r)] W fun e w' => e = .returned (.tuple #[.int .i64 CN, .int .i64 0]) ∧ Below W.heap.size W w') := fun cs' sa' sc' qb qo qc' gb go gc' g o c W hk hf _ _ => by
                have h := Exposure_ok g o (m + 1) c (Bell.strong AD l) 0 100000000 r W hk hf (Bell.strong_good HAD.out.1 HGR.out) HGP.out (by omega) (by omega) (by omega)
                rwa [← hCN] at h
              have E7 : Hid (∀ (cs' : Array Value) (sa' : Option Addr) (sc' qb qo qc' gb go gc' : Nat) (g o c : Nat) (W : World), TyOk W cs' nm sh { T with sets := Bell.loud more T.sets } sa' sn sc' qb qo qn qc' gb go gn gc' → FixesAt W g o (m + 1) l → m + 1 ≤ c → c ≤ 9223372036854775807 → Calls Tryz.prog 55 #[.agg cs', .slice (some ⟨g, o, none⟩) (m + 1) c, .agg #[.int .i64 0, .int .i64 100000000], .agg (plV r)] W fun e w' => e = .returned (.tuple #[.int .i64 DN, .int .i64 0]) ∧ Below W.heap.size W w') := fun cs' sa' sc' qb qo qc' gb go gc' g o c W hk hf _ _ => by
                have h := Exposure_ok g o (m + 1) c l 0 100000000 r W hk hf HGR.out HGP.out (by omega) (by omega) (by omega)
                rwa [← hDN] at h
              clear hCN hDN
              go_upto_region 39 with fail
              refine wp_region_allN 13 rfl (by kernel_rfl) (by kernel_rfl) [GR.eq (.agg cs), GR.gv nm sh T sn qn gn, GR.eq (.slice (some ⟨gO, 0, none⟩) (m + 1) cO), GR.trkL (m + 1) (Bell.strong AD l), GR.eq (.agg #[.int .i64 0, .int .i64 100000000]), GR.eq (.pointer (some ⟨g5, 0, none⟩)), GR.eq (.agg (plV r)), GR.eq (.tuple #[.int .i64 CN, .int .i64 0]), GR.eq (.tuple #[.int .i64 CN, .int .i64 0]), GR.eq (.int .i64 CN), GR.eq (.int .i64 0), GR.eq (.int .i64 CN), GR.eq (.int .i64 0)] 364 rfl (by kernel_rfl) ?_ ?_
              · refine ⟨?_, ?_, ?_, ?_, ?_, ?_, ?_, ?_, ?_, ?_, ?_, ?_, ?_, trivial⟩
                · intro a W hE hd ho
                  have e3 : a.tmps[3]?.getD undef = .pointer (some ⟨g3, 0, none⟩) := ho 3 (by kernel_rfl)
                  exact gs_load 26 (.tmp 3) rfl ⟨g3, 0, none⟩ (.agg cs) ((eval_getD _ _).trans e3) ((TT.out.below hE).lv Tryz.prog Tryz.underlying26 rfl IT.out) rfl
                · intro a W hE hd ho
                  have e324 : a.tmps[324]?.getD undef = .agg cs := hd 0 324 (by kernel_rfl) (by kernel_rfl)
                  refine gs_call (f := 16) (args := #[.agg cs]) (by go_simp) ?_
                  refine (given_any W (HT.out.keep hE) HNG.out.2 HNG.out.1 HSN.out.name).mono ?_
                  rintro e w9 ⟨cs', sa', sc', qb, qo, qc', gb, go, gc', rfl, h1, h2⟩
                  exact ⟨_, rfl, h2, cs', sa', sc', qb, qo, qc', gb, go, gc', rfl, h1⟩
                · intro a W hE hd ho
                  have e27 : a.tmps[27]?.getD undef = .slice (some ⟨gO, 0, none⟩) (m + 1) cO := ho 27 (by kernel_rfl)
                  exact gs_same (v := .slice (some ⟨gO, 0, none⟩) (m + 1) cO) (by go_simp) rfl
                · intro a W hE hd ho
                  have e326 : a.tmps[326]?.getD undef = .slice (some ⟨gO, 0, none⟩) (m + 1) cO := hd 2 326 (by kernel_rfl) (by kernel_rfl)
                  refine gs_call (f := 36) (args := #[.slice (some ⟨gO, 0, none⟩) (m + 1) cO]) (by go_simp) ?_
                  refine (fixes_any (some ⟨gO, 0, none⟩) (m + 1) cO (Bell.strong AD l) W (HST.out.keep hE) (by omega)).mono ?_
                  rintro e w9 ⟨A', c', rfl, h1, h2, h3⟩
                  obtain ⟨g', o', rfl, h4⟩ := h1.2 (by omega)
                  exact ⟨_, rfl, h3, g', o', c', rfl, h4, h2.1, h2.2⟩
                · intro a W hE hd ho
                  refine gs_call (f := 79) (args := #[]) (by go_simp) ?_
                  refine (all_any W).mono ?_
                  rintro e w' ⟨rfl, hb⟩
                  exact ⟨_, rfl, hb, rfl⟩
                · intro a W hE hd ho
                  have e5 : a.tmps[5]?.getD undef = .pointer (some ⟨g5, 0, none⟩) := ho 5 (by kernel_rfl)
                  exact gs_same (v := .pointer (some ⟨g5, 0, none⟩)) (by go_simp) rfl
                · intro a W hE hd ho
                  have e329 : a.tmps[329]?.getD undef = .pointer (some ⟨g5, 0, none⟩) := hd 5 329 (by kernel_rfl) (by kernel_rfl)
                  have c0 := (X.out.below hE).cell 0
                  have c1 := (X.out.below hE).cell 1
                  have c2 := (X.out.below hE).cell 2
                  simp only [List.getElem?_toArray, List.getElem?_cons_zero, List.getElem?_cons_succ] at c0 c1 c2
                  exact gs_same (v := .agg #[.int .i64 r.x, .int .i64 r.y, .int .i64 r.z]) (by go_simp) rfl
                · intro a W hE hd ho
                  have e328 : a.tmps[328]?.getD undef = .agg #[.int .i64 0, .int .i64 100000000] := hd 4 328 (by kernel_rfl) (by kernel_rfl)
                  have e330 : a.tmps[330]?.getD undef = .agg (plV r) := hd 6 330 (by kernel_rfl) (by kernel_rfl)
                  obtain ⟨cs', sa', sc', qb, qo, qc', gb, go, gc', e325, hk⟩ : ∃ cs sa sc qb qo qc gb go gc, a.tmps[325]?.getD undef = .agg cs ∧ TyOk W cs nm sh T sa sn sc qb qo qn qc gb go gn gc := hd 1 325 (by kernel_rfl) (by kernel_rfl)
                  obtain ⟨g', o', c', e327, hf, hc1, hc2⟩ : ∃ g o c, a.tmps[327]?.getD undef = .slice (some ⟨g, o, none⟩) (m + 1) c ∧ FixesAt W g o (m + 1) (Bell.strong AD l) ∧ m + 1 ≤ c ∧ c ≤ 9223372036854775807 := hd 3 327 (by kernel_rfl) (by kernel_rfl)
                  refine gs_call (f := 55) (args := #[.agg cs', .slice (some ⟨g', o', none⟩) (m + 1) c', .agg #[.int .i64 0, .int .i64 100000000], .agg (plV r)]) (by go_simp) ?_
                  refine (E6.out _ _ _ _ _ _ _ _ _ _ _ _ W hk hf hc1 hc2).mono ?_
                  rintro e w' ⟨rfl, hb⟩
                  exact ⟨_, rfl, hb, rfl⟩
                · intro a W hE hd ho
                  have e331 : a.tmps[331]?.getD undef = .tuple #[.int .i64 CN, .int .i64 0] := hd 7 331 (by kernel_rfl) (by kernel_rfl)
                  exact gs_same (v := .tuple #[.int .i64 CN, .int .i64 0]) (by go_simp) rfl
                · intro a W hE hd ho
                  have e323 : a.tmps[323]?.getD undef = .tuple #[.int .i64 CN, .int .i64 0] := hd 8 323 (by kernel_rfl) (by kernel_rfl)
                  exact gs_same (v := .int .i64 CN) (by go_simp) rfl
                · intro a W hE hd ho
                  have e323 : a.tmps[323]?.getD undef = .tuple #[.int .i64 CN, .int .i64 0] := hd 8 323 (by kernel_rfl) (by kernel_rfl)
                  exact gs_same (v := .int .i64 0) (by go_simp) rfl
                · intro a W hE hd ho
                  have e332 : a.tmps[332]?.getD undef = .int .i64 CN := hd 9 332 (by kernel_rfl) (by kernel_rfl)
                  exact gs_same (v := .int .i64 CN) (by go_simp) rfl
                · intro a W hE hd ho
                  have e333 : a.tmps[333]?.getD undef = .int .i64 0 := hd 10 333 (by kernel_rfl) (by kernel_rfl)
                  exact gs_same (v := .int .i64 0) (by go_simp) rfl
              intro v9 w16 hE hR
              have y0 : v9 0 = .agg cs := hR 0 (by omega)
              obtain ⟨vgv, y1⟩ : ∃ v, v9 1 = v := ⟨_, rfl⟩
              have y2 : v9 2 = .slice (some ⟨gO, 0, none⟩) (m + 1) cO := hR 2 (by omega)
              obtain ⟨vfx, y3⟩ : ∃ v, v9 3 = v := ⟨_, rfl⟩
              have y4 : v9 4 = .agg #[.int .i64 0, .int .i64 100000000] := hR 4 (by omega)
              have y5 : v9 5 = .pointer (some ⟨g5, 0, none⟩) := hR 5 (by omega)
              have y6 : v9 6 = .agg (plV r) := hR 6 (by omega)
              have y7 : v9 7 = .tuple #[.int .i64 CN, .int .i64 0] := hR 7 (by omega)
              have y8 : v9 8 = .tuple #[.int .i64 CN, .int .i64 0] := hR 8 (by omega)
              have y9 : v9 9 = .int .i64 CN := hR 9 (by omega)
              have y10 : v9 10 = .int .i64 0 := hR 10 (by omega)
              have y11 : v9 11 = .int .i64 CN := hR 11 (by omega)
              have y12 : v9 12 = .int .i64 0 := hR 12 (by omega)
              simp only [List.range, List.range.loop, List.foldl_cons, List.foldl_nil, y0, y1, y2, y3, y4, y5, y6, y7, y8, y9, y10, y11, y12, List.drop_succ_cons, List.drop_zero]
              simp only [dstAt, List.getElem?_toArray, List.getElem?_cons_zero, List.getElem?_cons_succ, Option.bind_some, Act.put, List.setIfInBounds_toArray, List.set_cons_zero, List.set_cons_succ]
              clear y0 y1 y2 y3 y4 y5 y6 y7 y8 y9 y10 y11 y12 hR
              have hb := hE.below
              replace HB := Lib.hid (HB.out.trans (hb.mono HB.out.size))
              replace U := Lib.hid (U.out.keep hb)
              replace F := Lib.hid (F.out.keep hb)
              replace TB := Lib.hid (TB.out.keep hb)
              replace HT := Lib.hid (HT.out.keep hb)
              replace HL := Lib.hid (HL.out.keep hb)
              replace TT := Lib.hid (TT.out.below hb)
              replace X := Lib.hid (X.out.below hb)
              replace HST := Lib.hid (HST.out.keep hb)
              replace HR2 := Lib.hid (HR2.out.keep hb)
              replace TL := Lib.hid (TL.out.below hb)
              clear hb
              clear hE E6
              go_upto_region 40 with fail
              refine wp_region_allN 13 rfl (by kernel_rfl) (by kernel_rfl) [GR.eq (.agg tw), GR.gv nm sh { T with sets := Bell.loud more T.sets } sn qn gn, GR.eq (.slice (some ⟨b, off, none⟩) (m + 1) c), GR.trkL (m + 1) l, GR.eq (.agg #[.int .i64 0, .int .i64 100000000]), GR.eq (.pointer (some ⟨g5, 0, none⟩)), GR.eq (.agg (plV r)), GR.eq (.tuple #[.int .i64 DN, .int .i64 0]), GR.eq (.tuple #[.int .i64 DN, .int .i64 0]), GR.eq (.int .i64 DN), GR.eq (.int .i64 0), GR.eq (.int .i64 DN), GR.eq (.int .i64 0)] 364 rfl (by kernel_rfl) ?_ ?_
              · refine ⟨?_, ?_, ?_, ?_, ?_, ?_, ?_, ?_, ?_, ?_, ?_, ?_, ?_, trivial⟩
                · intro a W hE hd ho
                  have e29 : a.tmps[29]?.getD undef = .pointer (some ⟨g29, 0, none⟩) := ho 29 (by kernel_rfl)
                  exact gs_load 26 (.tmp 29) rfl ⟨g29, 0, none⟩ (.agg tw) ((eval_getD _ _).trans e29) ((TL.out.below hE).lv Tryz.prog Tryz.underlying26 rfl tin.out) rfl
                · intro a W hE hd ho
                  have e335 : a.tmps[335]?.getD undef = .agg tw := hd 0 335 (by kernel_rfl) (by kernel_rfl)
                  refine gs_call (f := 16) (args := #[.agg tw]) (by go_simp) ?_
                  refine (given_any W (HR2.out.keep hE) HG2.out HNG.out.1 HSN.out.name).mono ?_
                  rintro e w9 ⟨cs', sa', sc', qb, qo, qc', gb, go, gc', rfl, h1, h2⟩
                  exact ⟨_, rfl, h2, cs', sa', sc', qb, qo, qc', gb, go, gc', rfl, h1⟩
                · intro a W hE hd ho
                  have e1 : a.tmps[1]?.getD undef = .slice (some ⟨b, off, none⟩) (m + 1) c := ho 1 (by kernel_rfl)
                  exact gs_same (v := .slice (some ⟨b, off, none⟩) (m + 1) c) (by go_simp) rfl
                · intro a W hE hd ho
                  have e337 : a.tmps[337]?.getD undef = .slice (some ⟨b, off, none⟩) (m + 1) c := hd 2 337 (by kernel_rfl) (by kernel_rfl)
                  refine gs_call (f := 36) (args := #[.slice (some ⟨b, off, none⟩) (m + 1) c]) (by go_simp) ?_
                  refine (fixes_any (some ⟨b, off, none⟩) (m + 1) c l W (HL.out.keep hE) (by omega)).mono ?_
                  rintro e w9 ⟨A', c', rfl, h1, h2, h3⟩
                  obtain ⟨g', o', rfl, h4⟩ := h1.2 (by omega)
                  exact ⟨_, rfl, h3, g', o', c', rfl, h4, h2.1, h2.2⟩
                · intro a W hE hd ho
                  refine gs_call (f := 79) (args := #[]) (by go_simp) ?_
                  refine (all_any W).mono ?_
                  rintro e w' ⟨rfl, hb⟩
                  exact ⟨_, rfl, hb, rfl⟩
                · intro a W hE hd ho
                  have e5 : a.tmps[5]?.getD undef = .pointer (some ⟨g5, 0, none⟩) := ho 5 (by kernel_rfl)
                  exact gs_same (v := .pointer (some ⟨g5, 0, none⟩)) (by go_simp) rfl
                · intro a W hE hd ho
                  have e340 : a.tmps[340]?.getD undef = .pointer (some ⟨g5, 0, none⟩) := hd 5 340 (by kernel_rfl) (by kernel_rfl)
                  have c0 := (X.out.below hE).cell 0
                  have c1 := (X.out.below hE).cell 1
                  have c2 := (X.out.below hE).cell 2
                  simp only [List.getElem?_toArray, List.getElem?_cons_zero, List.getElem?_cons_succ] at c0 c1 c2
                  exact gs_same (v := .agg #[.int .i64 r.x, .int .i64 r.y, .int .i64 r.z]) (by go_simp) rfl
                · intro a W hE hd ho
                  have e339 : a.tmps[339]?.getD undef = .agg #[.int .i64 0, .int .i64 100000000] := hd 4 339 (by kernel_rfl) (by kernel_rfl)
                  have e341 : a.tmps[341]?.getD undef = .agg (plV r) := hd 6 341 (by kernel_rfl) (by kernel_rfl)
                  obtain ⟨cs', sa', sc', qb, qo, qc', gb, go, gc', e336, hk⟩ : ∃ cs sa sc qb qo qc gb go gc, a.tmps[336]?.getD undef = .agg cs ∧ TyOk W cs nm sh { T with sets := Bell.loud more T.sets } sa sn sc qb qo qn qc gb go gn gc := hd 1 336 (by kernel_rfl) (by kernel_rfl)
                  obtain ⟨g', o', c', e338, hf, hc1, hc2⟩ : ∃ g o c, a.tmps[338]?.getD undef = .slice (some ⟨g, o, none⟩) (m + 1) c ∧ FixesAt W g o (m + 1) l ∧ m + 1 ≤ c ∧ c ≤ 9223372036854775807 := hd 3 338 (by kernel_rfl) (by kernel_rfl)
                  refine gs_call (f := 55) (args := #[.agg cs', .slice (some ⟨g', o', none⟩) (m + 1) c', .agg #[.int .i64 0, .int .i64 100000000], .agg (plV r)]) (by go_simp) ?_
                  refine (E7.out _ _ _ _ _ _ _ _ _ _ _ _ W hk hf hc1 hc2).mono ?_
                  rintro e w' ⟨rfl, hb⟩
                  exact ⟨_, rfl, hb, rfl⟩
                · intro a W hE hd ho
                  have e342 : a.tmps[342]?.getD undef = .tuple #[.int .i64 DN, .int .i64 0] := hd 7 342 (by kernel_rfl) (by kernel_rfl)
                  exact gs_same (v := .tuple #[.int .i64 DN, .int .i64 0]) (by go_simp) rfl
                · intro a W hE hd ho
                  have e334 : a.tmps[334]?.getD undef = .tuple #[.int .i64 DN, .int .i64 0] := hd 8 334 (by kernel_rfl) (by kernel_rfl)
                  exact gs_same (v := .int .i64 DN) (by go_simp) rfl
                · intro a W hE hd ho
                  have e334 : a.tmps[334]?.getD undef = .tuple #[.int .i64 DN, .int .i64 0] := hd 8 334 (by kernel_rfl) (by kernel_rfl)
                  exact gs_same (v := .int .i64 0) (by go_simp) rfl
                · intro a W hE hd ho
                  have e343 : a.tmps[343]?.getD undef = .int .i64 DN := hd 9 343 (by kernel_rfl) (by kernel_rfl)
                  exact gs_same (v := .int .i64 DN) (by go_simp) rfl
                · intro a W hE hd ho
                  have e344 : a.tmps[344]?.getD undef = .int .i64 0 := hd 10 344 (by kernel_rfl) (by kernel_rfl)
                  exact gs_same (v := .int .i64 0) (by go_simp) rfl
              intro v9 w17 hE hR
              have y0 : v9 0 = .agg tw := hR 0 (by omega)
              obtain ⟨vgv, y1⟩ : ∃ v, v9 1 = v := ⟨_, rfl⟩
              have y2 : v9 2 = .slice (some ⟨b, off, none⟩) (m + 1) c := hR 2 (by omega)
              obtain ⟨vfx, y3⟩ : ∃ v, v9 3 = v := ⟨_, rfl⟩
              have y4 : v9 4 = .agg #[.int .i64 0, .int .i64 100000000] := hR 4 (by omega)
              have y5 : v9 5 = .pointer (some ⟨g5, 0, none⟩) := hR 5 (by omega)
              have y6 : v9 6 = .agg (plV r) := hR 6 (by omega)
              have y7 : v9 7 = .tuple #[.int .i64 DN, .int .i64 0] := hR 7 (by omega)
              have y8 : v9 8 = .tuple #[.int .i64 DN, .int .i64 0] := hR 8 (by omega)
              have y9 : v9 9 = .int .i64 DN := hR 9 (by omega)
              have y10 : v9 10 = .int .i64 0 := hR 10 (by omega)
              have y11 : v9 11 = .int .i64 DN := hR 11 (by omega)
              have y12 : v9 12 = .int .i64 0 := hR 12 (by omega)
              simp only [List.range, List.range.loop, List.foldl_cons, List.foldl_nil, y0, y1, y2, y3, y4, y5, y6, y7, y8, y9, y10, y11, y12, List.drop_succ_cons, List.drop_zero]
              simp only [dstAt, List.getElem?_toArray, List.getElem?_cons_zero, List.getElem?_cons_succ, Option.bind_some, Act.put, List.setIfInBounds_toArray, List.set_cons_zero, List.set_cons_succ]
              clear y0 y1 y2 y3 y4 y5 y6 y7 y8 y9 y10 y11 y12 hR
              have hb := hE.below
              replace HB := Lib.hid (HB.out.trans (hb.mono HB.out.size))
              replace U := Lib.hid (U.out.keep hb)
              replace F := Lib.hid (F.out.keep hb)
              replace TB := Lib.hid (TB.out.keep hb)
              clear hb
              clear hE E7
              obtain ⟨g1, g2⟩ := HGE2.out
              go_wp2_with fail
              refine (awake2_any w17 U.out F.out TB.out).mono ?_
              rintro e wZ ⟨rfl, hb⟩
              replace HB := Lib.hid (HB.out.trans (hb.mono HB.out.size))
              clear hb
              go_wp2
              go_ret
              exact ⟨rfl, HB.out⟩
end Go.Proofs.YtmafmebcgmegeaaGreatDoor
