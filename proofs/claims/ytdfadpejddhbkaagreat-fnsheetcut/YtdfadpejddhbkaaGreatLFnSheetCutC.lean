/- Proved here: the law FnSheetCut answers true at every code, and leaves it as it was; no condition. -/
import Derived.Test.YtdfadpejddhbkaaGreatH2
import Derived.Test.YtdfadpejddhbkaaGreatH5
import Derived.Test.YtdfadpejddhbkaaGreatH4
import Derived.BigQuiet
namespace Go.Proofs.YtdfadpejddhbkaaGreat
set_option linter.unusedVariables false
open Go.ChangeShapes Go.WideShapes Go.ChangeAt Go.RowKit

set_option maxRecDepth 100000 in
set_option maxHeartbeats 8000000 in
theorem fnSheetCut_walk (a : Option Addr) (n cap : Nat) (w : World) (h : CodeAt w a n) (hl : n ≤ 1048576) (hc : n ≤ cap) :
    Calls Tryz.prog 3 #[.slice a n cap] w fun e w' => e = .returned (.bool true) ∧ Below w.heap.size w w' := by
  have HC := Lib.hid h
  clear h
  have hg : ¬ (1048576 : Int) < (n : Int) := by omega
  go_enter Tryz.func3, Tryz.ntmps3
  go_wp2_with fail
  refine (drawSheetCut_any _ _ _ _ HC.out hl hc).mono ?_
  rintro e w1 ⟨sa, sc, s, id, rfl, hF, hlen, hFL, hid, hb1⟩
  have B := Lib.hid hb1
  have S := Lib.hid hF
  have SL : Hid (FeatsLen s 1048576) := hFL.mono (by omega)
  have m1 : s.length ≤ 1048576 := by omega
  have IC : Hid (∀ a c u, FeatsAt u a s → Calls Tryz.prog 15 #[.slice a s.length c, .string id] u (ListAns u (cutR s id) (getHas s id))) := fun a c u h => implSheetCut_any a c s id u h m1 SL.out (by omega)
  have SC : Hid (∀ a c u, FeatsAt u a s → Calls Tryz.prog 16 #[.slice a s.length c, .string id] u fun e w' => (∃ v, e = .returned (.tuple #[v, .bool (getHas s id)]) ∧ GotL u.heap.size w'.heap.size w' v (cutR s id)) ∧ Below u.heap.size u w') := fun a c u h => specSheetCut_any a c s id u h m1 SL.out
  have IG : Hid (∀ a c u, FeatsAt u a s → Calls Tryz.prog 17 #[.slice a s.length c, .string id] u fun e w' => ∃ v, e = .returned (.tuple #[v, .bool (getHas s id)]) ∧ FeatAns u (getFt s id).1 (getFt s id).2.1 (getFt s id).2.2.1 (getFt s id).2.2.2 v w') := fun a c u h => implSheetGet_any a c s id u h m1 SL.out (by omega)
  have SG : Hid (∀ a c u, FeatsAt u a s → Calls Tryz.prog 18 #[.slice a s.length c, .string id] u fun e w' => (∃ v, e = .returned (.tuple #[v, .bool (getHas s id)]) ∧ Got u.heap.size w'.heap.size w' v (getFt s id)) ∧ Below u.heap.size u w') := fun a c u h => specSheetGet_any a c s id u h m1 SL.out
  have NO : Hid (getHas s id = false → cutR s id = []) := fun h => by simp [cutR, h]
  have YES := Lib.hid (fun h => cut_back (fs := s) (id := id) h)
  have XL : Hid (FeatsLen (cutR s id) 1048576) := cutR_lens SL.out
  have xm : (cutR s id).length ≤ 1048576 := Nat.le_trans (cutR_len s id) m1
  have GL : Hid (FtLen (getFt s id) 1048576) := getFt_len SL.out (by omega)
  clear hF hFL hb1 HC
  generalize cutR s id = x at *
  generalize getFt s id = g at *
  generalize getHas s id = ok at *
  have XX : Hid (∀ a c a' c' u, FeatsAt u a x → FeatsAt u a' x → Calls Tryz.prog 19 #[.slice a x.length c, .slice a' x.length c'] u fun e w' => e = .returned (.bool true) ∧ Below u.heap.size u w') := fun a c a' c' u h h' => (implSheetSame_any a a' c c' x x u h h' xm xm XL.out XL.out).mono fun e w' ⟨he, hb⟩ => ⟨by rw [he]; simp [fsEq], hb⟩
  have GG : Hid (∀ a c b d a' c' b' d' u, PtsAt u a g.2.2.1 → PtsAt u a' g.2.2.1 → TagsAt u b g.2.2.2 → TagsAt u b' g.2.2.2 → Calls Tryz.prog 20 #[.agg #[.string g.1, .int .i64 g.2.1, .slice a g.2.2.1.length c, .slice b g.2.2.2.length d], .agg #[.string g.1, .int .i64 g.2.1, .slice a' g.2.2.1.length c', .slice b' g.2.2.2.length d']] u fun e w' => e = .returned (.bool true) ∧ Below u.heap.size u w') := fun a c b d a' c' b' d' u h1 h2 h3 h4 => (implFeatSame_any g.1 g.1 g.2.1 g.2.1 a a' c c' g.2.2.1 g.2.2.1 b b' d d' g.2.2.2 g.2.2.2 u h1 h2 h3 h4 (by have := GL.out.2.1; omega) (by have := GL.out.2.1; omega) (by have := GL.out.2.2.1; omega) (by have := GL.out.2.2.1; omega)).mono fun e w' ⟨he, hb⟩ => ⟨by rw [he]; simp [featEq, shEq, ptsEq, tgsEq], hb⟩
  go_wp2_with fail
  refine (IC.out _ _ _ S.out).mono ?_
  rintro e w2 ⟨⟨vx, adx, rfl, hbu⟩, hn⟩
  obtain ⟨xa, xc, rfl, hX⟩ := hbu.listH
  have X := Lib.hid hX.reads
  replace B : Hid (Below w.heap.size w w2) := B.out.trans (hn.mono B.out.size)
  replace S := Lib.hid (S.out.below hn)
  clear hn hbu hX IC
  go_wp2_with fail
  refine (SC.out _ _ _ S.out).mono ?_
  rintro e w3 ⟨⟨vw, rfl, hG⟩, hn⟩
  obtain ⟨wa, wc, rfl, hG2⟩ := hG
  have W := Lib.hid hG2.1
  replace B : Hid (Below w.heap.size w w3) := B.out.trans (hn.mono B.out.size)
  replace S := Lib.hid (S.out.below hn)
  replace X := Lib.hid (X.out.below hn)
  clear hn hG2 SC
  go_wp2_with fail
  refine (IG.out _ _ _ S.out).mono ?_
  rintro e w4 ⟨v, rfl, pa, pc, ta, tc, rfl, hP, _, _, hT, _, _, _, hn⟩
  have P := Lib.hid hP
  have T := Lib.hid hT
  replace B : Hid (Below w.heap.size w w4) := B.out.trans (hn.mono B.out.size)
  replace S := Lib.hid (S.out.below hn)
  replace X := Lib.hid (X.out.below hn)
  replace W := Lib.hid (W.out.below hn)
  clear hn hP hT IG
  go_wp2_with fail
  refine (SG.out _ _ _ (S.out.below ((Below.refl _ _).alloc (Nat.le_refl _) _))).mono ?_
  rintro e w5 ⟨⟨v, rfl, hG⟩, hn0⟩
  obtain ⟨qa, qc, ua, uc, rfl, hQ, hU, _, _⟩ := hG
  have Q := Lib.hid hQ
  have U := Lib.hid hU
  have G4 : Hid (Box4 w5 w4.heap.size (.string g.1) (.int .i64 g.2.1) (.slice pa g.2.2.1.length pc) (.slice ta g.2.2.2.length tc)) := (Box4.new w4 _ _ _ _ _).later hn0
  have hn : Below w4.heap.size w4 w5 := ((Below.refl _ _).alloc (Nat.le_refl _) _).trans (hn0.mono (by simp))
  replace B : Hid (Below w.heap.size w w5) := B.out.trans (hn.mono B.out.size)
  replace S := Lib.hid (S.out.below hn)
  replace X := Lib.hid (X.out.below hn)
  replace W := Lib.hid (W.out.below hn)
  replace P := Lib.hid (P.out.below hn)
  replace T := Lib.hid (T.out.below hn)
  clear hn hn0 hQ hU SG
  obtain ⟨u5, hu⟩ : ∃ u5, u5 = w5.alloc (.cells #[.string g.1, .int .i64 g.2.1, .slice qa g.2.2.1.length qc, .slice ua g.2.2.2.length uc] 33) := ⟨_, rfl⟩
  have hn : Below w5.heap.size w5 u5 := by rw [hu]; exact ((Below.refl _ _).alloc (Nat.le_refl _) _)
  have H4 : Hid (Box4 u5 w5.heap.size (.string g.1) (.int .i64 g.2.1) (.slice qa g.2.2.1.length qc) (.slice ua g.2.2.2.length uc)) := by rw [hu]; exact Box4.new w5 _ _ _ _ _
  replace B : Hid (Below w.heap.size w u5) := B.out.trans (hn.mono B.out.size)
  replace S := Lib.hid (S.out.below hn)
  replace X := Lib.hid (X.out.below hn)
  replace W := Lib.hid (W.out.below hn)
  replace P := Lib.hid (P.out.below hn)
  replace T := Lib.hid (T.out.below hn)
  replace Q := Lib.hid (Q.out.below hn)
  replace U := Lib.hid (U.out.below hn)
  replace G4 := Lib.hid (G4.out.later hn)
  clear hn
  cases ok
  · obtain rfl := NO.out rfl
    clear YES NO
    go_upto_region 8 with (fail)
    rw [← hu]
    clear hu
    obtain ⟨c0, c1, c2, c3⟩ := G4.out
    obtain ⟨d0, d1, d2, d3⟩ := H4.out
    go_wp2_with fail
    refine (XX.out _ _ _ _ _ X.out W.out).mono ?_
    rintro e w6 ⟨rfl, hn⟩
    clear c0 c1 c2 c3 d0 d1 d2 d3
    replace B : Hid (Below w.heap.size w w6) := B.out.trans (hn.mono B.out.size)
    replace S := Lib.hid (S.out.below hn)
    replace X := Lib.hid (X.out.below hn)
    replace W := Lib.hid (W.out.below hn)
    replace P := Lib.hid (P.out.below hn)
    replace T := Lib.hid (T.out.below hn)
    replace Q := Lib.hid (Q.out.below hn)
    replace U := Lib.hid (U.out.below hn)
    replace G4 := Lib.hid (G4.out.later hn)
    replace H4 := Lib.hid (H4.out.later hn)
    clear hn
    obtain ⟨c0, c1, c2, c3⟩ := G4.out
    obtain ⟨d0, d1, d2, d3⟩ := H4.out
    go_wp2_with fail
    refine (GG.out _ _ _ _ _ _ _ _ _ P.out Q.out T.out U.out).mono ?_
    rintro e w7 ⟨rfl, hn⟩
    clear c0 c1 c2 c3 d0 d1 d2 d3
    replace B : Hid (Below w.heap.size w w7) := B.out.trans (hn.mono B.out.size)
    replace S := Lib.hid (S.out.below hn)
    replace X := Lib.hid (X.out.below hn)
    replace W := Lib.hid (W.out.below hn)
    replace P := Lib.hid (P.out.below hn)
    replace T := Lib.hid (T.out.below hn)
    replace Q := Lib.hid (Q.out.below hn)
    replace U := Lib.hid (U.out.below hn)
    replace G4 := Lib.hid (G4.out.later hn)
    replace H4 := Lib.hid (H4.out.later hn)
    clear hn
    go_wp2
    go_ret
    exact ⟨rfl, B.out⟩
  · obtain ⟨y1, y2, y3, y4, y5⟩ := YES.out rfl
    have IG : Hid (∀ a c u, FeatsAt u a x → Calls Tryz.prog 17 #[.slice a x.length c, .string id] u fun e w' => ∃ v, e = .returned (.tuple #[v, .bool false]) ∧ FeatAns u (getFt x id).1 (getFt x id).2.1 (getFt x id).2.2.1 (getFt x id).2.2.2 v w') := fun a c u h => by
      have := implSheetGet_any a c x id u h xm XL.out (by omega)
      rw [y1] at this
      exact this
    have IP : Hid (∀ a c pa pc ta tc u, FeatsAt u a x → PtsAt u pa g.2.2.1 → TagsAt u ta g.2.2.2 → Calls Tryz.prog 21 #[.slice a x.length c, .agg #[.string g.1, .int .i64 g.2.1, .slice pa g.2.2.1.length pc, .slice ta g.2.2.2.length tc]] u (ListAns u s true)) := fun a c pa pc ta tc u h1 h2 h3 => by
      have := implSheetPut_any a c x g pa ta pc tc u h1 xm XL.out h2 h3 GL.out
      rw [y4, y5] at this
      exact this
    have OK : Hid (∀ a c u, FeatsAt u a x → Calls Tryz.prog 22 #[.slice a x.length c] u fun e w' => e = .returned (.bool true) ∧ Below u.heap.size u w') := fun a c u h => (implSheetOk_any a c x u h xm XL.out).mono fun e w' ⟨he, hb⟩ => ⟨by rw [he, y2], hb⟩
    have ZZ : Hid (∀ a c a' c' u, FeatsAt u a s → FeatsAt u a' s → Calls Tryz.prog 19 #[.slice a s.length c, .slice a' s.length c'] u fun e w' => e = .returned (.bool true) ∧ Below u.heap.size u w') := fun a c a' c' u h h' => (implSheetSame_any a a' c c' s s u h h' m1 m1 SL.out SL.out).mono fun e w' ⟨he, hb⟩ => ⟨by rw [he]; simp [fsEq], hb⟩
    have e1 : IntKind.i64.wrap ((s.length : Int) - 1) = (x.length : Int) := by rw [IntWalk.i64_in _ (by omega)]; exact y3
    clear YES NO y1 y2 y3 y4 y5
    generalize getFt x id = g' at *
    go_upto_region 8 with (fail)
    rw [← hu]
    clear hu
    obtain ⟨c0, c1, c2, c3⟩ := G4.out
    obtain ⟨d0, d1, d2, d3⟩ := H4.out
    go_wp2_with fail
    refine (XX.out _ _ _ _ _ X.out W.out).mono ?_
    rintro e w6 ⟨rfl, hn⟩
    clear c0 c1 c2 c3 d0 d1 d2 d3
    replace B : Hid (Below w.heap.size w w6) := B.out.trans (hn.mono B.out.size)
    replace S := Lib.hid (S.out.below hn)
    replace X := Lib.hid (X.out.below hn)
    replace W := Lib.hid (W.out.below hn)
    replace P := Lib.hid (P.out.below hn)
    replace T := Lib.hid (T.out.below hn)
    replace Q := Lib.hid (Q.out.below hn)
    replace U := Lib.hid (U.out.below hn)
    replace G4 := Lib.hid (G4.out.later hn)
    replace H4 := Lib.hid (H4.out.later hn)
    clear hn
    obtain ⟨c0, c1, c2, c3⟩ := G4.out
    obtain ⟨d0, d1, d2, d3⟩ := H4.out
    go_wp2_with fail
    refine (GG.out _ _ _ _ _ _ _ _ _ P.out Q.out T.out U.out).mono ?_
    rintro e w7 ⟨rfl, hn⟩
    clear c0 c1 c2 c3 d0 d1 d2 d3
    replace B : Hid (Below w.heap.size w w7) := B.out.trans (hn.mono B.out.size)
    replace S := Lib.hid (S.out.below hn)
    replace X := Lib.hid (X.out.below hn)
    replace W := Lib.hid (W.out.below hn)
    replace P := Lib.hid (P.out.below hn)
    replace T := Lib.hid (T.out.below hn)
    replace Q := Lib.hid (Q.out.below hn)
    replace U := Lib.hid (U.out.below hn)
    replace G4 := Lib.hid (G4.out.later hn)
    replace H4 := Lib.hid (H4.out.later hn)
    clear hn
    go_wp2_with fail
    refine (IG.out _ _ _ X.out).mono ?_
    rintro e w8 ⟨v, rfl, pa', pc', ta', tc', rfl, _, _, _, _, _, _, _, hn⟩
    replace B : Hid (Below w.heap.size w w8) := B.out.trans (hn.mono B.out.size)
    replace S := Lib.hid (S.out.below hn)
    replace X := Lib.hid (X.out.below hn)
    replace W := Lib.hid (W.out.below hn)
    replace P := Lib.hid (P.out.below hn)
    replace T := Lib.hid (T.out.below hn)
    replace Q := Lib.hid (Q.out.below hn)
    replace U := Lib.hid (U.out.below hn)
    replace G4 := Lib.hid (G4.out.later hn)
    replace H4 := Lib.hid (H4.out.later hn)
    clear hn
    obtain ⟨u8, hu⟩ : ∃ u8, u8 = w8.alloc (.cells #[.string g'.1, .int .i64 g'.2.1, .slice pa' g'.2.2.1.length pc', .slice ta' g'.2.2.2.length tc'] 33) := ⟨_, rfl⟩
    have hn : Below w8.heap.size w8 u8 := by rw [hu]; exact ((Below.refl _ _).alloc (Nat.le_refl _) _)
    replace B : Hid (Below w.heap.size w u8) := B.out.trans (hn.mono B.out.size)
    replace S := Lib.hid (S.out.below hn)
    replace X := Lib.hid (X.out.below hn)
    replace W := Lib.hid (W.out.below hn)
    replace P := Lib.hid (P.out.below hn)
    replace T := Lib.hid (T.out.below hn)
    replace Q := Lib.hid (Q.out.below hn)
    replace U := Lib.hid (U.out.below hn)
    replace G4 := Lib.hid (G4.out.later hn)
    replace H4 := Lib.hid (H4.out.later hn)
    clear hn
    go_upto_region 13 with (fail)
    rw [← hu]
    clear hu
    obtain ⟨c0, c1, c2, c3⟩ := G4.out
    go_wp2_with fail
    refine (IP.out _ _ _ _ _ _ _ X.out P.out T.out).mono ?_
    rintro e w9 ⟨⟨vb, adb, rfl, hbu⟩, hn⟩
    obtain ⟨ya, yc, rfl, hY⟩ := hbu.listH
    have Y := Lib.hid hY.reads
    clear c0 c1 c2 c3
    replace B : Hid (Below w.heap.size w w9) := B.out.trans (hn.mono B.out.size)
    replace S := Lib.hid (S.out.below hn)
    replace X := Lib.hid (X.out.below hn)
    replace W := Lib.hid (W.out.below hn)
    replace P := Lib.hid (P.out.below hn)
    replace T := Lib.hid (T.out.below hn)
    replace Q := Lib.hid (Q.out.below hn)
    replace U := Lib.hid (U.out.below hn)
    replace G4 := Lib.hid (G4.out.later hn)
    replace H4 := Lib.hid (H4.out.later hn)
    clear hn hbu hY
    go_wp2_with fail
    refine (OK.out _ _ _ X.out).mono ?_
    rintro e w10 ⟨rfl, hn⟩
    replace Y := Lib.hid (Y.out.below hn)
    replace B : Hid (Below w.heap.size w w10) := B.out.trans (hn.mono B.out.size)
    replace S := Lib.hid (S.out.below hn)
    replace X := Lib.hid (X.out.below hn)
    replace W := Lib.hid (W.out.below hn)
    replace P := Lib.hid (P.out.below hn)
    replace T := Lib.hid (T.out.below hn)
    replace Q := Lib.hid (Q.out.below hn)
    replace U := Lib.hid (U.out.below hn)
    replace G4 := Lib.hid (G4.out.later hn)
    replace H4 := Lib.hid (H4.out.later hn)
    clear hn
    go_wp2_with fail
    refine (ZZ.out _ _ _ _ _ Y.out S.out).mono ?_
    rintro e w11 ⟨rfl, hn⟩
    replace B : Hid (Below w.heap.size w w11) := B.out.trans (hn.mono B.out.size)
    replace S := Lib.hid (S.out.below hn)
    replace X := Lib.hid (X.out.below hn)
    replace W := Lib.hid (W.out.below hn)
    replace P := Lib.hid (P.out.below hn)
    replace T := Lib.hid (T.out.below hn)
    replace Q := Lib.hid (Q.out.below hn)
    replace U := Lib.hid (U.out.below hn)
    replace G4 := Lib.hid (G4.out.later hn)
    replace H4 := Lib.hid (H4.out.later hn)
    clear hn
    go_wp2
    go_ret
    exact ⟨rfl, B.out⟩

set_option maxHeartbeats 400000 in
theorem fnSheetCut_large (a : Option Addr) (n cap : Nat) (w : World) (hn : 1048576 < n) :
    Calls Tryz.prog 3 #[.slice a n cap] w fun e w' => e = .returned (.bool true) ∧ Below w.heap.size w w' := by
  have hg : (1048576 : Int) < (n : Int) := by omega
  go_enter Tryz.func3, Tryz.ntmps3
  go_wp2
  go_ret
  exact ⟨rfl, Below.refl _ _⟩

theorem fnSheetCut_all (a : Option Addr) (n cap : Nat) (w : World) (h : CodeAt w a n) (hc : n ≤ cap) (_ : n ≤ maxLen) :
    Calls Tryz.prog 3 #[.slice a n cap] w fun e w' => e = .returned (.bool true) ∧ Below w.heap.size w w' := by
  by_cases h1 : n ≤ 1048576
  · exact fnSheetCut_walk a n cap w h h1 hc
  · exact fnSheetCut_large a n cap w (by omega)

set_option maxRecDepth 100000 in
theorem fnSheetCut_lifted (os : Os) (started : os.Started) (H : Type) (enc : TypeId × Value → H) :
    ReturnsInHanded {} Tryz.checked os 3 .any (Rows.fnSheetCutSpec.pre6 enc Tryz.prog Tryz.f3 Rows.fnSheetCutRow.domain false) (Rows.fnSheetCutSpec.post enc Tryz.prog Tryz.f3 false true false false) := by
  refine returnsInHanded_of_change (C := Tryz.checked) own started (by kernel_rfl) Tryz.func3
    (ChangeSpec.witness6 (enc := enc) (C := Tryz.checked) false ⟨#[], #[.slice none 0 0], []⟩ 8 (by kernel_rfl) (by kernel_rfl) (by kernel_rfl) (by kernel_rfl)) ?_
  intro W base args ds gs before hval0 hW _ _
  have hval : ∀ (j : Nat) t v, Tryz.f3.params[j]? = some t → args[j]? = some v → Value.okWide Tryz.prog W .any base t v := hval0
  have hW' := hW
  obtain ⟨p, q, hA0, hV, rfl, _, _⟩ := hW
  have hA : DataW.TrodAll enc Tryz.prog W 0 (fun _ => true) true Tryz.f3.params.toList args.toList ds p := hA0
  rw [Tryz.params3] at hA hval
  obtain ⟨v0, vs0, d0, ds0, p0, q0, hargs, rfl, rfl, h0, r0⟩ := trodAll_cons hA
  obtain ⟨rfl, rfl, rfl⟩ := trodAll_nil r0
  obtain rfl : args = #[v0] := by cases args; simp_all
  obtain ⟨rfl, rfl⟩ := trodVars_none hV
  have k0 := h0
  have lt0 : ∀ x ∈ p0, x.block < W.heap.size := by obtain ⟨m, hm⟩ := k0; exact DataW.trod_lt m _ _ _ hm
  obtain ⟨a0, n0, c0, rfl, f0, g0, m0⟩ := open_code (hval 0 22 v0 rfl rfl) h0
  clear hA0 hval0
  refine (fnSheetCut_all a0 n0 c0 W f0 g0 m0).mono fun e W' ⟨he, bel⟩ => ?_
  subst he
  exact ⟨_, rfl, _, _, _, [], _, [], hW', trodAll_mk1 (shut_bool Tryz.underlying4 _), (trodAll_cons_mk (Below.trod laidOut (by kernel_rfl) (of_decide_eq_true (by kernel_rfl)) k0 bel lt0) trodAll_mk0), rfl, bel.frame _, fun h => by cases h⟩

theorem fnSheetCut_over : Rows.fnSheetCutRow.holds Tryz.pinned (OpenSpec.ofChange Rows.fnSheetCutSpec) :=
  OpenClaim.holds_of_wide 3 Tryz.f3 rfl rfl rfl rfl rfl rfl rfl ⟨rfl, rfl, rfl, rfl, rfl⟩ rfl rfl rfl rfl rfl (by kernel_rfl) Tryz.func3 (by kernel_rfl)
    (of_decide_eq_true (by kernel_rfl)) (by unfold Func.isWrapper; first | (rw [if_pos (by decide +kernel)]; kernel_rfl) | (rw [if_neg (by decide +kernel)]; exact ⟨rfl, rfl⟩))
    (fun os started H enc _ => fnSheetCut_lifted os started H enc)

/-- the given statement -/
theorem fnSheetCut_holds : Rows.FnSheetCutSaid := fnSheetCut_over

end Go.Proofs.YtdfadpejddhbkaaGreat
