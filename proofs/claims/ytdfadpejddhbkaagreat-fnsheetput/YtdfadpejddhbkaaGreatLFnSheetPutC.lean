/- Proved here: the law FnSheetPut answers true at every code, and leaves it as it was; no condition. -/
import Derived.Test.YtdfadpejddhbkaaGreatH6
import Derived.Test.YtdfadpejddhbkaaGreatH5
import Derived.Test.YtdfadpejddhbkaaGreatH4
import Derived.Test.YtdfadpejddhbkaaGreatH2
import Derived.BigQuiet
import Derived.Deep.RegionHeld3
import Derived.Deep.DeepCutAuto
namespace Go.Proofs.YtdfadpejddhbkaaGreat
set_option linter.unusedVariables false
open Go.ChangeShapes Go.WideShapes Go.ChangeAt Go.RowKit

set_option maxRecDepth 100000 in
set_option maxHeartbeats 8000000 in
theorem fnSheetPut_walk (a : Option Addr) (n cap : Nat) (w : World) (h : CodeAt w a n) (hl : n ≤ 1048576) (hc : n ≤ cap) :
    Calls Tryz.prog 4 #[.slice a n cap] w fun e w' => e = .returned (.bool true) ∧ Below w.heap.size w w' := by
  have HC := Lib.hid h
  clear h
  have hg : ¬ (1048576 : Int) < (n : Int) := by omega
  go_enter Tryz.func4, Tryz.ntmps4
  go_wp2_with fail
  refine (drawSheetPut_any _ _ _ _ HC.out hl hc).mono ?_
  rintro e w0 ⟨sa, sc, s, f, pa, pc, ta, tc, rfl, hF, hlen, hFL, hP, hT, s1, s2, s3, s4, hb1⟩
  have B := Lib.hid hb1
  have S := Lib.hid hF
  have SL : Hid (FeatsLen s 1048576) := hFL.mono (by omega)
  have P := Lib.hid hP
  have T := Lib.hid hT
  have FL : Hid (FtLen f 1048576) := ⟨by omega, by omega, by omega, s4.mono (by omega)⟩
  have m1 : s.length ≤ 1048576 := by omega
  have hid : f.1.size ≤ 1048576 := by omega
  clear hF hFL hP hT s1 s2 s3 s4 hb1 HC
  have IP : Hid (∀ a c pa pc ta tc u, FeatsAt u a s → PtsAt u pa f.2.2.1 → TagsAt u ta f.2.2.2 → Calls Tryz.prog 21 #[.slice a s.length c, .agg #[.string f.1, .int .i64 f.2.1, .slice pa f.2.2.1.length pc, .slice ta f.2.2.2.length tc]] u (ListAns u (putRL s f) (putHas s f))) := fun a c pa pc ta tc u h1 h2 h3 => implSheetPut_any a c s f pa ta pc tc u h1 m1 SL.out h2 h3 FL.out
  have SP : Hid (∀ a c pa pc ta tc u, FeatsAt u a s → PtsAt u pa f.2.2.1 → TagsAt u ta f.2.2.2 → Calls Tryz.prog 24 #[.slice a s.length c, .agg #[.string f.1, .int .i64 f.2.1, .slice pa f.2.2.1.length pc, .slice ta f.2.2.2.length tc]] u fun e w' => (∃ v, e = .returned (.tuple #[v, .bool (putHas s f)]) ∧ GotL u.heap.size w'.heap.size w' v (putRL s f)) ∧ Below u.heap.size u w') := fun a c pa pc ta tc u h1 h2 h3 => specSheetPut_any a c s f pa ta pc tc u h1 m1 SL.out h2 h3 FL.out
  have NO : Hid (putHas s f = false → putRL s f = []) := fun h => by simp [putRL, h]
  have GET := Lib.hid (fun h => put_get (s := s) (f := f) h)
  have OLD := Lib.hid (fun h => put_old (s := s) (f := f) h)
  have NEW := Lib.hid (fun h => put_new (s := s) (f := f) h)
  have XL : Hid (FeatsLen (putRL s f) 1048576) := putRL_lens SL.out FL.out
  have xm : (putRL s f).length ≤ 1048576 := by have := putRL_len s f; omega
  generalize putRL s f = x at *
  generalize putHas s f = ok at *
  have XX : Hid (∀ a c a' c' u, FeatsAt u a x → FeatsAt u a' x → Calls Tryz.prog 19 #[.slice a x.length c, .slice a' x.length c'] u fun e w' => e = .returned (.bool true) ∧ Below u.heap.size u w') := fun a c a' c' u h h' => (implSheetSame_any a a' c c' x x u h h' xm xm XL.out XL.out).mono fun e w' ⟨he, hb⟩ => ⟨by rw [he]; simp [fsEq], hb⟩
  have ZZ : Hid (∀ a c a' c' u, FeatsAt u a s → FeatsAt u a' s → Calls Tryz.prog 19 #[.slice a s.length c, .slice a' s.length c'] u fun e w' => e = .returned (.bool true) ∧ Below u.heap.size u w') := fun a c a' c' u h h' => (implSheetSame_any a a' c c' s s u h h' m1 m1 SL.out SL.out).mono fun e w' ⟨he, hb⟩ => ⟨by rw [he]; simp [fsEq], hb⟩
  obtain ⟨w1, hu⟩ : ∃ w1, w1 = w0.alloc (.cells #[.string f.1, .int .i64 f.2.1, .slice pa f.2.2.1.length pc, .slice ta f.2.2.2.length tc] 33) := ⟨_, rfl⟩
  have hn : Below w0.heap.size w0 w1 := by rw [hu]; exact ((Below.refl _ _).alloc (Nat.le_refl _) _)
  have F4 : Hid (Box4 w1 w0.heap.size (.string f.1) (.int .i64 f.2.1) (.slice pa f.2.2.1.length pc) (.slice ta f.2.2.2.length tc)) := by rw [hu]; exact Box4.new w0 _ _ _ _ _
  replace B : Hid (Below w.heap.size w w1) := B.out.trans (hn.mono B.out.size)
  replace S := Lib.hid (S.out.below hn)
  replace P := Lib.hid (P.out.below hn)
  replace T := Lib.hid (T.out.below hn)
  clear hn
  go_upto_region 4 with (fail)
  rw [← hu]
  clear hu
  obtain ⟨c0, c1, c2, c3⟩ := F4.out
  go_wp2_with fail
  refine (IP.out _ _ _ _ _ _ _ S.out P.out T.out).mono ?_
  rintro e w2 ⟨⟨vx, adx, rfl, hbu⟩, hn⟩
  obtain ⟨xa, xc, rfl, hX⟩ := hbu.listH
  have X := Lib.hid hX.reads
  clear c0 c1 c2 c3
  replace B : Hid (Below w.heap.size w w2) := B.out.trans (hn.mono B.out.size)
  replace S := Lib.hid (S.out.below hn)
  replace P := Lib.hid (P.out.below hn)
  replace T := Lib.hid (T.out.below hn)
  replace F4 := Lib.hid (F4.out.later hn)
  clear hn hbu hX IP
  obtain ⟨c0, c1, c2, c3⟩ := F4.out
  go_wp2_with fail
  refine (SP.out _ _ _ _ _ _ _ S.out P.out T.out).mono ?_
  rintro e w3 ⟨⟨vw, rfl, hG⟩, hn⟩
  obtain ⟨wa, wc, rfl, hG2⟩ := hG
  have W := Lib.hid hG2.1
  clear c0 c1 c2 c3
  replace B : Hid (Below w.heap.size w w3) := B.out.trans (hn.mono B.out.size)
  replace S := Lib.hid (S.out.below hn)
  replace P := Lib.hid (P.out.below hn)
  replace T := Lib.hid (T.out.below hn)
  replace X := Lib.hid (X.out.below hn)
  replace F4 := Lib.hid (F4.out.later hn)
  clear hn hG2 SP
  cases ok
  · obtain rfl := NO.out rfl
    clear GET OLD NEW NO
    go_wp2_with fail
    refine (XX.out _ _ _ _ _ X.out W.out).mono ?_
    rintro e w4 ⟨rfl, hn⟩
    replace B : Hid (Below w.heap.size w w4) := B.out.trans (hn.mono B.out.size)
    clear hn
    go_wp2
    go_ret
    exact ⟨rfl, B.out⟩
  · obtain ⟨y1, y2, y3, y4⟩ := GET.out rfl
    have y5 := OLD.out rfl
    have y6 := NEW.out rfl
    clear GET OLD NEW NO
    have GF : Hid (∀ a c u, FeatsAt u a x → Calls Tryz.prog 17 #[.slice a x.length c, .string f.1] u fun e w' => ∃ v, e = .returned (.tuple #[v, .bool true]) ∧ FeatAns u f.1 f.2.1 f.2.2.1 f.2.2.2 v w') := fun a c u h => by
      have := implSheetGet_any a c x f.1 u h xm XL.out hid
      rw [y2, y3] at this
      exact this
    have GI : Hid (∀ i, i < s.length → fid s i ≠ f.1 → ∀ a c u, FeatsAt u a x → Calls Tryz.prog 17 #[.slice a x.length c, .string (fid s i)] u fun e w' => ∃ v, e = .returned (.tuple #[v, .bool true]) ∧ FeatAns u (fid s i) (fkd s i) (fps s i) (fts s i) v w') := fun i hi hne a c u h => by
      have := implSheetGet_any a c x (fid s i) u h xm XL.out (by have := (SL.out i hi).1; omega)
      obtain ⟨z1, z2⟩ := y4 i hi hne
      rw [z1, z2] at this
      exact this
    have OK : Hid (∀ a c u, FeatsAt u a x → Calls Tryz.prog 22 #[.slice a x.length c] u fun e w' => e = .returned (.bool true) ∧ Below u.heap.size u w') := fun a c u h => (implSheetOk_any a c x u h xm XL.out).mono fun e w' ⟨he, hb⟩ => ⟨by rw [he, y1], hb⟩
    have IO : Hid (∀ a c u, FeatsAt u a s → Calls Tryz.prog 17 #[.slice a s.length c, .string f.1] u fun e w' => ∃ v, e = .returned (.tuple #[v, .bool (getHas s f.1)]) ∧ FeatAns u (getFt s f.1).1 (getFt s f.1).2.1 (getFt s f.1).2.2.1 (getFt s f.1).2.2.2 v w') := fun a c u h => implSheetGet_any a c s f.1 u h m1 SL.out hid
    have IC : Hid (∀ a c u, FeatsAt u a x → Calls Tryz.prog 15 #[.slice a x.length c, .string f.1] u (ListAns u (cutR x f.1) true)) := fun a c u h => by
      have := implSheetCut_any a c x f.1 u h xm XL.out hid
      rw [y2] at this
      exact this
    have OL : Hid (FtLen (getFt s f.1) 1048576) := getFt_len SL.out (by omega)
    have IB : Hid (getHas s f.1 = true → ∀ a c pa pc ta tc u, FeatsAt u a x → PtsAt u pa (getFt s f.1).2.2.1 → TagsAt u ta (getFt s f.1).2.2.2 → Calls Tryz.prog 21 #[.slice a x.length c, .agg #[.string (getFt s f.1).1, .int .i64 (getFt s f.1).2.1, .slice pa (getFt s f.1).2.2.1.length pc, .slice ta (getFt s f.1).2.2.2.length tc]] u (ListAns u s true)) := fun hh a c pa pc ta tc u h1 h2 h3 => by
      have := implSheetPut_any a c x (getFt s f.1) pa ta pc tc u h1 xm XL.out h2 h3 OL.out
      obtain ⟨z1, z2⟩ := y5 hh
      rw [z1, z2] at this
      exact this
    have NEW : Hid (getHas s f.1 = false → cutR x f.1 = s) := y6
    clear y1 y2 y3 y4 y5 y6 OL
    generalize getFt s f.1 = g at *
    generalize getHas s f.1 = had at *
    generalize cutR x f.1 = c at *
    go_wp2_with fail
    refine (XX.out _ _ _ _ _ X.out W.out).mono ?_
    rintro e w4 ⟨rfl, hn⟩
    replace B : Hid (Below w.heap.size w w4) := B.out.trans (hn.mono B.out.size)
    replace S := Lib.hid (S.out.below hn)
    replace P := Lib.hid (P.out.below hn)
    replace T := Lib.hid (T.out.below hn)
    replace X := Lib.hid (X.out.below hn)
    replace F4 := Lib.hid (F4.out.later hn)
    clear hn W XX
    obtain ⟨c0, c1, c2, c3⟩ := F4.out
    go_wp2_with fail
    refine (GF.out _ _ _ X.out).mono ?_
    rintro e w5 ⟨v, rfl, pb, qc, tb, uc, rfl, hP, _, _, hT, _, _, _, hn⟩
    clear c0 c1 c2 c3
    have Q := Lib.hid hP
    have U := Lib.hid hT
    replace B : Hid (Below w.heap.size w w5) := B.out.trans (hn.mono B.out.size)
    replace S := Lib.hid (S.out.below hn)
    replace P := Lib.hid (P.out.below hn)
    replace T := Lib.hid (T.out.below hn)
    replace X := Lib.hid (X.out.below hn)
    replace F4 := Lib.hid (F4.out.later hn)
    clear hn hP hT
    obtain ⟨u5, hu⟩ : ∃ u5, u5 = w5.alloc (.cells #[.string f.1, .int .i64 f.2.1, .slice pb f.2.2.1.length qc, .slice tb f.2.2.2.length uc] 33) := ⟨_, rfl⟩
    have hn : Below w5.heap.size w5 u5 := by rw [hu]; exact ((Below.refl _ _).alloc (Nat.le_refl _) _)
    have G4 : Hid (Box4 u5 w5.heap.size (.string f.1) (.int .i64 f.2.1) (.slice pb f.2.2.1.length qc) (.slice tb f.2.2.2.length uc)) := by rw [hu]; exact Box4.new w5 _ _ _ _ _
    replace B : Hid (Below w.heap.size w u5) := B.out.trans (hn.mono B.out.size)
    replace S := Lib.hid (S.out.below hn)
    replace P := Lib.hid (P.out.below hn)
    replace T := Lib.hid (T.out.below hn)
    replace X := Lib.hid (X.out.below hn)
    replace Q := Lib.hid (Q.out.below hn)
    replace U := Lib.hid (U.out.below hn)
    replace F4 := Lib.hid (F4.out.later hn)
    clear hn
    obtain ⟨c0, c1, c2, c3⟩ := F4.out
    obtain ⟨d0, d1, d2, d3⟩ := G4.out
    go_upto_region 11 with (fail)
    rw [← hu]
    clear hu
    go_wp2_with fail
    refine (featSame_self f FL.out _ _ _ _ _ _ _ _ _ Q.out P.out U.out T.out).mono ?_
    rintro e w6 ⟨rfl, hn⟩
    clear c0 c1 c2 c3 d0 d1 d2 d3
    replace B : Hid (Below w.heap.size w w6) := B.out.trans (hn.mono B.out.size)
    replace S := Lib.hid (S.out.below hn)
    replace P := Lib.hid (P.out.below hn)
    replace T := Lib.hid (T.out.below hn)
    replace X := Lib.hid (X.out.below hn)
    replace F4 := Lib.hid (F4.out.later hn)
    clear hn G4 Q U
    go_wp2_with fail
    refine (OK.out _ _ _ X.out).mono ?_
    rintro e w7 ⟨rfl, hn⟩
    replace B : Hid (Below w.heap.size w w7) := B.out.trans (hn.mono B.out.size)
    replace S := Lib.hid (S.out.below hn)
    replace P := Lib.hid (P.out.below hn)
    replace T := Lib.hid (T.out.below hn)
    replace X := Lib.hid (X.out.below hn)
    replace F4 := Lib.hid (F4.out.later hn)
    clear hn
    go_wp2
    go_loopw [11, 12, 13] (fun i _ _ wr => ∃ j : Nat, j ≤ s.length ∧ i = .int .i64 j ∧ Below w7.heap.size w7 wr) (fun i _ _ _ => s.length - (intOf i).toNat)
    case atStart => exact ⟨0, Nat.zero_le _, rfl, Below.refl _ _⟩
    case round =>
      obtain ⟨j, hj, rfl, hn⟩ := hrel
      replace B : Hid (Below w.heap.size w wr) := B.out.trans (hn.mono B.out.size)
      replace S := Lib.hid (S.out.below hn)
      replace P := Lib.hid (P.out.below hn)
      replace T := Lib.hid (T.out.below hn)
      replace X := Lib.hid (X.out.below hn)
      replace F4 := Lib.hid (F4.out.later hn)
      have HB := Lib.hid hn
      clear hn
      by_cases hlt : j < s.length
      · have hltI : (j : Int) < (s.length : Int) := by omega
        obtain ⟨b, off, ra, rc, ka, kc, rfl, hb, h0, h1, h2, h3, hpp, htt⟩ := S.out j hlt
        have PJ := Lib.hid hpp
        have TJ := Lib.hid htt
        obtain ⟨l1, l2, l3, l4⟩ := SL.out j hlt
        have JL : Hid (FtLen (fg s j) 1048576) := ⟨l1, l2, l3, l4⟩
        have JC : Hid (wr.cell? ⟨b, off + j * 4, none⟩ = some (.string (fid s j)) ∧ wr.cell? ⟨b, off + j * 4 + 1, none⟩ = some (.int .i64 (fkd s j)) ∧ wr.cell? ⟨b, off + j * 4 + 2, none⟩ = some (.slice ra (fps s j).length rc) ∧ wr.cell? ⟨b, off + j * 4 + 3, none⟩ = some (.slice ka (fts s j).length kc)) := ⟨h0, h1, h2, h3⟩
        have eb := bytes_beq (fid s j) f.1
        clear hpp htt l1 l2 l3 l4
        by_cases hne : fid s j = f.1
        · rw [decide_eq_true hne] at eb
          clear hne
          go_wp2_with fail
          clear h0 h1 h2 h3
          refine (implSheetGet_any _ _ x (fid s j) _ X.out xm XL.out (by have h9 : ((fid s j).size : Int) ≤ 1048576 := JL.out.1; omega)).mono ?_
          rintro e w8 ⟨v, rfl, oa, oc, ea, ec, rfl, hP, _, _, hT, _, _, _, hn⟩
          have OA := Lib.hid hP
          have OE := Lib.hid hT
          have zb : b < w8.heap.size := by have := hn.size; omega
          have JD : Hid (w8.cell? ⟨b, off + j * 4, none⟩ = some (.string (fid s j)) ∧ w8.cell? ⟨b, off + j * 4 + 1, none⟩ = some (.int .i64 (fkd s j)) ∧ w8.cell? ⟨b, off + j * 4 + 2, none⟩ = some (.slice ra (fps s j).length rc) ∧ w8.cell? ⟨b, off + j * 4 + 3, none⟩ = some (.slice ka (fts s j).length kc)) := ⟨cell_later hn JC.out.1, cell_later hn JC.out.2.1, cell_later hn JC.out.2.2.1, cell_later hn JC.out.2.2.2⟩
          have F5 := Lib.hid (F4.out.later hn)
          have X5 := Lib.hid (X.out.below hn)
          have PJ5 := Lib.hid (PJ.out.below hn)
          have TJ5 := Lib.hid (TJ.out.below hn)
          have HB5 : Hid (Below w7.heap.size w7 w8) := HB.out.trans (hn.mono HB.out.size)
          clear hn hP hT JC
          obtain ⟨u8, hu⟩ : ∃ u8, u8 = w8.alloc (.cells #[.string (getFt x (fid s j)).1, .int .i64 (getFt x (fid s j)).2.1, .slice oa (getFt x (fid s j)).2.2.1.length oc, .slice ea (getFt x (fid s j)).2.2.2.length ec] 33) := ⟨_, rfl⟩
          have hn : Below w8.heap.size w8 u8 := by rw [hu]; exact ((Below.refl _ _).alloc (Nat.le_refl _) _)
          obtain ⟨c0, _, _, _⟩ := F5.out.later hn
          have k0 := cell_later hn JD.out.1
          have HB6 : Hid (Below w7.heap.size w7 u8) := HB5.out.trans (hn.mono HB5.out.size)
          clear hn
          go_upto_region 17 with (fail)
          rw [← hu]
          clear hu
          go_quiet (fail)
          go_wp2
          go_roundw
          case rel => exact ⟨j + 1, by omega, by go_num, below_drewN HB6.out _⟩
          case measure => simp [intOf]; omega
        · rw [decide_eq_false hne] at eb
          go_wp2_with fail
          clear h0 h1 h2 h3
          refine (GI.out j hlt hne _ _ _ X.out).mono ?_
          rintro e w8 ⟨v, rfl, oa, oc, ea, ec, rfl, hP, _, _, hT, _, _, _, hn⟩
          have OA := Lib.hid hP
          have OE := Lib.hid hT
          have zb : b < w8.heap.size := by have := hn.size; omega
          have JD : Hid (w8.cell? ⟨b, off + j * 4, none⟩ = some (.string (fid s j)) ∧ w8.cell? ⟨b, off + j * 4 + 1, none⟩ = some (.int .i64 (fkd s j)) ∧ w8.cell? ⟨b, off + j * 4 + 2, none⟩ = some (.slice ra (fps s j).length rc) ∧ w8.cell? ⟨b, off + j * 4 + 3, none⟩ = some (.slice ka (fts s j).length kc)) := ⟨cell_later hn JC.out.1, cell_later hn JC.out.2.1, cell_later hn JC.out.2.2.1, cell_later hn JC.out.2.2.2⟩
          have F5 := Lib.hid (F4.out.later hn)
          have X5 := Lib.hid (X.out.below hn)
          have PJ5 := Lib.hid (PJ.out.below hn)
          have TJ5 := Lib.hid (TJ.out.below hn)
          have HB5 : Hid (Below w7.heap.size w7 w8) := HB.out.trans (hn.mono HB.out.size)
          clear hn hP hT JC
          obtain ⟨u8, hu⟩ : ∃ u8, u8 = w8.alloc (.cells #[.string (fid s j), .int .i64 (fkd s j), .slice oa (fps s j).length oc, .slice ea (fts s j).length ec] 33) := ⟨_, rfl⟩
          have hn : Below w8.heap.size w8 u8 := by rw [hu]; exact ((Below.refl _ _).alloc (Nat.le_refl _) _)
          have O4 : Hid (Box4 u8 w8.heap.size (.string (fid s j)) (.int .i64 (fkd s j)) (.slice oa (fps s j).length oc) (.slice ea (fts s j).length ec)) := by rw [hu]; exact Box4.new w8 _ _ _ _ _
          obtain ⟨c0, _, _, _⟩ := F5.out.later hn
          obtain ⟨d0, d1, d2, d3⟩ := O4.out
          have k0 := cell_later hn JD.out.1
          have k1 := cell_later hn JD.out.2.1
          have k2 := cell_later hn JD.out.2.2.1
          have k3 := cell_later hn JD.out.2.2.2
          have PJ6 := Lib.hid (PJ5.out.below hn)
          have TJ6 := Lib.hid (TJ5.out.below hn)
          have OA6 := Lib.hid (OA.out.below hn)
          have OE6 := Lib.hid (OE.out.below hn)
          have HB6 : Hid (Below w7.heap.size w7 u8) := HB5.out.trans (hn.mono HB5.out.size)
          clear hn
          go_upto_region 17 with (fail)
          rw [← hu]
          clear hu
          go_cut [110] (fun s110 wx => s110 = .bool false ∧ Below u8.heap.size u8 wx)
          case first =>
            go_region_held3 (fun w' => w'.cell? ⟨w0.heap.size, 0, none⟩ = some (.string f.1) ∧ w'.cell? ⟨b, off + j * 4, none⟩ = some (.string (fid s j)) ∧ w'.cell? ⟨b, off + j * 4 + 1, none⟩ = some (.int .i64 (fkd s j)) ∧ w'.cell? ⟨b, off + j * 4 + 2, none⟩ = some (.slice ra (fps s j).length rc) ∧ w'.cell? ⟨b, off + j * 4 + 3, none⟩ = some (.slice ka (fts s j).length kc) ∧ w'.cell? ⟨w8.heap.size, 0, none⟩ = some (.string (fid s j)) ∧ w'.cell? ⟨w8.heap.size, 1, none⟩ = some (.int .i64 (fkd s j)) ∧ w'.cell? ⟨w8.heap.size, 2, none⟩ = some (.slice oa (fps s j).length oc) ∧ w'.cell? ⟨w8.heap.size, 3, none⟩ = some (.slice ea (fts s j).length ec) ∧ Below u8.heap.size u8 w')
              (first
                | exact ⟨c0, k0, k1, k2, k3, d0, d1, d2, d3, (Below.refl _ _).drew⟩
                | (go_split_ands
                   rename_i hS0 hS1 hS2 hS3 hS4 hS5 hS6 hS7 hS8 hSZ
                   exact ⟨cell_later hbn hS0, cell_later hbn hS1, cell_later hbn hS2, cell_later hbn hS3, cell_later hbn hS4, cell_later hbn hS5, cell_later hbn hS6, cell_later hbn hS7, cell_later hbn hS8, hSZ.trans (hbn.mono hSZ.size)⟩))
              (first
                | (go_at_call 20
                   refine (featSame_self (fg s j) JL.out _ _ _ _ _ _ _ _ _ ?_ ?_ ?_ ?_).mono ?_
                   · (go_split_ands; exact OA6.out.below (by assumption))
                   · (go_split_ands; exact PJ6.out.below (by assumption))
                   · (go_split_ands; exact OE6.out.below (by assumption))
                   · (go_split_ands; exact TJ6.out.below (by assumption))
                   rintro e wn ⟨rfl, hbn⟩))
            all_goals (go_wp2_with fail; go_meet; go_split_ands; exact ⟨by simp, by assumption⟩)
          case rest =>
            obtain ⟨rfl, hbc⟩ := hcut
            go_wp2
            go_roundw
            case rel => exact ⟨j + 1, by omega, by go_num, HB6.out.trans (hbc.mono HB6.out.size)⟩
            case measure => simp [intOf]; omega
      · have hge : ¬ (j : Int) < (s.length : Int) := by omega
        obtain ⟨c0, c1, c2, c3⟩ := F4.out
        go_wp2_with fail
        refine (IO.out _ _ _ S.out).mono ?_
        rintro e w8 ⟨v, rfl, oa, oc, ea, ec, rfl, hP, _, _, hT, _, _, _, hn⟩
        clear c0 c1 c2 c3
        have Q := Lib.hid hP
        have U := Lib.hid hT
        replace B : Hid (Below w.heap.size w w8) := B.out.trans (hn.mono B.out.size)
        replace S := Lib.hid (S.out.below hn)
        replace X := Lib.hid (X.out.below hn)
        replace F4 := Lib.hid (F4.out.later hn)
        clear hn hP hT
        obtain ⟨u8, hu⟩ : ∃ u8, u8 = w8.alloc (.cells #[.string g.1, .int .i64 g.2.1, .slice oa g.2.2.1.length oc, .slice ea g.2.2.2.length ec] 33) := ⟨_, rfl⟩
        have hn : Below w8.heap.size w8 u8 := by rw [hu]; exact ((Below.refl _ _).alloc (Nat.le_refl _) _)
        have G4 : Hid (Box4 u8 w8.heap.size (.string g.1) (.int .i64 g.2.1) (.slice oa g.2.2.1.length oc) (.slice ea g.2.2.2.length ec)) := by rw [hu]; exact Box4.new w8 _ _ _ _ _
        replace B : Hid (Below w.heap.size w u8) := B.out.trans (hn.mono B.out.size)
        replace S := Lib.hid (S.out.below hn)
        replace X := Lib.hid (X.out.below hn)
        replace Q := Lib.hid (Q.out.below hn)
        replace U := Lib.hid (U.out.below hn)
        replace F4 := Lib.hid (F4.out.later hn)
        clear hn
        obtain ⟨c0, c1, c2, c3⟩ := F4.out
        go_upto_region 20 with (fail)
        rw [← hu]
        clear hu
        go_wp2_with fail
        refine (IC.out _ _ _ X.out).mono ?_
        rintro e w9 ⟨⟨vc, adc, rfl, hbu⟩, hn⟩
        obtain ⟨ya, yc, rfl, hY⟩ := hbu.listH
        have Y := Lib.hid hY.reads
        clear c0 c1 c2 c3
        replace B : Hid (Below w.heap.size w w9) := B.out.trans (hn.mono B.out.size)
        replace S := Lib.hid (S.out.below hn)
        replace X := Lib.hid (X.out.below hn)
        replace Q := Lib.hid (Q.out.below hn)
        replace U := Lib.hid (U.out.below hn)
        replace G4 := Lib.hid (G4.out.later hn)
        clear hn hbu hY
        cases had
        · obtain rfl := NEW.out (by first | rfl | trivial)
          go_wp2_with fail
          refine (ZZ.out _ _ _ _ _ Y.out S.out).mono ?_
          rintro e w10 ⟨rfl, hn⟩
          replace B : Hid (Below w.heap.size w w10) := B.out.trans (hn.mono B.out.size)
          clear hn
          go_wp2
          go_ret
          exact ⟨rfl, B.out⟩
        · obtain ⟨c0, c1, c2, c3⟩ := G4.out
          go_wp2_with fail
          refine (IB.out (by first | rfl | trivial) _ _ _ _ _ _ _ X.out Q.out U.out).mono ?_
          rintro e w10 ⟨⟨vb, adb, rfl, hbu⟩, hn⟩
          obtain ⟨za, zc, rfl, hZ⟩ := hbu.listH
          have Z := Lib.hid hZ.reads
          clear c0 c1 c2 c3
          replace B : Hid (Below w.heap.size w w10) := B.out.trans (hn.mono B.out.size)
          replace S := Lib.hid (S.out.below hn)
          clear hn hbu hZ
          go_wp2_with fail
          refine (ZZ.out _ _ _ _ _ Z.out S.out).mono ?_
          rintro e w11 ⟨rfl, hn⟩
          replace B : Hid (Below w.heap.size w w11) := B.out.trans (hn.mono B.out.size)
          clear hn
          go_wp2
          go_ret
          exact ⟨rfl, B.out⟩

set_option maxHeartbeats 400000 in
theorem fnSheetPut_large (a : Option Addr) (n cap : Nat) (w : World) (hn : 1048576 < n) :
    Calls Tryz.prog 4 #[.slice a n cap] w fun e w' => e = .returned (.bool true) ∧ Below w.heap.size w w' := by
  have hg : (1048576 : Int) < (n : Int) := by omega
  go_enter Tryz.func4, Tryz.ntmps4
  go_wp2
  go_ret
  exact ⟨rfl, Below.refl _ _⟩

theorem fnSheetPut_all (a : Option Addr) (n cap : Nat) (w : World) (h : CodeAt w a n) (hc : n ≤ cap) (_ : n ≤ maxLen) :
    Calls Tryz.prog 4 #[.slice a n cap] w fun e w' => e = .returned (.bool true) ∧ Below w.heap.size w w' := by
  by_cases h1 : n ≤ 1048576
  · exact fnSheetPut_walk a n cap w h h1 hc
  · exact fnSheetPut_large a n cap w (by omega)

set_option maxRecDepth 100000 in
theorem fnSheetPut_lifted (os : Os) (started : os.Started) (H : Type) (enc : TypeId × Value → H) :
    ReturnsInHanded {} Tryz.checked os 4 .any (Rows.fnSheetPutSpec.pre6 enc Tryz.prog Tryz.f4 Rows.fnSheetPutRow.domain false) (Rows.fnSheetPutSpec.post enc Tryz.prog Tryz.f4 false true false false) := by
  refine returnsInHanded_of_change (C := Tryz.checked) own started (by kernel_rfl) Tryz.func4
    (ChangeSpec.witness6 (enc := enc) (C := Tryz.checked) false ⟨#[], #[.slice none 0 0], []⟩ 8 (by kernel_rfl) (by kernel_rfl) (by kernel_rfl) (by kernel_rfl)) ?_
  intro W base args ds gs before hval0 hW _ _
  have hval : ∀ (j : Nat) t v, Tryz.f4.params[j]? = some t → args[j]? = some v → Value.okWide Tryz.prog W .any base t v := hval0
  have hW' := hW
  obtain ⟨p, q, hA0, hV, rfl, _, _⟩ := hW
  have hA : DataW.TrodAll enc Tryz.prog W 0 (fun _ => true) true Tryz.f4.params.toList args.toList ds p := hA0
  rw [Tryz.params4] at hA hval
  obtain ⟨v0, vs0, d0, ds0, p0, q0, hargs, rfl, rfl, h0, r0⟩ := trodAll_cons hA
  obtain ⟨rfl, rfl, rfl⟩ := trodAll_nil r0
  obtain rfl : args = #[v0] := by cases args; simp_all
  obtain ⟨rfl, rfl⟩ := trodVars_none hV
  have k0 := h0
  have lt0 : ∀ x ∈ p0, x.block < W.heap.size := by obtain ⟨m, hm⟩ := k0; exact DataW.trod_lt m _ _ _ hm
  obtain ⟨a0, n0, c0, rfl, f0, g0, m0⟩ := open_code (hval 0 22 v0 rfl rfl) h0
  clear hA0 hval0
  refine (fnSheetPut_all a0 n0 c0 W f0 g0 m0).mono fun e W' ⟨he, bel⟩ => ?_
  subst he
  exact ⟨_, rfl, _, _, _, [], _, [], hW', trodAll_mk1 (shut_bool Tryz.underlying4 _), (trodAll_cons_mk (Below.trod laidOut (by kernel_rfl) (of_decide_eq_true (by kernel_rfl)) k0 bel lt0) trodAll_mk0), rfl, bel.frame _, fun h => by cases h⟩

theorem fnSheetPut_over : Rows.fnSheetPutRow.holds Tryz.pinned (OpenSpec.ofChange Rows.fnSheetPutSpec) :=
  OpenClaim.holds_of_wide 4 Tryz.f4 rfl rfl rfl rfl rfl rfl rfl ⟨rfl, rfl, rfl, rfl, rfl⟩ rfl rfl rfl rfl rfl (by kernel_rfl) Tryz.func4 (by kernel_rfl)
    (of_decide_eq_true (by kernel_rfl)) (by unfold Func.isWrapper; first | (rw [if_pos (by decide +kernel)]; kernel_rfl) | (rw [if_neg (by decide +kernel)]; exact ⟨rfl, rfl⟩))
    (fun os started H enc _ => fnSheetPut_lifted os started H enc)

/-- the given statement -/
theorem fnSheetPut_holds : Rows.FnSheetPutSaid := fnSheetPut_over

end Go.Proofs.YtdfadpejddhbkaaGreat
