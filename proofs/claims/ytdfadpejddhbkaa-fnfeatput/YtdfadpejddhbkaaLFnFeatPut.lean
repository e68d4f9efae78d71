/- Proved here: the law FnFeatPut answers true at every code, and leaves it as it was; no condition. -/
import Derived.Test.YtdfadpejddhbkaaWDrawFPut
import Derived.Test.YtdfadpejddhbkaaWTagPut
import Derived.Test.YtdfadpejddhbkaaWArg
import Derived.BigQuiet
import Derived.Deep.RegionHeld3
import Derived.Deep.DeepCutAuto
namespace Go.Proofs.Ytdfadpejddhbkaa
set_option linter.unusedVariables false
open Go.ChangeShapes Go.WideShapes Go.ChangeAt Go.RowKit

set_option maxRecDepth 100000 in
set_option maxHeartbeats 8000000 in
theorem fnFeatPut_walk (a : Option Addr) (n cap : Nat) (w : World) (h : CodeAt w a n) (hl : n ≤ 1048576) (hc : n ≤ cap) :
    Calls Try.prog 7 #[.slice a n cap] w fun e w' => e = .returned (.bool true) ∧ Below w.heap.size w w' := by
  have HC := Lib.hid h
  clear h
  have hg : ¬ (1048576 : Int) < (n : Int) := by omega
  go_enter Try.func7, Try.ntmps7
  go_wp2_with fail
  refine (drawFeatPut_any _ _ _ _ HC.out hl hc).mono ?_
  rintro e w1 ⟨id, k, pa, pc, ps, ta, tc, ts, key, val, rfl, hP, hT, i1, i2, i3, i4, i5, i6, hb1⟩
  have B := Lib.hid hb1
  obtain ⟨f, hf⟩ : ∃ f : Fx, f = (id, k, ps, ts) := ⟨_, rfl⟩
  obtain rfl : id = f.1 := by rw [hf]
  obtain rfl : k = f.2.1 := by rw [hf]
  obtain rfl : ps = f.2.2.1 := by rw [hf]
  obtain rfl : ts = f.2.2.2 := by rw [hf]
  clear hf
  have P := Lib.hid hP
  have T := Lib.hid hT
  have FF : Hid (FtFew f) := ⟨by omega, by omega, by omega, i4.mono (by omega)⟩
  have kk : key.size ≤ 1048576 := by omega
  have kv : val.size ≤ 1048576 := by omega
  have m1 : f.2.2.2.length ≤ 4 := i3
  have IP : Hid (∀ a c b d u, PtsAt u a f.2.2.1 → TagsAt u b f.2.2.2 → Calls Try.prog 32 #[.agg #[.string f.1, .int .i64 f.2.1, .slice a f.2.2.1.length c, .slice b f.2.2.2.length d], .string key, .string val] u (PutAns u (fpAll f key val).1 (fpAll f key val).2.1 (fpAll f key val).2.2.1 (fpAll f key val).2.2.2 (fpOk f key val))) := fun a c b d u h1 h2 => featPut_at f FF.out key val kk kv a c b d u h1 h2
  have SP : Hid (∀ a c b d u, PtsAt u a f.2.2.1 → TagsAt u b f.2.2.2 → Calls Try.prog 33 #[.agg #[.string f.1, .int .i64 f.2.1, .slice a f.2.2.1.length c, .slice b f.2.2.2.length d], .string key, .string val] u (PutAns u (fpAll f key val).1 (fpAll f key val).2.1 (fpAll f key val).2.2.1 (fpAll f key val).2.2.2 (fpOk f key val))) := fun a c b d u h1 h2 => featPutS_at f FF.out key val kk kv a c b d u h1 h2
  have NO : Hid (fpOk f key val = false → (fpAll f key val).1 = ⟨#[]⟩) := fun h => by
    obtain ⟨e1, _⟩ := fp_no h
    exact e1
  have YES := Lib.hid (fun h => put_facts (f := f) (key := key) (val := val) h)
  have XF : Hid (FtFew (fpAll f key val)) := fp_few FF.out kk kv
  generalize fpAll f key val = x at *
  generalize fpOk f key val = ok at *
  clear hP hT i1 i2 i3 i4 i5 i6 hb1 HC
  obtain ⟨u1, hu⟩ : ∃ u, u = w1.alloc (.cells #[.string f.1, .int .i64 f.2.1, .slice pa f.2.2.1.length pc, .slice ta f.2.2.2.length tc] 43) := ⟨_, rfl⟩
  have hn : Below w1.heap.size w1 u1 := by rw [hu]; exact ((Below.refl _ _).alloc (Nat.le_refl _) _)
  have F4 : Hid (Box4 u1 w1.heap.size (.string f.1) (.int .i64 f.2.1) (.slice pa f.2.2.1.length pc) (.slice ta f.2.2.2.length tc)) := by rw [hu]; exact Box4.new w1 _ _ _ _ _
  replace B : Hid (Below w.heap.size w u1) := B.out.trans (hn.mono B.out.size)
  replace P := Lib.hid (P.out.below hn)
  replace T := Lib.hid (T.out.below hn)
  clear hn
  go_upto_region 4 with (fail)
  rw [← hu]
  clear hu
  obtain ⟨c0, c1, c2, c3⟩ := F4.out
  go_wp2_with fail
  refine (IP.out _ _ _ _ _ P.out T.out).mono ?_
  rintro e w2 ⟨v, rfl, xa, xc, xb, xd, rfl, hP, _, _, hT, _, _, _, hn⟩
  clear c0 c1 c2 c3
  have PX := Lib.hid hP
  have TX := Lib.hid hT
  clear hP hT
  replace B : Hid (Below w.heap.size w w2) := B.out.trans (hn.mono B.out.size)
  replace P := Lib.hid (P.out.below hn)
  replace T := Lib.hid (T.out.below hn)
  replace F4 := Lib.hid (F4.out.later hn)
  clear hn
  obtain ⟨u2, hu⟩ : ∃ u, u = w2.alloc (.cells #[.string x.1, .int .i64 x.2.1, .slice xa x.2.2.1.length xc, .slice xb x.2.2.2.length xd] 43) := ⟨_, rfl⟩
  have hn : Below w2.heap.size w2 u2 := by rw [hu]; exact ((Below.refl _ _).alloc (Nat.le_refl _) _)
  have X4 : Hid (Box4 u2 w2.heap.size (.string x.1) (.int .i64 x.2.1) (.slice xa x.2.2.1.length xc) (.slice xb x.2.2.2.length xd)) := by rw [hu]; exact Box4.new w2 _ _ _ _ _
  replace B : Hid (Below w.heap.size w u2) := B.out.trans (hn.mono B.out.size)
  replace P := Lib.hid (P.out.below hn)
  replace T := Lib.hid (T.out.below hn)
  replace PX := Lib.hid (PX.out.below hn)
  replace TX := Lib.hid (TX.out.below hn)
  replace F4 := Lib.hid (F4.out.later hn)
  clear hn
  go_upto_region 5 with (fail)
  rw [← hu]
  clear hu
  obtain ⟨c0, c1, c2, c3⟩ := F4.out
  go_wp2_with fail
  refine (SP.out _ _ _ _ _ P.out T.out).mono ?_
  rintro e w3 ⟨v, rfl, wa, wc, wb, wd, rfl, hP, _, _, hT, _, _, _, hn⟩
  clear c0 c1 c2 c3
  have PW := Lib.hid hP
  have TW := Lib.hid hT
  clear hP hT
  replace B : Hid (Below w.heap.size w w3) := B.out.trans (hn.mono B.out.size)
  replace P := Lib.hid (P.out.below hn)
  replace T := Lib.hid (T.out.below hn)
  replace PX := Lib.hid (PX.out.below hn)
  replace TX := Lib.hid (TX.out.below hn)
  replace F4 := Lib.hid (F4.out.later hn)
  replace X4 := Lib.hid (X4.out.later hn)
  clear hn
  obtain ⟨u3, hu⟩ : ∃ u, u = w3.alloc (.cells #[.string x.1, .int .i64 x.2.1, .slice wa x.2.2.1.length wc, .slice wb x.2.2.2.length wd] 43) := ⟨_, rfl⟩
  have hn : Below w3.heap.size w3 u3 := by rw [hu]; exact ((Below.refl _ _).alloc (Nat.le_refl _) _)
  have W4 : Hid (Box4 u3 w3.heap.size (.string x.1) (.int .i64 x.2.1) (.slice wa x.2.2.1.length wc) (.slice wb x.2.2.2.length wd)) := by rw [hu]; exact Box4.new w3 _ _ _ _ _
  replace B : Hid (Below w.heap.size w u3) := B.out.trans (hn.mono B.out.size)
  replace P := Lib.hid (P.out.below hn)
  replace T := Lib.hid (T.out.below hn)
  replace PX := Lib.hid (PX.out.below hn)
  replace TX := Lib.hid (TX.out.below hn)
  replace PW := Lib.hid (PW.out.below hn)
  replace TW := Lib.hid (TW.out.below hn)
  replace F4 := Lib.hid (F4.out.later hn)
  replace X4 := Lib.hid (X4.out.later hn)
  clear hn
  go_upto_region 6 with (fail)
  rw [← hu]
  clear hu
  clear IP SP
  cases ok
  · obtain ⟨c0, c1, c2, c3⟩ := X4.out
    obtain ⟨d0, d1, d2, d3⟩ := W4.out
    go_wp2_with fail
    refine (featSame_at x XF.out _ _ _ _ _ _ _ _ _ PX.out PW.out TX.out TW.out).mono ?_
    rintro e w4 ⟨rfl, hn⟩
    clear c0 c1 c2 c3
    clear d0 d1 d2 d3
    replace B : Hid (Below w.heap.size w w4) := B.out.trans (hn.mono B.out.size)
    replace P := Lib.hid (P.out.below hn)
    replace T := Lib.hid (T.out.below hn)
    replace PX := Lib.hid (PX.out.below hn)
    replace TX := Lib.hid (TX.out.below hn)
    replace PW := Lib.hid (PW.out.below hn)
    replace TW := Lib.hid (TW.out.below hn)
    replace F4 := Lib.hid (F4.out.later hn)
    replace X4 := Lib.hid (X4.out.later hn)
    replace W4 := Lib.hid (W4.out.later hn)
    clear hn
    have hx1 := NO.out (by first | rfl | trivial)
    obtain ⟨c0, c1, c2, c3⟩ := X4.out
    rw [hx1] at c0
    clear hx1 YES NO
    go_wp2
    go_ret
    exact ⟨rfl, B.out⟩
  · obtain ⟨c0, c1, c2, c3⟩ := X4.out
    obtain ⟨d0, d1, d2, d3⟩ := W4.out
    go_wp2_with fail
    refine (featSame_at x XF.out _ _ _ _ _ _ _ _ _ PX.out PW.out TX.out TW.out).mono ?_
    rintro e w4 ⟨rfl, hn⟩
    clear c0 c1 c2 c3
    clear d0 d1 d2 d3
    replace B : Hid (Below w.heap.size w w4) := B.out.trans (hn.mono B.out.size)
    replace P := Lib.hid (P.out.below hn)
    replace T := Lib.hid (T.out.below hn)
    replace PX := Lib.hid (PX.out.below hn)
    replace TX := Lib.hid (TX.out.below hn)
    replace PW := Lib.hid (PW.out.below hn)
    replace TW := Lib.hid (TW.out.below hn)
    replace F4 := Lib.hid (F4.out.later hn)
    replace X4 := Lib.hid (X4.out.later hn)
    replace W4 := Lib.hid (W4.out.later hn)
    clear hn
    clear PW TW W4
    obtain ⟨t, e0, y1, y2, y3, y4, y5, y6⟩ := YES.out (by first | rfl | trivial)
    clear YES NO
    subst e0
    replace PX : Hid (PtsAt w4 xa f.2.2.1) := PX
    replace TX : Hid (TagsAt w4 xb t) := TX
    replace X4 : Hid (Box4 w4 w2.heap.size (.string f.1) (.int .i64 f.2.1) (.slice xa f.2.2.1.length xc) (.slice xb t.length xd)) := X4
    have IK : Hid (∀ a c b d u, PtsAt u a f.2.2.1 → TagsAt u b t → Calls Try.prog 27 #[.agg #[.string f.1, .int .i64 f.2.1, .slice a f.2.2.1.length c, .slice b t.length d], .string key] u fun e w' => e = .returned (.tuple #[.string val, .bool true]) ∧ Below u.heap.size u w') := fun a c b d u h1 h2 => by
      have := featGet_at (f.1, f.2.1, f.2.2.1, t) XF.out key kk a c b d u h1 h2
      rw [y2, y3] at this
      exact this
    obtain ⟨V, hV⟩ : ∃ V : Nat → ByteArray, V = fun j => fgVal (f.1, f.2.1, f.2.2.1, t) (tk f.2.2.2 j) := ⟨_, rfl⟩
    obtain ⟨O, hO⟩ : ∃ O : Nat → Bool, O = fun j => fgOk (f.1, f.2.1, f.2.2.1, t) (tk f.2.2.2 j) := ⟨_, rfl⟩
    have IX : Hid (∀ j, j < f.2.2.2.length → ∀ a c b d u, PtsAt u a f.2.2.1 → TagsAt u b t → Calls Try.prog 27 #[.agg #[.string f.1, .int .i64 f.2.1, .slice a f.2.2.1.length c, .slice b t.length d], .string (tk f.2.2.2 j)] u fun e w' => e = .returned (.tuple #[.string (V j), .bool (O j)]) ∧ Below u.heap.size u w') := fun j hj a c b d u h1 h2 => by
      rw [hV, hO]
      exact featGet_at (f.1, f.2.1, f.2.2.1, t) XF.out (tk f.2.2.2 j) (by have := (FF.out.2.2.2 j hj).1; omega) a c b d u h1 h2
    have Y4 : Hid (∀ j, j < f.2.2.2.length → tk f.2.2.2 j ≠ key → O j = true ∧ V j = tv f.2.2.2 j) := fun j hj hne => by
      rw [hV, hO]
      exact y4 j hj hne
    have FO : Hid (∀ a c b d u, PtsAt u a f.2.2.1 → TagsAt u b t → Calls Try.prog 30 #[.agg #[.string f.1, .int .i64 f.2.1, .slice a f.2.2.1.length c, .slice b t.length d]] u fun e w' => e = .returned (.bool true) ∧ Below u.heap.size u w') := fun a c b d u h1 h2 => by
      have := implFeatOk_any f.1 f.2.1 a c f.2.2.1 b d t u h1 h2 XF.out.1 XF.out.2.1 XF.out.2.2.1 XF.out.2.2.2
      rw [y1] at this
      exact this
    have SH : Hid (∀ a c a' c' u, PtsAt u a f.2.2.1 → PtsAt u a' f.2.2.1 → Calls Try.prog 11 #[.agg #[.int .i64 f.2.1, .slice a f.2.2.1.length c], .agg #[.int .i64 f.2.1, .slice a' f.2.2.1.length c']] u fun e w' => e = .returned (.bool true) ∧ Below u.heap.size u w') := fun a c a' c' u h h' => (implShapeSame_any f.2.1 f.2.1 a a' c c' f.2.2.1 f.2.2.1 u h h' FF.out.2.1 FF.out.2.1).mono fun e w' ⟨he, hb⟩ => ⟨by rw [he]; simp [ptsEq], hb⟩
    have IO : Hid (∀ a c b d u, PtsAt u a f.2.2.1 → TagsAt u b f.2.2.2 → Calls Try.prog 27 #[.agg #[.string f.1, .int .i64 f.2.1, .slice a f.2.2.1.length c, .slice b f.2.2.2.length d], .string key] u fun e w' => e = .returned (.tuple #[.string (fgVal f key), .bool (fgOk f key)]) ∧ Below u.heap.size u w') := fun a c b d u h1 h2 => featGet_at f FF.out key kk a c b d u h1 h2
    have IC : Hid (∀ a c b d u, PtsAt u a f.2.2.1 → TagsAt u b t → Calls Try.prog 25 #[.agg #[.string f.1, .int .i64 f.2.1, .slice a f.2.2.1.length c, .slice b t.length d], .string key] u (PutAns u (fcAll (f.1, f.2.1, f.2.2.1, t) key).1 (fcAll (f.1, f.2.1, f.2.2.1, t) key).2.1 (fcAll (f.1, f.2.1, f.2.2.1, t) key).2.2.1 (fcAll (f.1, f.2.1, f.2.2.1, t) key).2.2.2 true)) := fun a c b d u h1 h2 => by
      have := featCut_at (f.1, f.2.1, f.2.2.1, t) XF.out key kk a c b d u h1 h2
      rw [y2] at this
      exact this
    have IB : Hid (fgOk f key = true → ∀ a c b d u, PtsAt u a f.2.2.1 → TagsAt u b t → Calls Try.prog 32 #[.agg #[.string f.1, .int .i64 f.2.1, .slice a f.2.2.1.length c, .slice b t.length d], .string key, .string (fgVal f key)] u (PutAns u f.1 f.2.1 f.2.2.1 f.2.2.2 true)) := fun hh a c b d u h1 h2 => by
      have := featPut_at (f.1, f.2.1, f.2.2.1, t) XF.out key (fgVal f key) kk (val_few FF.out hh) a c b d u h1 h2
      obtain ⟨z1, z2, _⟩ := y5 hh
      rw [z1, z2] at this
      exact this
    have LEN : Hid (fgOk f key = true → IntKind.i64.wrap ((f.2.2.2.length : Int) - 1) = ((fcAll (f.1, f.2.1, f.2.2.1, t) key).2.2.2.length : Int)) := fun hh => by
      rw [IntWalk.i64_in _ (by omega)]
      exact (y5 hh).2.2
    have NEW : Hid (fgOk f key = false → fcAll (f.1, f.2.1, f.2.2.1, t) key = f) := y6
    clear y1 y2 y3 y4 y5 y6 hV hO XF
    generalize fcAll (f.1, f.2.1, f.2.2.1, t) key = c at *
    generalize fgVal f key = old at *
    generalize fgOk f key = had at *
    have ev := bytes_beq val val
    rw [decide_eq_true rfl] at ev
    have ei := bytes_beq f.1 f.1
    rw [decide_eq_true rfl] at ei
    obtain ⟨c0, c1, c2, c3⟩ := X4.out
    go_wp2_with fail
    refine (IK.out _ _ _ _ _ PX.out TX.out).mono ?_
    rintro e w5 ⟨rfl, hn⟩
    clear c0 c1 c2 c3
    replace B : Hid (Below w.heap.size w w5) := B.out.trans (hn.mono B.out.size)
    replace P := Lib.hid (P.out.below hn)
    replace T := Lib.hid (T.out.below hn)
    replace PX := Lib.hid (PX.out.below hn)
    replace TX := Lib.hid (TX.out.below hn)
    replace F4 := Lib.hid (F4.out.later hn)
    replace X4 := Lib.hid (X4.out.later hn)
    clear hn
    obtain ⟨c0, c1, c2, c3⟩ := X4.out
    obtain ⟨d0, d1, d2, d3⟩ := F4.out
    go_wp2_with fail
    refine (FO.out _ _ _ _ _ PX.out TX.out).mono ?_
    rintro e w6 ⟨rfl, hn⟩
    clear c0 c1 c2 c3
    clear d0 d1 d2 d3
    replace B : Hid (Below w.heap.size w w6) := B.out.trans (hn.mono B.out.size)
    replace P := Lib.hid (P.out.below hn)
    replace T := Lib.hid (T.out.below hn)
    replace PX := Lib.hid (PX.out.below hn)
    replace TX := Lib.hid (TX.out.below hn)
    replace F4 := Lib.hid (F4.out.later hn)
    replace X4 := Lib.hid (X4.out.later hn)
    clear hn
    obtain ⟨c0, c1, c2, c3⟩ := X4.out
    obtain ⟨d0, d1, d2, d3⟩ := F4.out
    go_wp2_with fail
    refine (SH.out _ _ _ _ _ PX.out P.out).mono ?_
    rintro e w7 ⟨rfl, hn⟩
    clear c0 c1 c2 c3
    clear d0 d1 d2 d3
    replace B : Hid (Below w.heap.size w w7) := B.out.trans (hn.mono B.out.size)
    replace P := Lib.hid (P.out.below hn)
    replace T := Lib.hid (T.out.below hn)
    replace PX := Lib.hid (PX.out.below hn)
    replace TX := Lib.hid (TX.out.below hn)
    replace F4 := Lib.hid (F4.out.later hn)
    replace X4 := Lib.hid (X4.out.later hn)
    clear hn
    clear IK FO SH ev ei
    obtain ⟨f0, f1, f2, f3⟩ := F4.out
    go_wp2
    go_loopw [12, 13, 14] (fun i _ _ wr => ∃ j : Nat, j ≤ f.2.2.2.length ∧ i = .int .i64 j ∧ Below w7.heap.size w7 wr) (fun i _ _ _ => f.2.2.2.length - (intOf i).toNat)
    case atStart => exact ⟨0, Nat.zero_le _, rfl, Below.refl _ _⟩
    case round =>
      obtain ⟨j, hj, rfl, hn⟩ := hrel
      clear f0 f1 f2 f3
      replace B : Hid (Below w.heap.size w wr) := B.out.trans (hn.mono B.out.size)
      replace P := Lib.hid (P.out.below hn)
      replace T := Lib.hid (T.out.below hn)
      replace PX := Lib.hid (PX.out.below hn)
      replace TX := Lib.hid (TX.out.below hn)
      replace F4 := Lib.hid (F4.out.later hn)
      replace X4 := Lib.hid (X4.out.later hn)
      have HB := Lib.hid hn
      clear hn
      obtain ⟨f0, f1, f2, f3⟩ := F4.out
      by_cases hlt : j < f.2.2.2.length
      · have hltI : (j : Int) < (f.2.2.2.length : Int) := by omega
        obtain ⟨b, off, rfl, hb, h0, h1⟩ := T.out j hlt
        have eb := bytes_beq (tk f.2.2.2 j) key
        have ew := bytes_beq (tv f.2.2.2 j) (tv f.2.2.2 j)
        rw [decide_eq_true rfl] at ew
        obtain ⟨c0, c1, c2, c3⟩ := X4.out
        go_upto_region 16 with (fail)
        go_cut [13, 14] (fun s13 s14 wx => s13 = .string (V j) ∧ s14 = .bool (O j) ∧ Below wr.heap.size wr wx)
        case first =>
          clear eb ew
          go_region_held3 (fun w' => w'.cell? ⟨w2.heap.size, 0, none⟩ = some (.string f.1) ∧ w'.cell? ⟨w2.heap.size, 1, none⟩ = some (.int .i64 f.2.1) ∧ w'.cell? ⟨w2.heap.size, 2, none⟩ = some (.slice xa f.2.2.1.length xc) ∧ w'.cell? ⟨w2.heap.size, 3, none⟩ = some (.slice xb t.length xd) ∧ w'.cell? ⟨w1.heap.size, 3, none⟩ = some (.slice (some ⟨b, off, none⟩) f.2.2.2.length tc) ∧ w'.cell? ⟨b, off + j * 2, none⟩ = some (.string (tk f.2.2.2 j)) ∧ Below wr.heap.size wr w')
            (first
              | exact ⟨c0, c1, c2, c3, f3, h0, (Below.refl _ _).drew⟩
              | (go_split_ands
                 rename_i hS0 hS1 hS2 hS3 hS4 hS5 hSZ
                 exact ⟨cell_later hbn hS0, cell_later hbn hS1, cell_later hbn hS2, cell_later hbn hS3, cell_later hbn hS4, cell_later hbn hS5, hSZ.trans (hbn.mono hSZ.size)⟩))
            (first
              | (go_at_call 27
                 refine (IX.out j hlt _ _ _ _ _ ?_ ?_).mono ?_
                 · (go_split_ands; exact PX.out.below (by assumption))
                 · (go_split_ands; exact TX.out.below (by assumption))
                 rintro e wn ⟨rfl, hbn⟩))
          all_goals (go_wp2_with fail; go_meet; go_split_ands; exact ⟨rfl, rfl, by assumption⟩)
        case rest =>
          obtain ⟨rfl, rfl, hbc⟩ := hcut
          replace f3 := cell_later hbc f3
          replace h0 := cell_later hbc h0
          replace h1 := cell_later hbc h1
          have zb : b < wc.heap.size := World.block_lt_of_cell? _ _ h0
          have zf : w1.heap.size < wc.heap.size := World.block_lt_of_cell? _ _ f3
          have HB6 : Hid (Below w7.heap.size w7 wc) := HB.out.trans (hbc.mono HB.out.size)
          clear hbc f0 f1 f2 c0 c1 c2 c3
          by_cases hne : tk f.2.2.2 j = key
          · rw [decide_eq_true hne] at eb
            clear hne
            go_wp2
            go_roundw
            case rel => exact ⟨j + 1, by omega, by go_num, by first | exact HB6.out | exact below_drewN HB6.out _⟩
            case measure => simp [intOf]; omega
          · rw [decide_eq_false hne] at eb
            obtain ⟨z1, z2⟩ := Y4.out j hlt hne
            rw [z1, z2]
            clear hne z1 z2
            go_wp2
            go_roundw
            case rel => exact ⟨j + 1, by omega, by go_num, by first | exact HB6.out | exact below_drewN HB6.out _⟩
            case measure => simp [intOf]; omega
      · have hge : ¬ (j : Int) < (f.2.2.2.length : Int) := by omega
        go_wp2_with fail
        refine (IO.out _ _ _ _ _ P.out T.out).mono ?_
        rintro e w8 ⟨rfl, hn⟩
        clear f0 f1 f2 f3
        replace B : Hid (Below w.heap.size w w8) := B.out.trans (hn.mono B.out.size)
        replace P := Lib.hid (P.out.below hn)
        replace T := Lib.hid (T.out.below hn)
        replace PX := Lib.hid (PX.out.below hn)
        replace TX := Lib.hid (TX.out.below hn)
        replace F4 := Lib.hid (F4.out.later hn)
        replace X4 := Lib.hid (X4.out.later hn)
        clear hn
        obtain ⟨c0, c1, c2, c3⟩ := X4.out
        go_wp2_with fail
        refine (IC.out _ _ _ _ _ PX.out TX.out).mono ?_
        rintro e w9 ⟨v, rfl, ca, cc, cb, cd, rfl, hP, _, _, hT, _, _, _, hn⟩
        clear c0 c1 c2 c3
        have PC := Lib.hid hP
        have TC := Lib.hid hT
        clear hP hT
        replace B : Hid (Below w.heap.size w w9) := B.out.trans (hn.mono B.out.size)
        replace P := Lib.hid (P.out.below hn)
        replace T := Lib.hid (T.out.below hn)
        replace PX := Lib.hid (PX.out.below hn)
        replace TX := Lib.hid (TX.out.below hn)
        replace F4 := Lib.hid (F4.out.later hn)
        replace X4 := Lib.hid (X4.out.later hn)
        clear hn
        obtain ⟨u9, hu⟩ : ∃ u, u = w9.alloc (.cells #[.string c.1, .int .i64 c.2.1, .slice ca c.2.2.1.length cc, .slice cb c.2.2.2.length cd] 43) := ⟨_, rfl⟩
        have hn : Below w9.heap.size w9 u9 := by rw [hu]; exact ((Below.refl _ _).alloc (Nat.le_refl _) _)
        have C4 : Hid (Box4 u9 w9.heap.size (.string c.1) (.int .i64 c.2.1) (.slice ca c.2.2.1.length cc) (.slice cb c.2.2.2.length cd)) := by rw [hu]; exact Box4.new w9 _ _ _ _ _
        replace B : Hid (Below w.heap.size w u9) := B.out.trans (hn.mono B.out.size)
        replace P := Lib.hid (P.out.below hn)
        replace T := Lib.hid (T.out.below hn)
        replace PX := Lib.hid (PX.out.below hn)
        replace TX := Lib.hid (TX.out.below hn)
        replace PC := Lib.hid (PC.out.below hn)
        replace TC := Lib.hid (TC.out.below hn)
        replace F4 := Lib.hid (F4.out.later hn)
        replace X4 := Lib.hid (X4.out.later hn)
        clear hn
        go_upto_region 21 with (fail)
        rw [← hu]
        clear hu
        cases had
        · have e9 := NEW.out (by first | rfl | trivial)
          clear IB LEN NEW
          subst e9
          obtain ⟨c0, c1, c2, c3⟩ := C4.out
          obtain ⟨d0, d1, d2, d3⟩ := F4.out
          go_wp2_with fail
          refine (featSame_at _ FF.out _ _ _ _ _ _ _ _ _ PC.out P.out TC.out T.out).mono ?_
          rintro e w10 ⟨rfl, hn⟩
          clear c0 c1 c2 c3
          clear d0 d1 d2 d3
          replace B : Hid (Below w.heap.size w w10) := B.out.trans (hn.mono B.out.size)
          replace P := Lib.hid (P.out.below hn)
          replace T := Lib.hid (T.out.below hn)
          replace PX := Lib.hid (PX.out.below hn)
          replace TX := Lib.hid (TX.out.below hn)
          replace PC := Lib.hid (PC.out.below hn)
          replace TC := Lib.hid (TC.out.below hn)
          replace F4 := Lib.hid (F4.out.later hn)
          replace X4 := Lib.hid (X4.out.later hn)
          replace C4 := Lib.hid (C4.out.later hn)
          clear hn
          go_wp2
          go_ret
          exact ⟨rfl, B.out⟩
        · have e9 := LEN.out (by first | rfl | trivial)
          clear LEN NEW
          obtain ⟨c0, c1, c2, c3⟩ := X4.out
          go_wp2_with fail
          refine (IB.out (by first | rfl | trivial) _ _ _ _ _ PX.out TX.out).mono ?_
          rintro e w10 ⟨v, rfl, ra, rc, rb, rd, rfl, hP, _, _, hT, _, _, _, hn⟩
          clear c0 c1 c2 c3
          have PR := Lib.hid hP
          have TR := Lib.hid hT
          clear hP hT
          replace B : Hid (Below w.heap.size w w10) := B.out.trans (hn.mono B.out.size)
          replace P := Lib.hid (P.out.below hn)
          replace T := Lib.hid (T.out.below hn)
          replace PX := Lib.hid (PX.out.below hn)
          replace TX := Lib.hid (TX.out.below hn)
          replace PC := Lib.hid (PC.out.below hn)
          replace TC := Lib.hid (TC.out.below hn)
          replace F4 := Lib.hid (F4.out.later hn)
          replace X4 := Lib.hid (X4.out.later hn)
          replace C4 := Lib.hid (C4.out.later hn)
          clear hn
          obtain ⟨u10, hu⟩ : ∃ u, u = w10.alloc (.cells #[.string f.1, .int .i64 f.2.1, .slice ra f.2.2.1.length rc, .slice rb f.2.2.2.length rd] 43) := ⟨_, rfl⟩
          have hn : Below w10.heap.size w10 u10 := by rw [hu]; exact ((Below.refl _ _).alloc (Nat.le_refl _) _)
          have R4 : Hid (Box4 u10 w10.heap.size (.string f.1) (.int .i64 f.2.1) (.slice ra f.2.2.1.length rc) (.slice rb f.2.2.2.length rd)) := by rw [hu]; exact Box4.new w10 _ _ _ _ _
          replace B : Hid (Below w.heap.size w u10) := B.out.trans (hn.mono B.out.size)
          replace P := Lib.hid (P.out.below hn)
          replace T := Lib.hid (T.out.below hn)
          replace PX := Lib.hid (PX.out.below hn)
          replace TX := Lib.hid (TX.out.below hn)
          replace PC := Lib.hid (PC.out.below hn)
          replace TC := Lib.hid (TC.out.below hn)
          replace PR := Lib.hid (PR.out.below hn)
          replace TR := Lib.hid (TR.out.below hn)
          replace F4 := Lib.hid (F4.out.later hn)
          replace X4 := Lib.hid (X4.out.later hn)
          replace C4 := Lib.hid (C4.out.later hn)
          clear hn
          go_upto_region 23 with (fail)
          rw [← hu]
          clear hu
          obtain ⟨c0, c1, c2, c3⟩ := R4.out
          obtain ⟨d0, d1, d2, d3⟩ := F4.out
          go_wp2_with fail
          refine (featSame_at f FF.out _ _ _ _ _ _ _ _ _ PR.out P.out TR.out T.out).mono ?_
          rintro e w11 ⟨rfl, hn⟩
          clear c0 c1 c2 c3
          clear d0 d1 d2 d3
          replace B : Hid (Below w.heap.size w w11) := B.out.trans (hn.mono B.out.size)
          replace P := Lib.hid (P.out.below hn)
          replace T := Lib.hid (T.out.below hn)
          replace PX := Lib.hid (PX.out.below hn)
          replace TX := Lib.hid (TX.out.below hn)
          replace PC := Lib.hid (PC.out.below hn)
          replace TC := Lib.hid (TC.out.below hn)
          replace PR := Lib.hid (PR.out.below hn)
          replace TR := Lib.hid (TR.out.below hn)
          replace F4 := Lib.hid (F4.out.later hn)
          replace X4 := Lib.hid (X4.out.later hn)
          replace C4 := Lib.hid (C4.out.later hn)
          replace R4 := Lib.hid (R4.out.later hn)
          clear hn
          obtain ⟨c0, c1, c2, c3⟩ := C4.out
          obtain ⟨d0, d1, d2, d3⟩ := F4.out
          go_wp2
          go_ret
          exact ⟨rfl, B.out⟩

set_option maxRecDepth 100000 in
set_option maxHeartbeats 400000 in
theorem fnFeatPut_large (a : Option Addr) (n cap : Nat) (w : World) (hn : 1048576 < n) :
    Calls Try.prog 7 #[.slice a n cap] w fun e w' => e = .returned (.bool true) ∧ Below w.heap.size w w' := by
  have hg : (1048576 : Int) < (n : Int) := by omega
  go_enter Try.func7, Try.ntmps7
  go_wp2
  go_ret
  exact ⟨rfl, Below.refl _ _⟩

theorem fnFeatPut_all (a : Option Addr) (n cap : Nat) (w : World) (h : CodeAt w a n) (hc : n ≤ cap) (_ : n ≤ maxLen) :
    Calls Try.prog 7 #[.slice a n cap] w fun e w' => e = .returned (.bool true) ∧ Below w.heap.size w w' := by
  by_cases h1 : n ≤ 1048576
  · exact fnFeatPut_walk a n cap w h h1 hc
  · exact fnFeatPut_large a n cap w (by omega)

set_option maxRecDepth 100000 in
theorem fnFeatPut_lifted (os : Os) (started : os.Started) (H : Type) (enc : TypeId × Value → H) :
    ReturnsInHanded {} Try.checked os 7 .any (Rows.fnFeatPutSpec.pre6 enc Try.prog Try.f7 Rows.fnFeatPutRow.domain false) (Rows.fnFeatPutSpec.post enc Try.prog Try.f7 false true false false) := by
  refine returnsInHanded_of_change (C := Try.checked) own started (by kernel_rfl) Try.func7
    (ChangeSpec.witness6 (enc := enc) (C := Try.checked) false ⟨#[], #[.slice none 0 0], []⟩ 8 (by kernel_rfl) (by kernel_rfl) (by kernel_rfl) (by kernel_rfl)) ?_
  intro W base args ds gs before hval0 hW _ _
  have hval : ∀ (j : Nat) t v, Try.f7.params[j]? = some t → args[j]? = some v → Value.okWide Try.prog W .any base t v := hval0
  have hW' := hW
  obtain ⟨p, q, hA0, hV, rfl, _, _⟩ := hW
  have hA : DataW.TrodAll enc Try.prog W 0 (fun _ => true) true Try.f7.params.toList args.toList ds p := hA0
  rw [Try.params7] at hA hval
  obtain ⟨v0, vs0, d0, ds0, p0, q0, hargs, rfl, rfl, h0, r0⟩ := trodAll_cons hA
  obtain ⟨rfl, rfl, rfl⟩ := trodAll_nil r0
  obtain rfl : args = #[v0] := by cases args; simp_all
  obtain ⟨rfl, rfl⟩ := trodVars_none hV
  have k0 := h0
  have lt0 : ∀ x ∈ p0, x.block < W.heap.size := by obtain ⟨m, hm⟩ := k0; exact DataW.trod_lt m _ _ _ hm
  obtain ⟨a0, n0, c0, rfl, f0, g0, m0⟩ := open_code (hval 0 22 v0 rfl rfl) h0
  clear hA0 hval0
  refine (fnFeatPut_all a0 n0 c0 W f0 g0 m0).mono fun e W' ⟨he, bel⟩ => ?_
  subst he
  exact ⟨_, rfl, _, _, _, [], _, [], hW', trodAll_mk1 (shut_bool Try.underlying4 _), (trodAll_cons_mk (Below.trod laidOut (by kernel_rfl) (of_decide_eq_true (by kernel_rfl)) k0 bel lt0) trodAll_mk0), rfl, bel.frame _, fun h => by cases h⟩

theorem fnFeatPut_over : Rows.fnFeatPutRow.holds Try.pinned (OpenSpec.ofChange Rows.fnFeatPutSpec) :=
  OpenClaim.holds_of_wide 7 Try.f7 rfl rfl rfl rfl rfl rfl rfl ⟨rfl, rfl, rfl, rfl, rfl⟩ rfl rfl rfl rfl rfl (by kernel_rfl) Try.func7 (by kernel_rfl)
    (of_decide_eq_true (by kernel_rfl)) (by unfold Func.isWrapper; first | (rw [if_pos (by decide +kernel)]; kernel_rfl) | (rw [if_neg (by decide +kernel)]; exact ⟨rfl, rfl⟩))
    (fun os started H enc _ => fnFeatPut_lifted os started H enc)

/-- the given statement -/
theorem fnFeatPut_holds : Rows.FnFeatPutSaid := fnFeatPut_over

end Go.Proofs.Ytdfadpejddhbkaa
