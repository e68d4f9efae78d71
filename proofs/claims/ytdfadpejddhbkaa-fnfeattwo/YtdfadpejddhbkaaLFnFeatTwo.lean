/- Proved here: the law FnFeatTwo answers true at every pair of codes, and leaves them as they were; no condition. -/
import Derived.Test.YtdfadpejddhbkaaWDrawFPut
import Derived.Test.YtdfadpejddhbkaaWTwoMath
import Derived.Test.YtdfadpejddhbkaaWArg
import Derived.BigQuiet
namespace Go.Proofs.Ytdfadpejddhbkaa
set_option linter.unusedVariables false
open Go.ChangeShapes Go.WideShapes Go.ChangeAt Go.RowKit

set_option maxRecDepth 100000 in
set_option maxHeartbeats 8000000 in
theorem fnFeatTwo_walk (a : Option Addr) (n cap : Nat) (a' : Option Addr) (n' cap' : Nat) (w : World) (h : CodeAt w a n) (hl : n ≤ 1048576) (hc : n ≤ cap) (h' : CodeAt w a' n') (hl' : n' ≤ 1048576) (hc' : n' ≤ cap') :
    Calls Try.prog 8 #[.slice a n cap, .slice a' n' cap'] w fun e w' => e = .returned (.bool true) ∧ Below w.heap.size w w' := by
  have HC := Lib.hid h
  have HD := Lib.hid h'
  clear h h'
  have hg : ¬ (1048576 : Int) < (n : Int) := by omega
  have hg' : ¬ (1048576 : Int) < (n' : Int) := by omega
  go_enter Try.func8, Try.ntmps8
  go_wp2_with fail
  refine (drawFeatPut_any _ _ _ _ HC.out hl hc).mono ?_
  rintro e w1 ⟨id, k, pa, pc, ps, ta, tc, ts, key, val, rfl, hP, hT, i1, i2, i3, i4, i5, i6, hb1⟩
  have B := Lib.hid hb1
  obtain ⟨f, hf⟩ : ∃ f : Fx, f = (id, k, ps, ts) := ⟨_, rfl⟩
  obtain rfl : id = f.1 := by rw [hf]
  obtain rfl : k = f.2.1 := by rw [hf]
  obtain rfl : ps = f.2.2.1 := by rw [hf]
  obtain rfl : ts = f.2.2.2 := by rw [hf]
  clear hf
  replace HD := Lib.hid (HD.out.below B.out)
  have P := Lib.hid hP
  have T := Lib.hid hT
  have FF : Hid (FtFew f) := ⟨by omega, by omega, by omega, i4.mono (by omega)⟩
  have kk : key.size ≤ 1048576 := by omega
  have kv : val.size ≤ 1048576 := by omega
  clear hP hT i1 i2 i3 i4 i5 i6 hb1 HC
  obtain ⟨u1, hu⟩ : ∃ u, u = w1.alloc (.cells #[.string f.1, .int .i64 f.2.1, .slice pa f.2.2.1.length pc, .slice ta f.2.2.2.length tc] 43) := ⟨_, rfl⟩
  have hn : Below w1.heap.size w1 u1 := by rw [hu]; exact ((Below.refl _ _).alloc (Nat.le_refl _) _)
  have F4 : Hid (Box4 u1 w1.heap.size (.string f.1) (.int .i64 f.2.1) (.slice pa f.2.2.1.length pc) (.slice ta f.2.2.2.length tc)) := by rw [hu]; exact Box4.new w1 _ _ _ _ _
  replace B : Hid (Below w.heap.size w u1) := B.out.trans (hn.mono B.out.size)
  replace P := Lib.hid (P.out.below hn)
  replace T := Lib.hid (T.out.below hn)
  replace HD := Lib.hid (HD.out.below hn)
  clear hn
  go_upto_region 4 with (fail)
  rw [← hu]
  clear hu
  go_wp2_with fail
  refine (drawFeatPut_any _ _ _ _ HD.out hl' hc').mono ?_
  rintro e w2 ⟨id', k', pa', pc', ps', ta', tc', ts', other, second, rfl, _, _, _, _, _, _, j5, j6, hn⟩
  have ok5 : other.size ≤ 1048576 := by omega
  have ok6 : second.size ≤ 1048576 := by omega
  clear j5 j6
  replace B : Hid (Below w.heap.size w w2) := B.out.trans (hn.mono B.out.size)
  replace P := Lib.hid (P.out.below hn)
  replace T := Lib.hid (T.out.below hn)
  replace F4 := Lib.hid (F4.out.later hn)
  clear hn HD
  obtain ⟨u2, hu⟩ : ∃ u, u = w2.alloc (.cells #[.string id', .int .i64 k', .slice pa' ps'.length pc', .slice ta' ts'.length tc'] 43) := ⟨_, rfl⟩
  have hn : Below w2.heap.size w2 u2 := by rw [hu]; exact ((Below.refl _ _).alloc (Nat.le_refl _) _)
  replace B : Hid (Below w.heap.size w u2) := B.out.trans (hn.mono B.out.size)
  replace P := Lib.hid (P.out.below hn)
  replace T := Lib.hid (T.out.below hn)
  replace F4 := Lib.hid (F4.out.later hn)
  clear hn
  go_upto_region 5 with (fail)
  rw [← hu]
  clear hu
  have I1 : Hid (∀ a c b d u, PtsAt u a f.2.2.1 → TagsAt u b f.2.2.2 → Calls Try.prog 32 #[.agg #[.string f.1, .int .i64 f.2.1, .slice a f.2.2.1.length c, .slice b f.2.2.2.length d], .string key, .string val] u (PutAns u (fpAll f key val).1 (fpAll f key val).2.1 (fpAll f key val).2.2.1 (fpAll f key val).2.2.2 (fpOk f key val))) := fun a c b d u h1 h2 => featPut_at f FF.out key val kk kv a c b d u h1 h2
  have I2 : Hid (∀ a c b d u, PtsAt u a f.2.2.1 → TagsAt u b f.2.2.2 → Calls Try.prog 33 #[.agg #[.string f.1, .int .i64 f.2.1, .slice a f.2.2.1.length c, .slice b f.2.2.2.length d], .string key, .string val] u (PutAns u (fpAll f key val).1 (fpAll f key val).2.1 (fpAll f key val).2.2.1 (fpAll f key val).2.2.2 (fpOk f key val))) := fun a c b d u h1 h2 => featPutS_at f FF.out key val kk kv a c b d u h1 h2
  have I3 : Hid (∀ a c b d u, PtsAt u a (fpAll f key val).2.2.1 → TagsAt u b (fpAll f key val).2.2.2 → Calls Try.prog 32 #[.agg #[.string (fpAll f key val).1, .int .i64 (fpAll f key val).2.1, .slice a (fpAll f key val).2.2.1.length c, .slice b (fpAll f key val).2.2.2.length d], .string other, .string second] u (PutAns u (fpAll (fpAll f key val) other second).1 (fpAll (fpAll f key val) other second).2.1 (fpAll (fpAll f key val) other second).2.2.1 (fpAll (fpAll f key val) other second).2.2.2 (fpOk (fpAll f key val) other second))) := fun a c b d u h1 h2 => featPut_at _ (fp_few FF.out kk kv) other second ok5 ok6 a c b d u h1 h2
  have I4 : Hid (∀ a c b d u, PtsAt u a f.2.2.1 → TagsAt u b f.2.2.2 → Calls Try.prog 32 #[.agg #[.string f.1, .int .i64 f.2.1, .slice a f.2.2.1.length c, .slice b f.2.2.2.length d], .string other, .string second] u (PutAns u (fpAll f other second).1 (fpAll f other second).2.1 (fpAll f other second).2.2.1 (fpAll f other second).2.2.2 (fpOk f other second))) := fun a c b d u h1 h2 => featPut_at f FF.out other second ok5 ok6 a c b d u h1 h2
  have I5 : Hid (∀ a c b d u, PtsAt u a (fpAll f other second).2.2.1 → TagsAt u b (fpAll f other second).2.2.2 → Calls Try.prog 32 #[.agg #[.string (fpAll f other second).1, .int .i64 (fpAll f other second).2.1, .slice a (fpAll f other second).2.2.1.length c, .slice b (fpAll f other second).2.2.2.length d], .string key, .string val] u (PutAns u (fpAll (fpAll f other second) key val).1 (fpAll (fpAll f other second) key val).2.1 (fpAll (fpAll f other second) key val).2.2.1 (fpAll (fpAll f other second) key val).2.2.2 (fpOk (fpAll f other second) key val))) := fun a c b d u h1 h2 => featPut_at _ (fp_few FF.out ok5 ok6) key val kk kv a c b d u h1 h2
  have SAME : Hid (fpOk f key val = true → key = other → fpOk (fpAll f key val) other second = fpOk f other second ∧ fpAll (fpAll f key val) other second = fpAll f other second) := fun h e => by subst e; exact two_put_same h
  have DIFF : Hid (fpOk f key val = true → key ≠ other → fpOk (fpAll f key val) other second = true → fpOk f other second = true ∧ fpOk (fpAll f other second) key val = true ∧ fpAll (fpAll f key val) other second = fpAll (fpAll f other second) key val) := fun h e ho => two_put_diff h e ho
  have XF : Hid (FtFew (fpAll f key val)) := fp_few FF.out kk kv
  have YF : Hid (FtFew (fpAll (fpAll f key val) other second)) := fp_few (fp_few FF.out kk kv) ok5 ok6
  generalize fpAll (fpAll f key val) other second = y at *
  generalize fpAll (fpAll f other second) key val = t at *
  generalize fpOk (fpAll f key val) other second = one at *
  generalize fpOk (fpAll f other second) key val = three at *
  generalize fpAll f key val = x at *
  generalize fpAll f other second = z at *
  generalize fpOk f key val = ok at *
  generalize fpOk f other second = two at *
  clear FF kk kv ok5 ok6
  obtain ⟨c0, c1, c2, c3⟩ := F4.out
  go_wp2_with fail
  refine (I1.out _ _ _ _ _ P.out T.out).mono ?_
  rintro e w3 ⟨v, rfl, xa, xc, xb, xd, rfl, hP, _, _, hT, _, _, _, hn⟩
  clear c0 c1 c2 c3
  have PX := Lib.hid hP
  have TX := Lib.hid hT
  clear hP hT
  replace B : Hid (Below w.heap.size w w3) := B.out.trans (hn.mono B.out.size)
  replace P := Lib.hid (P.out.below hn)
  replace T := Lib.hid (T.out.below hn)
  replace F4 := Lib.hid (F4.out.later hn)
  clear hn
  obtain ⟨u3, hu⟩ : ∃ u, u = w3.alloc (.cells #[.string x.1, .int .i64 x.2.1, .slice xa x.2.2.1.length xc, .slice xb x.2.2.2.length xd] 43) := ⟨_, rfl⟩
  have hn : Below w3.heap.size w3 u3 := by rw [hu]; exact ((Below.refl _ _).alloc (Nat.le_refl _) _)
  have X4 : Hid (Box4 u3 w3.heap.size (.string x.1) (.int .i64 x.2.1) (.slice xa x.2.2.1.length xc) (.slice xb x.2.2.2.length xd)) := by rw [hu]; exact Box4.new w3 _ _ _ _ _
  replace B : Hid (Below w.heap.size w u3) := B.out.trans (hn.mono B.out.size)
  replace P := Lib.hid (P.out.below hn)
  replace T := Lib.hid (T.out.below hn)
  replace PX := Lib.hid (PX.out.below hn)
  replace TX := Lib.hid (TX.out.below hn)
  replace F4 := Lib.hid (F4.out.later hn)
  clear hn
  go_upto_region 6 with (fail)
  rw [← hu]
  clear hu
  obtain ⟨c0, c1, c2, c3⟩ := F4.out
  go_wp2_with fail
  refine (I2.out _ _ _ _ _ P.out T.out).mono ?_
  rintro e w4 ⟨v, rfl, wa, wc, wb, wd, rfl, hP, _, _, hT, _, _, _, hn⟩
  clear c0 c1 c2 c3
  have PW := Lib.hid hP
  have TW := Lib.hid hT
  clear hP hT
  replace B : Hid (Below w.heap.size w w4) := B.out.trans (hn.mono B.out.size)
  replace P := Lib.hid (P.out.below hn)
  replace T := Lib.hid (T.out.below hn)
  replace PX := Lib.hid (PX.out.below hn)
  replace TX := Lib.hid (TX.out.below hn)
  replace F4 := Lib.hid (F4.out.later hn)
  replace X4 := Lib.hid (X4.out.later hn)
  clear hn
  obtain ⟨u4, hu⟩ : ∃ u, u = w4.alloc (.cells #[.string x.1, .int .i64 x.2.1, .slice wa x.2.2.1.length wc, .slice wb x.2.2.2.length wd] 43) := ⟨_, rfl⟩
  have hn : Below w4.heap.size w4 u4 := by rw [hu]; exact ((Below.refl _ _).alloc (Nat.le_refl _) _)
  have W4 : Hid (Box4 u4 w4.heap.size (.string x.1) (.int .i64 x.2.1) (.slice wa x.2.2.1.length wc) (.slice wb x.2.2.2.length wd)) := by rw [hu]; exact Box4.new w4 _ _ _ _ _
  replace B : Hid (Below w.heap.size w u4) := B.out.trans (hn.mono B.out.size)
  replace P := Lib.hid (P.out.below hn)
  replace T := Lib.hid (T.out.below hn)
  replace PX := Lib.hid (PX.out.below hn)
  replace TX := Lib.hid (TX.out.below hn)
  replace PW := Lib.hid (PW.out.below hn)
  replace TW := Lib.hid (TW.out.below hn)
  replace F4 := Lib.hid (F4.out.later hn)
  replace X4 := Lib.hid (X4.out.later hn)
  clear hn
  go_upto_region 7 with (fail)
  rw [← hu]
  clear hu
  clear I1 I2
  cases ok
  · obtain ⟨c0, c1, c2, c3⟩ := X4.out
    obtain ⟨d0, d1, d2, d3⟩ := W4.out
    go_wp2_with fail
    refine (featSame_at x XF.out _ _ _ _ _ _ _ _ _ PX.out PW.out TX.out TW.out).mono ?_
    rintro e w5 ⟨rfl, hn⟩
    clear c0 c1 c2 c3
    clear d0 d1 d2 d3
    replace B : Hid (Below w.heap.size w w5) := B.out.trans (hn.mono B.out.size)
    replace P := Lib.hid (P.out.below hn)
    replace T := Lib.hid (T.out.below hn)
    replace PX := Lib.hid (PX.out.below hn)
    replace TX := Lib.hid (TX.out.below hn)
    replace PW := Lib.hid (PW.out.below hn)
    replace TW := Lib.hid (TW.out.below hn)
    replace F4 := Lib.hid (F4.out.later hn)
    replace X4 := Lib.hid (X4.out.later hn)
    replace W4 := Lib.hid (W4.out.later hn)
    clear hn
    obtain ⟨c0, c1, c2, c3⟩ := X4.out
    obtain ⟨d0, d1, d2, d3⟩ := W4.out
    go_wp2_with fail
    refine (featSame_at x XF.out _ _ _ _ _ _ _ _ _ PX.out PW.out TX.out TW.out).mono ?_
    rintro e w6 ⟨rfl, hn⟩
    clear c0 c1 c2 c3
    clear d0 d1 d2 d3
    replace B : Hid (Below w.heap.size w w6) := B.out.trans (hn.mono B.out.size)
    replace P := Lib.hid (P.out.below hn)
    replace T := Lib.hid (T.out.below hn)
    replace PX := Lib.hid (PX.out.below hn)
    replace TX := Lib.hid (TX.out.below hn)
    replace PW := Lib.hid (PW.out.below hn)
    replace TW := Lib.hid (TW.out.below hn)
    replace F4 := Lib.hid (F4.out.later hn)
    replace X4 := Lib.hid (X4.out.later hn)
    replace W4 := Lib.hid (W4.out.later hn)
    clear hn
    go_wp2
    go_ret
    exact ⟨rfl, B.out⟩
  · obtain ⟨c0, c1, c2, c3⟩ := X4.out
    obtain ⟨d0, d1, d2, d3⟩ := W4.out
    go_wp2_with fail
    refine (featSame_at x XF.out _ _ _ _ _ _ _ _ _ PX.out PW.out TX.out TW.out).mono ?_
    rintro e w5 ⟨rfl, hn⟩
    clear c0 c1 c2 c3
    clear d0 d1 d2 d3
    replace B : Hid (Below w.heap.size w w5) := B.out.trans (hn.mono B.out.size)
    replace P := Lib.hid (P.out.below hn)
    replace T := Lib.hid (T.out.below hn)
    replace PX := Lib.hid (PX.out.below hn)
    replace TX := Lib.hid (TX.out.below hn)
    replace PW := Lib.hid (PW.out.below hn)
    replace TW := Lib.hid (TW.out.below hn)
    replace F4 := Lib.hid (F4.out.later hn)
    replace X4 := Lib.hid (X4.out.later hn)
    replace W4 := Lib.hid (W4.out.later hn)
    clear hn
    obtain ⟨c0, c1, c2, c3⟩ := X4.out
    go_wp2_with fail
    refine (I3.out _ _ _ _ _ PX.out TX.out).mono ?_
    rintro e w6 ⟨v, rfl, ya, yc, yb, yd, rfl, hP, _, _, hT, _, _, _, hn⟩
    clear c0 c1 c2 c3
    have PY := Lib.hid hP
    have TY := Lib.hid hT
    clear hP hT
    replace B : Hid (Below w.heap.size w w6) := B.out.trans (hn.mono B.out.size)
    replace P := Lib.hid (P.out.below hn)
    replace T := Lib.hid (T.out.below hn)
    replace PX := Lib.hid (PX.out.below hn)
    replace TX := Lib.hid (TX.out.below hn)
    replace PW := Lib.hid (PW.out.below hn)
    replace TW := Lib.hid (TW.out.below hn)
    replace F4 := Lib.hid (F4.out.later hn)
    replace X4 := Lib.hid (X4.out.later hn)
    replace W4 := Lib.hid (W4.out.later hn)
    clear hn
    obtain ⟨u6, hu⟩ : ∃ u, u = w6.alloc (.cells #[.string y.1, .int .i64 y.2.1, .slice ya y.2.2.1.length yc, .slice yb y.2.2.2.length yd] 43) := ⟨_, rfl⟩
    have hn : Below w6.heap.size w6 u6 := by rw [hu]; exact ((Below.refl _ _).alloc (Nat.le_refl _) _)
    have Y4 : Hid (Box4 u6 w6.heap.size (.string y.1) (.int .i64 y.2.1) (.slice ya y.2.2.1.length yc) (.slice yb y.2.2.2.length yd)) := by rw [hu]; exact Box4.new w6 _ _ _ _ _
    replace B : Hid (Below w.heap.size w u6) := B.out.trans (hn.mono B.out.size)
    replace P := Lib.hid (P.out.below hn)
    replace T := Lib.hid (T.out.below hn)
    replace PX := Lib.hid (PX.out.below hn)
    replace TX := Lib.hid (TX.out.below hn)
    replace PW := Lib.hid (PW.out.below hn)
    replace TW := Lib.hid (TW.out.below hn)
    replace PY := Lib.hid (PY.out.below hn)
    replace TY := Lib.hid (TY.out.below hn)
    replace F4 := Lib.hid (F4.out.later hn)
    replace X4 := Lib.hid (X4.out.later hn)
    replace W4 := Lib.hid (W4.out.later hn)
    clear hn
    go_upto_region 10 with (fail)
    rw [← hu]
    clear hu
    obtain ⟨c0, c1, c2, c3⟩ := F4.out
    go_wp2_with fail
    refine (I4.out _ _ _ _ _ P.out T.out).mono ?_
    rintro e w7 ⟨v, rfl, za, zc, zb, zd, rfl, hP, _, _, hT, _, _, _, hn⟩
    clear c0 c1 c2 c3
    have PZ := Lib.hid hP
    have TZ := Lib.hid hT
    clear hP hT
    replace B : Hid (Below w.heap.size w w7) := B.out.trans (hn.mono B.out.size)
    replace P := Lib.hid (P.out.below hn)
    replace T := Lib.hid (T.out.below hn)
    replace PX := Lib.hid (PX.out.below hn)
    replace TX := Lib.hid (TX.out.below hn)
    replace PW := Lib.hid (PW.out.below hn)
    replace TW := Lib.hid (TW.out.below hn)
    replace PY := Lib.hid (PY.out.below hn)
    replace TY := Lib.hid (TY.out.below hn)
    replace F4 := Lib.hid (F4.out.later hn)
    replace X4 := Lib.hid (X4.out.later hn)
    replace W4 := Lib.hid (W4.out.later hn)
    replace Y4 := Lib.hid (Y4.out.later hn)
    clear hn
    obtain ⟨u7, hu⟩ : ∃ u, u = w7.alloc (.cells #[.string z.1, .int .i64 z.2.1, .slice za z.2.2.1.length zc, .slice zb z.2.2.2.length zd] 43) := ⟨_, rfl⟩
    have hn : Below w7.heap.size w7 u7 := by rw [hu]; exact ((Below.refl _ _).alloc (Nat.le_refl _) _)
    have Z4 : Hid (Box4 u7 w7.heap.size (.string z.1) (.int .i64 z.2.1) (.slice za z.2.2.1.length zc) (.slice zb z.2.2.2.length zd)) := by rw [hu]; exact Box4.new w7 _ _ _ _ _
    replace B : Hid (Below w.heap.size w u7) := B.out.trans (hn.mono B.out.size)
    replace P := Lib.hid (P.out.below hn)
    replace T := Lib.hid (T.out.below hn)
    replace PX := Lib.hid (PX.out.below hn)
    replace TX := Lib.hid (TX.out.below hn)
    replace PW := Lib.hid (PW.out.below hn)
    replace TW := Lib.hid (TW.out.below hn)
    replace PY := Lib.hid (PY.out.below hn)
    replace TY := Lib.hid (TY.out.below hn)
    replace PZ := Lib.hid (PZ.out.below hn)
    replace TZ := Lib.hid (TZ.out.below hn)
    replace F4 := Lib.hid (F4.out.later hn)
    replace X4 := Lib.hid (X4.out.later hn)
    replace W4 := Lib.hid (W4.out.later hn)
    replace Y4 := Lib.hid (Y4.out.later hn)
    clear hn
    go_upto_region 11 with (fail)
    rw [← hu]
    clear hu
    obtain ⟨c0, c1, c2, c3⟩ := Z4.out
    go_wp2_with fail
    refine (I5.out _ _ _ _ _ PZ.out TZ.out).mono ?_
    rintro e w8 ⟨v, rfl, ra, rc, rb, rd, rfl, hP, _, _, hT, _, _, _, hn⟩
    clear c0 c1 c2 c3
    have PR := Lib.hid hP
    have TR := Lib.hid hT
    clear hP hT
    replace B : Hid (Below w.heap.size w w8) := B.out.trans (hn.mono B.out.size)
    replace P := Lib.hid (P.out.below hn)
    replace T := Lib.hid (T.out.below hn)
    replace PX := Lib.hid (PX.out.below hn)
    replace TX := Lib.hid (TX.out.below hn)
    replace PW := Lib.hid (PW.out.below hn)
    replace TW := Lib.hid (TW.out.below hn)
    replace PY := Lib.hid (PY.out.below hn)
    replace TY := Lib.hid (TY.out.below hn)
    replace PZ := Lib.hid (PZ.out.below hn)
    replace TZ := Lib.hid (TZ.out.below hn)
    replace F4 := Lib.hid (F4.out.later hn)
    replace X4 := Lib.hid (X4.out.later hn)
    replace W4 := Lib.hid (W4.out.later hn)
    replace Y4 := Lib.hid (Y4.out.later hn)
    replace Z4 := Lib.hid (Z4.out.later hn)
    clear hn
    obtain ⟨u8, hu⟩ : ∃ u, u = w8.alloc (.cells #[.string t.1, .int .i64 t.2.1, .slice ra t.2.2.1.length rc, .slice rb t.2.2.2.length rd] 43) := ⟨_, rfl⟩
    have hn : Below w8.heap.size w8 u8 := by rw [hu]; exact ((Below.refl _ _).alloc (Nat.le_refl _) _)
    have R4 : Hid (Box4 u8 w8.heap.size (.string t.1) (.int .i64 t.2.1) (.slice ra t.2.2.1.length rc) (.slice rb t.2.2.2.length rd)) := by rw [hu]; exact Box4.new w8 _ _ _ _ _
    replace B : Hid (Below w.heap.size w u8) := B.out.trans (hn.mono B.out.size)
    replace P := Lib.hid (P.out.below hn)
    replace T := Lib.hid (T.out.below hn)
    replace PX := Lib.hid (PX.out.below hn)
    replace TX := Lib.hid (TX.out.below hn)
    replace PW := Lib.hid (PW.out.below hn)
    replace TW := Lib.hid (TW.out.below hn)
    replace PY := Lib.hid (PY.out.below hn)
    replace TY := Lib.hid (TY.out.below hn)
    replace PZ := Lib.hid (PZ.out.below hn)
    replace TZ := Lib.hid (TZ.out.below hn)
    replace PR := Lib.hid (PR.out.below hn)
    replace TR := Lib.hid (TR.out.below hn)
    replace F4 := Lib.hid (F4.out.later hn)
    replace X4 := Lib.hid (X4.out.later hn)
    replace W4 := Lib.hid (W4.out.later hn)
    replace Y4 := Lib.hid (Y4.out.later hn)
    replace Z4 := Lib.hid (Z4.out.later hn)
    clear hn
    go_upto_region 12 with (fail)
    rw [← hu]
    clear hu
    clear I3 I4 I5 X4 W4 F4 PX TX PW TW P T
    obtain ⟨c0, c1, c2, c3⟩ := Y4.out
    obtain ⟨d0, d1, d2, d3⟩ := Z4.out
    obtain ⟨r0, r1, r2, r3⟩ := R4.out
    have eb := bytes_beq key other
    by_cases hk : key = other
    · rw [decide_eq_true hk] at eb
      obtain ⟨e1, e2⟩ := SAME.out (by first | rfl | trivial) hk
      subst e1
      subst e2
      have eo : (one == one) = true := by simp
      cases one
      · go_wp2
        go_ret
        exact ⟨rfl, B.out⟩
      · go_wp2_with fail
        refine (featSame_at y YF.out _ _ _ _ _ _ _ _ _ PY.out PZ.out TY.out TZ.out).mono ?_
        rintro e w9 ⟨rfl, hn⟩
        replace B : Hid (Below w.heap.size w w9) := B.out.trans (hn.mono B.out.size)
        clear hn
        go_wp2
        go_ret
        exact ⟨rfl, B.out⟩
    · rw [decide_eq_false hk] at eb
      cases one
      · go_wp2
        go_ret
        exact ⟨rfl, B.out⟩
      · obtain ⟨e1, e2, e3⟩ := DIFF.out (by first | rfl | trivial) hk (by first | rfl | trivial)
        subst e1 e2 e3
        go_wp2_with fail
        refine (featSame_at y YF.out _ _ _ _ _ _ _ _ _ PY.out PR.out TY.out TR.out).mono ?_
        rintro e w9 ⟨rfl, hn⟩
        replace B : Hid (Below w.heap.size w w9) := B.out.trans (hn.mono B.out.size)
        clear hn
        go_wp2
        go_ret
        exact ⟨rfl, B.out⟩

set_option maxRecDepth 100000 in
theorem fnFeatTwo_large (a : Option Addr) (n cap : Nat) (a' : Option Addr) (n' cap' : Nat) (w : World) (hn : 1048576 < n) :
    Calls Try.prog 8 #[.slice a n cap, .slice a' n' cap'] w fun e w' => e = .returned (.bool true) ∧ Below w.heap.size w w' := by
  have hg : (1048576 : Int) < (n : Int) := by omega
  go_enter Try.func8, Try.ntmps8
  go_wp2
  go_ret
  exact ⟨rfl, Below.refl _ _⟩

set_option maxRecDepth 100000 in
theorem fnFeatTwo_large2 (a : Option Addr) (n cap : Nat) (a' : Option Addr) (n' cap' : Nat) (w : World) (h0 : n ≤ 1048576) (hn : 1048576 < n') :
    Calls Try.prog 8 #[.slice a n cap, .slice a' n' cap'] w fun e w' => e = .returned (.bool true) ∧ Below w.heap.size w w' := by
  have hg : (1048576 : Int) < (n' : Int) := by omega
  have hg0 : ¬ (1048576 : Int) < (n : Int) := by omega
  go_enter Try.func8, Try.ntmps8
  go_wp2
  go_ret
  exact ⟨rfl, Below.refl _ _⟩

theorem fnFeatTwo_all (a : Option Addr) (n cap : Nat) (a' : Option Addr) (n' cap' : Nat) (w : World) (h : CodeAt w a n) (hc : n ≤ cap) (h' : CodeAt w a' n') (hc' : n' ≤ cap') :
    Calls Try.prog 8 #[.slice a n cap, .slice a' n' cap'] w fun e w' => e = .returned (.bool true) ∧ Below w.heap.size w w' := by
  by_cases h1 : n ≤ 1048576
  · by_cases h2 : n' ≤ 1048576
    · exact fnFeatTwo_walk a n cap a' n' cap' w h h1 hc h' h2 hc'
    · exact fnFeatTwo_large2 a n cap a' n' cap' w h1 (by omega)
  · exact fnFeatTwo_large a n cap a' n' cap' w (by omega)

set_option maxRecDepth 100000 in
theorem fnFeatTwo_lifted (os : Os) (started : os.Started) (H : Type) (enc : TypeId × Value → H) :
    ReturnsInHanded {} Try.checked os 8 .any (Rows.fnFeatTwoSpec.pre6 enc Try.prog Try.f8 Rows.fnFeatTwoRow.domain false) (Rows.fnFeatTwoSpec.post enc Try.prog Try.f8 false true false false) := by
  refine returnsInHanded_of_change (C := Try.checked) own started (by kernel_rfl) Try.func8
    (ChangeSpec.witness6 (enc := enc) (C := Try.checked) false ⟨#[], #[.slice none 0 0, .slice none 0 0], []⟩ 8 (by kernel_rfl) (by kernel_rfl) (by kernel_rfl) (by kernel_rfl)) ?_
  intro W base args ds gs before hval0 hW _ _
  have hval : ∀ (j : Nat) t v, Try.f8.params[j]? = some t → args[j]? = some v → Value.okWide Try.prog W .any base t v := hval0
  have hW' := hW
  obtain ⟨p, q, hA0, hV, rfl, _, _⟩ := hW
  have hA : DataW.TrodAll enc Try.prog W 0 (fun _ => true) true Try.f8.params.toList args.toList ds p := hA0
  rw [Try.params8] at hA hval
  obtain ⟨v0, vs0, d0, ds0, p0, q0, hargs, rfl, rfl, h0, r0⟩ := trodAll_cons hA
  obtain ⟨v1, vs1, d1, ds1, p1, q1, rfl, rfl, rfl, h1, r1⟩ := trodAll_cons r0
  obtain ⟨rfl, rfl, rfl⟩ := trodAll_nil r1
  obtain rfl : args = #[v0, v1] := by cases args; simp_all
  obtain ⟨rfl, rfl⟩ := trodVars_none hV
  have k0 := h0
  have lt0 : ∀ x ∈ p0, x.block < W.heap.size := by obtain ⟨m, hm⟩ := k0; exact DataW.trod_lt m _ _ _ hm
  obtain ⟨a0, c0, s0, rfl, f0, g0, _⟩ := open_code (hval 0 22 v0 rfl rfl) h0
  have k1 := h1
  have lt1 : ∀ x ∈ p1, x.block < W.heap.size := by obtain ⟨m, hm⟩ := k1; exact DataW.trod_lt m _ _ _ hm
  obtain ⟨a1, c1, s1, rfl, f1, g1, _⟩ := open_code (hval 1 22 v1 rfl rfl) h1
  clear hA0 hval0
  refine (fnFeatTwo_all a0 c0 s0 a1 c1 s1 W f0 g0 f1 g1).mono fun e W' ⟨he, bel⟩ => ?_
  subst he
  exact ⟨_, rfl, _, _, _, [], _, [], hW', trodAll_mk1 (shut_bool Try.underlying4 _), (trodAll_cons_mk (Below.trod laidOut (by kernel_rfl) (of_decide_eq_true (by kernel_rfl)) k0 bel lt0) (trodAll_cons_mk (Below.trod laidOut (by kernel_rfl) (of_decide_eq_true (by kernel_rfl)) k1 bel lt1) trodAll_mk0)), rfl, bel.frame _, fun h => by cases h⟩

theorem fnFeatTwo_over : Rows.fnFeatTwoRow.holds Try.pinned (OpenSpec.ofChange Rows.fnFeatTwoSpec) :=
  OpenClaim.holds_of_wide 8 Try.f8 rfl rfl rfl rfl rfl rfl rfl ⟨rfl, rfl, rfl, rfl, rfl⟩ rfl rfl rfl rfl rfl (by kernel_rfl) Try.func8 (by kernel_rfl)
    (of_decide_eq_true (by kernel_rfl)) (by unfold Func.isWrapper; first | (rw [if_pos (by decide +kernel)]; kernel_rfl) | (rw [if_neg (by decide +kernel)]; exact ⟨rfl, rfl⟩))
    (fun os started H enc _ => fnFeatTwo_lifted os started H enc)

/-- the given statement -/
theorem fnFeatTwo_holds : Rows.FnFeatTwoSaid := fnFeatTwo_over

end Go.Proofs.Ytdfadpejddhbkaa
