/- Proved here: the law FnExactSheetGet answers true at every list of things and every name, and leaves them as they were; no condition. -/
import Derived.Test.YtjphlpjippojiaaGreatWSheetArg
import Derived.Test.YtjphlpjippojiaaGreatWSheetGetI
import Derived.Test.YtjphlpjippojiaaGreatWMarkListW
import Derived.Test.YtjphlpjippojiaaGreatWQuietB
import Derived.BigQuiet
namespace Go.Proofs.YtjphlpjippojiaaGreat
set_option linter.unusedVariables false
open Go.ChangeShapes Go.WideShapes Go.ChangeAt Go.RowKit

/-- where the parts of a copied list lie -/
def plOf (fs : List Ft) (ad : Nat → Nat × Nat) (i : Nat) : Pl := ((some ⟨(ad i).1, 0, none⟩, (fps fs i).length), (some ⟨(ad i).2, 0, none⟩, (fts fs i).length))

theorem lies_of_row {fs : List Ft} {ad : Nat → Nat × Nat} {w : World} {b : Nat} {t : TypeId} (h : w.rowIs b t (fs.length * 4) (featCell fs ad)) (hp : Parts w b fs ad fs.length) : Lies w b 0 fs (plOf fs ad) ∧ Sep b fs.length (plOf fs ad) := by
  refine ⟨⟨fun i hi => ?_, fun i hi => ⟨h.frozen _, h.frozen _⟩, fun i hi => ⟨PtsAt.of_row (hp i hi).1, Soft.of_row (hp i hi).1⟩, fun i hi => ⟨TagsAt.of_row (hp i hi).2.1, Soft.of_row (hp i hi).2.1⟩, h.lt⟩, ?_⟩
  · obtain ⟨b', off', pa, pc, ta, tc, e, _, h1, h2, h3, h4, _⟩ := FeatsAt.of_row h hp i hi
    obtain ⟨rfl, rfl⟩ : b = b' ∧ 0 = off' := by simpa using e
    refine ⟨h1, h2, ?_, ?_⟩
    · have := h.cell (i := i * 4 + 2) (by omega)
      rw [Nat.zero_add, this]
      unfold featCell plOf
      rw [if_neg (by omega), if_neg (by omega), if_pos (by omega), show (i * 4 + 2) / 4 = i by omega]
    · have := h.cell (i := i * 4 + 3) (by omega)
      rw [Nat.zero_add, this]
      unfold featCell plOf
      rw [if_neg (by omega), if_neg (by omega), if_neg (by omega), show (i * 4 + 3) / 4 = i by omega]
  · refine ⟨fun i hi => ?_, fun i hi => ?_, fun i j hi hj hne => ?_⟩
    · obtain ⟨_, _, h3, h4, _⟩ := hp i hi
      constructor <;> (simp [plOf, blk]; omega)
    · obtain ⟨_, _, _, _, h5, _⟩ := hp i hi
      intro x hx e
      simp only [plOf, blk, Option.map_some, Option.some.injEq] at hx e
      omega
    · have key : ∀ i j, j < fs.length → i < j → (ad i).1 ≠ (ad j).1 ∧ (ad i).1 ≠ (ad j).2 ∧ (ad i).2 ≠ (ad j).1 ∧ (ad i).2 ≠ (ad j).2 := fun i j hj hij => by
        obtain ⟨_, _, _, _, _, h6⟩ := hp j hj
        have := h6 i hij
        omega
      have kk : (ad i).1 ≠ (ad j).1 ∧ (ad i).1 ≠ (ad j).2 ∧ (ad i).2 ≠ (ad j).1 ∧ (ad i).2 ≠ (ad j).2 := by
        rcases Nat.lt_or_gt_of_ne hne with h | h
        · exact key i j hj h
        · have := key j i hi h
          omega
      refine ⟨fun x hx e => ?_, fun x hx e => ?_, fun x hx e => ?_, fun x hx e => ?_⟩ <;> (simp only [plOf, blk, Option.map_some, Option.some.injEq] at hx e; omega)

theorem blocks_of_row {fs : List Ft} {ad : Nat → Nat × Nat} {w0 w : World} {b : Nat} {t : TypeId} (h : w.rowIs b t (fs.length * 4) (featCell fs ad)) (hp : Parts w b fs ad fs.length) (hb : w0.heap.size ≤ b) : ∀ x, blocksOf b fs.length (plOf fs ad) x → w0.heap.size ≤ x ∧ x < w.heap.size := by
  rintro x (rfl | ⟨i, hi, e | e⟩)
  · exact ⟨hb, h.lt⟩
  · obtain ⟨h1, _, h3, _⟩ := hp i hi
    have := h1.lt
    simp only [plOf, blk, Option.map_some, Option.some.injEq] at e
    omega
  · obtain ⟨_, h2, _, h4, _⟩ := hp i hi
    have := h2.lt
    simp only [plOf, blk, Option.map_some, Option.some.injEq] at e
    omega

theorem Box4.turned {w w' : World} {b : Nat} {v0 v1 v2 v3 : Value} {S : Nat → Prop} (h : Box4 w b v0 v1 v2 v3) (ht : Turned w w' S) (hn : ¬ S b) : Box4 w' b v0 v1 v2 v3 :=
  ⟨ht.cell h.1 hn, ht.cell h.2.1 hn, ht.cell h.2.2.1 hn, ht.cell h.2.2.2 hn⟩

theorem Turned.of_two {w w' : World} {a c : Option Addr} (h : Grown2 w w' a c) : Turned w w' (fun x => blk a = some x ∨ blk c = some x) := by
  obtain ⟨u, h1, h2⟩ := h
  exact (Turned.of_grown h1 fun x hx => .inl hx).trans (Turned.of_grown h2 fun x hx => .inr hx)

theorem getFt_len {fs : List Ft} (id : ByteArray) (hL : FeatsLen fs 1048576) : (getFt fs id).2.2.1.length ≤ 1048576 ∧ (getFt fs id).2.2.2.length ≤ 1048576 := by
  unfold getFt
  cases h : getHas fs id
  · exact ⟨Nat.zero_le _, Nat.zero_le _⟩
  · rw [if_pos rfl]
    have h2 : firstF fs id < fs.length := by simp [getHas] at h; exact h.2
    obtain ⟨_, h3, h4, _⟩ := hL _ h2
    exact ⟨by show (fps fs _).length ≤ _; omega, by show (fts fs _).length ≤ _; omega⟩

set_option maxRecDepth 100000 in
set_option maxHeartbeats 6400000 in
theorem fnSheetGet_walk (a : Option Addr) (cap : Nat) (fs : List Ft) (id : ByteArray) (w : World) (hf : FeatsIn w a fs) (hid : id.size ≤ maxLen) :
    Calls Tryz.prog 3 #[.slice a fs.length cap, .string id] w fun e w' => e = .returned (.bool true) ∧ Below w.heap.size w w' := by
  have HF := Lib.hid hf
  unfold maxLen at hid
  clear hf
  by_cases hi : id.size ≤ 1048576
  · go_enter Tryz.func3, Tryz.ntmps3
    go_wp2_with fail
    refine (szFeatS_any _ _ _ _ _ HF.out (by omega) (by omega)).mono ?_
    rintro e w1 ⟨⟨r, rfl, hs⟩, hb1⟩
    have B1 := Lib.hid hb1
    clear hb1
    rcases hs with rfl | ⟨r0, r1, l1, l2⟩
    · go_wp2
      go_ret
      exact ⟨rfl, B1.out⟩
    have L2 : Hid (FeatsLen fs 1048576) := l2.mono (by omega)
    clear l2
    have m1 : fs.length ≤ 1048576 := by omega
    go_wp2_with fail
    refine (toFeatS_any a cap fs _ (HF.out.reads.below B1.out) m1 L2.out).mono ?_
    rintro e u1 ⟨b1, ad1, rfl, rr1, pp1, hx1, hn⟩
    have Bu1 : Hid (Below w.heap.size w u1) := B1.out.trans (hn.mono B1.out.size)
    have Hu1 := Lib.hid (FeatsAt.of_row rr1 pp1)
    clear hn rr1 pp1 hx1 B1
    go_wp2_with fail
    refine (specSheetGet_any _ _ fs id _ Hu1.out m1 L2.out).mono ?_
    rintro e u2 ⟨⟨v0, rfl, hg⟩, hn⟩
    have Bu2 : Hid (Below w.heap.size w u2) := Bu1.out.trans (hn.mono Bu1.out.size)
    have G0 := Lib.hid hg
    have z1 := hn.size
    have zwu := Bu1.out.size
    have IG : Hid (∀ u x c, FeatsAt u x fs → Calls Tryz.prog 9 #[.slice x fs.length c, .string id] u fun e w' => ∃ v, e = .returned (.tuple #[v, .bool (getHas fs id)]) ∧ FeatAns u (getFt fs id).1 (getFt fs id).2.1 (getFt fs id).2.2.1 (getFt fs id).2.2.2 v w') := fun u x c hx => implSheetGet_any x c fs id u hx m1 L2.out hi
    obtain ⟨mf1, mf2⟩ := getFt_len id L2.out
    generalize getHas fs id = has at *
    generalize getFt fs id = f at *
    obtain ⟨fi, fk, fp, ft⟩ := f
    simp only at mf1 mf2
    obtain ⟨ax, cx, ay, cy, rfl, _⟩ := hg
    clear hn Hu1 Bu1
    go_wp2_with fail
    refine (toFeatS_any a cap fs _ (HF.out.reads.below (Bu2.out.alloc Bu2.out.size _)) m1 L2.out).mono ?_
    rintro e u3 ⟨b3, ad3, rfl, rr3, pp3, hx3, hn⟩
    have A2 : Hid (∀ o, Below u2.heap.size u2 (u2.alloc o)) := fun o => (Below.refl _ _).alloc (Nat.le_refl _) _
    have hn2 : Below u2.heap.size u2 u3 := (A2.out _).trans (hn.mono (by simp))
    have Bu3 : Hid (Below w.heap.size w u3) := Bu2.out.trans (hn2.mono Bu2.out.size)
    have C0 : Hid (Box4 u3 u2.heap.size (.string fi) (.int .i64 fk) (.slice ax fp.length cx) (.slice ay ft.length cy)) := (Box4.new u2 _ _ _ _ _).later hn
    replace G0 := Lib.hid (G0.out.below hn2)
    have X0 := Lib.hid (lies_of_row rr3 pp3).1
    have XS := Lib.hid (lies_of_row rr3 pp3).2
    have XB := Lib.hid (blocks_of_row rr3 pp3 hx3)
    have z2 : u2.heap.size < u3.heap.size := C0.out.lt
    clear hn hn2 rr3 pp3 Bu2 A2
    simp only [World.size_alloc] at hx3 XB
    go_wp2_with fail
    refine (IG.out _ _ _ X0.out.reads).mono ?_
    rintro e u4 ⟨v1, rfl, hg⟩
    have hn := hg.got.2
    have Bu4 : Hid (Below w.heap.size w u4) := Bu3.out.trans (hn.mono Bu3.out.size)
    replace C0 := Lib.hid (C0.out.later hn)
    replace G0 := Lib.hid (G0.out.below hn)
    replace X0 := Lib.hid (X0.out.below hn)
    have z3 := hn.size
    obtain ⟨ga, gc, ta, tc, rfl, q1, q2, q3, q4, q5, q6, q7, _⟩ := hg
    have P1 := Lib.hid q1
    have P1s := Lib.hid q2
    have P1f := Lib.hid q3
    have T1 := Lib.hid q4
    have T1s := Lib.hid q5
    have T1f := Lib.hid q6
    have AP := Lib.hid q7
    clear hn q1 q2 q3 q4 q5 q6 q7 Bu3
    have z4 : u2.heap.size < u4.heap.size := C0.out.lt
    have E1 : featEq fi fi fk fk fp fp ft ft = true := by simp [featEq, shEq, ptsEq, tgsEq]
    have hne : (has != has) = false := by simp
    have A4 : Hid (∀ o, Below u4.heap.size u4 (u4.alloc o)) := fun o => (Below.refl _ _).alloc (Nat.le_refl _) _
    obtain ⟨gx1, gx2, gx3, gx4, ge, gP, gT, gf1, gf2⟩ := G0.out
    obtain ⟨⟨rfl, rfl⟩, rfl, rfl⟩ : (ax = gx1 ∧ cx = gx2) ∧ ay = gx3 ∧ cy = gx4 := by simpa using ge
    clear ge gP gT
    have GF1 := Lib.hid gf1
    have GF2 := Lib.hid gf2
    clear gf1 gf2
    have GP : Hid (∀ {u : World} {lo hi : Nat}, Got lo hi u (.agg #[.string fi, .int .i64 fk, .slice ax fp.length cx, .slice ay ft.length cy]) (fi, fk, fp, ft) → PtsAt u ax fp ∧ TagsAt u ay ft) := fun {u lo hi} h => by
      obtain ⟨gx1, gx2, gx3, gx4, ge, gP, gT, _⟩ := h
      obtain ⟨⟨rfl, rfl⟩, rfl, rfl⟩ : (ax = gx1 ∧ cx = gx2) ∧ ay = gx3 ∧ cy = gx4 := by simpa using ge
      exact ⟨gP, gT⟩
    obtain ⟨c0, c1, c2, c3⟩ := C0.out
    go_wp2_with fail
    clear c0 c1 c2 c3
    refine (eqFeat_any fi fi fk fk _ _ _ _ fp fp _ _ _ _ ft ft _ (P1.out.below (A4.out _)) ((GP.out G0.out).1.below (A4.out _)) (T1.out.below (A4.out _)) ((GP.out G0.out).2.below (A4.out _)) mf1 mf1 mf2 mf2).mono ?_
    rintro e u5 ⟨rfl, hn5⟩
    rw [E1]
    have hn : Below u4.heap.size u4 u5 := (A4.out _).trans (hn5.mono (by simp))
    have C1 : Hid (Box4 u5 u4.heap.size (.string fi) (.int .i64 fk) (.slice ga fp.length gc) (.slice ta ft.length tc)) := (Box4.new u4 _ _ _ _ _).later hn5
    have B : Hid (Below w.heap.size w u5) := Bu4.out.trans (hn.mono Bu4.out.size)
    replace C0 := Lib.hid (C0.out.later hn)
    replace G0 := Lib.hid (G0.out.below hn)
    replace X0 := Lib.hid (X0.out.below hn)
    replace P1s := Lib.hid (P1s.out.below P1.out hn)
    replace P1 := Lib.hid (P1.out.below hn)
    replace T1s := Lib.hid (T1s.out.belowT T1.out hn)
    replace T1 := Lib.hid (T1.out.below hn)
    clear hn hn5 Bu4 A4
    go_wp2_with fail
    refine (toFeatS_any a cap fs _ (HF.out.reads.below B.out) m1 L2.out).mono ?_
    rintro e u6 ⟨b6, ad6, rfl, rr6, pp6, _, hn⟩
    have H6 := Lib.hid (FeatsAt.of_row rr6 pp6)
    replace B : Hid (Below w.heap.size w u6) := B.out.trans (hn.mono B.out.size)
    replace C0 := Lib.hid (C0.out.later hn)
    replace G0 := Lib.hid (G0.out.below hn)
    replace X0 := Lib.hid (X0.out.below hn)
    replace P1s := Lib.hid (P1s.out.below P1.out hn)
    replace P1 := Lib.hid (P1.out.below hn)
    replace T1s := Lib.hid (T1s.out.belowT T1.out hn)
    replace T1 := Lib.hid (T1.out.below hn)
    replace C1 := Lib.hid (C1.out.later hn)
    clear hn rr6 pp6
    go_wp2_with fail
    refine (eqFeatS_any _ _ _ _ fs fs _ X0.out.reads H6.out m1 m1 L2.out L2.out).mono ?_
    rintro e u7 ⟨rfl, hn⟩
    rw [show fsEq fs fs = true by simp [fsEq]]
    replace B : Hid (Below w.heap.size w u7) := B.out.trans (hn.mono B.out.size)
    replace C0 := Lib.hid (C0.out.later hn)
    replace G0 := Lib.hid (G0.out.below hn)
    replace X0 := Lib.hid (X0.out.below hn)
    replace P1s := Lib.hid (P1s.out.below P1.out hn)
    replace P1 := Lib.hid (P1.out.below hn)
    replace T1s := Lib.hid (T1s.out.belowT T1.out hn)
    replace T1 := Lib.hid (T1.out.below hn)
    replace C1 := Lib.hid (C1.out.later hn)
    clear hn H6
    have z7 : u4.heap.size < u7.heap.size := C1.out.lt
    go_wp2_with fail
    refine (markFeatS_some b3 0 _ fs _ 1 _ m1 L2.out (by omega) (by omega) X0.out XS.out).mono ?_
    rintro e u8 ⟨rfl, _, ht⟩
    have nS0 : ¬ blocksOf b3 fs.length (plOf fs ad3) u2.heap.size := fun h => by have := (XB.out _ h).1; omega
    have nS1 : ¬ blocksOf b3 fs.length (plOf fs ad3) u4.heap.size := fun h => by have := (XB.out _ h).2; omega
    have nSP : ∀ x, blk ga = some x → ¬ blocksOf b3 fs.length (plOf fs ad3) x := fun x hx h => by have h1 := (XB.out _ h).2; have h2 := (P1f.out x hx).1; omega
    have nST : ∀ x, blk ta = some x → ¬ blocksOf b3 fs.length (plOf fs ad3) x := fun x hx h => by have h1 := (XB.out _ h).2; have h2 := (T1f.out x hx).1; omega
    replace B : Hid (Below w.heap.size w u8) := B.out.trans (ht.below B.out.size (fun x hx => by have := (XB.out x hx).1; omega))
    replace C0 := Lib.hid (C0.out.turned ht nS0)
    replace C1 := Lib.hid (C1.out.turned ht nS1)
    replace G0 := Lib.hid (G0.out.turned ht (fun x _ h2 h => by have := (XB.out x h).1; omega))
    replace P1s := Lib.hid (P1s.out.turnedP P1.out ht nSP)
    replace P1 := Lib.hid (P1.out.turned ht nSP)
    replace T1s := Lib.hid (T1s.out.turnedT T1.out ht nST)
    replace T1 := Lib.hid (T1.out.turned ht nST)
    have kk0 := (lmk_le (k := 1) (by omega) (by omega) L2.out fs.length (Nat.le_refl _)).1
    generalize lmk fs 1 fs.length = kk at kk0
    have z8 := ht.size
    clear ht nS0 nS1 nSP nST X0 XS
    obtain ⟨c0, c1, c2, c3⟩ := C0.out
    obtain ⟨d0, d1, d2, d3⟩ := C1.out
    go_wp2_with fail
    clear c0 c1 c2 c3 d0 d1 d2 d3
    refine (eqFeat_any fi fi fk fk _ _ _ _ fp fp _ _ _ _ ft ft _ P1.out (GP.out G0.out).1 T1.out (GP.out G0.out).2 mf1 mf1 mf2 mf2).mono ?_
    rintro e u9 ⟨rfl, hn⟩
    rw [E1]
    replace B : Hid (Below w.heap.size w u9) := B.out.trans (hn.mono B.out.size)
    replace C0 := Lib.hid (C0.out.later hn)
    replace G0 := Lib.hid (G0.out.below hn)
    replace P1s := Lib.hid (P1s.out.below P1.out hn)
    replace P1 := Lib.hid (P1.out.below hn)
    replace T1s := Lib.hid (T1s.out.belowT T1.out hn)
    replace T1 := Lib.hid (T1.out.below hn)
    replace C1 := Lib.hid (C1.out.later hn)
    have z9 := hn.size
    clear hn
    obtain ⟨d0, d1, d2, d3⟩ := C1.out
    go_wp2_with fail
    clear d0 d1 d2 d3
    refine (markFeat_any fi fk _ _ fp _ _ ft _ P1.out P1s.out T1.out T1s.out AP.out (fun x hx => by have := (P1f.out x hx).2; omega) mf1 mf2).mono ?_
    rintro e v1 ⟨rfl, g1, g2, g3⟩
    have ht := Turned.of_two g3
    have lo3 : ∀ x, (blk ga = some x ∨ blk ta = some x) → u3.heap.size ≤ x ∧ x < u4.heap.size := by
      rintro x (hx | hx)
      · exact P1f.out x hx
      · exact T1f.out x hx
    replace B : Hid (Below w.heap.size w v1) := B.out.trans (ht.below B.out.size (fun x hx => by have := (lo3 x hx).1; omega))
    replace C0 := Lib.hid (C0.out.turned ht (fun h => by have := (lo3 _ h).1; omega))
    replace C1 := Lib.hid (C1.out.turned ht (fun h => by have := (lo3 _ h).2; omega))
    replace G0 := Lib.hid (G0.out.turned ht (fun x _ h2 h => by have := (lo3 x h).1; omega))
    replace P1 := Lib.hid g1
    replace T1 := Lib.hid g2
    clear g1 g2 g3 ht lo3 P1s T1s
    have hq : ((1 + 2 * (fp.length : Int) + 2 * (ft.length : Int)) != (1 + 2 * (fp.length : Int) + 2 * (ft.length : Int))) = false := by simp
    obtain ⟨d0, d1, d2, d3⟩ := C1.out
    go_wp2_with fail
    clear d0 d1 d2 d3
    refine (heldFeat_any fi fk _ _ fp.length _ _ ft.length _ P1.out T1.out mf1 mf2).mono ?_
    rintro e v2 ⟨rfl, hn⟩
    replace B : Hid (Below w.heap.size w v2) := B.out.trans (hn.mono B.out.size)
    replace C0 := Lib.hid (C0.out.later hn)
    replace C1 := Lib.hid (C1.out.later hn)
    replace G0 := Lib.hid (G0.out.below hn)
    replace P1 := Lib.hid (P1.out.below hn)
    replace T1 := Lib.hid (T1.out.below hn)
    clear hn
    go_wp2_with fail
    refine (toFeatS_any a cap fs _ (HF.out.reads.below B.out) m1 L2.out).mono ?_
    rintro e v3 ⟨b9, ad9, rfl, rr9, pp9, _, hn⟩
    have H9 := Lib.hid (FeatsAt.of_row rr9 pp9)
    replace B : Hid (Below w.heap.size w v3) := B.out.trans (hn.mono B.out.size)
    replace C0 := Lib.hid (C0.out.later hn)
    replace C1 := Lib.hid (C1.out.later hn)
    replace G0 := Lib.hid (G0.out.below hn)
    replace P1 := Lib.hid (P1.out.below hn)
    replace T1 := Lib.hid (T1.out.below hn)
    clear hn rr9 pp9
    go_wp2_with fail
    refine (IG.out _ _ _ H9.out).mono ?_
    rintro e v4 ⟨v, rfl, hg⟩
    have hn := hg.got.2
    replace B : Hid (Below w.heap.size w v4) := B.out.trans (hn.mono B.out.size)
    replace C0 := Lib.hid (C0.out.later hn)
    replace C1 := Lib.hid (C1.out.later hn)
    replace G0 := Lib.hid (G0.out.below hn)
    replace P1 := Lib.hid (P1.out.below hn)
    replace T1 := Lib.hid (T1.out.below hn)
    obtain ⟨ha, hc, hta, htc, rfl, q1, _, _, q4, _⟩ := hg
    have P4 := Lib.hid q1
    have T4 := Lib.hid q4
    clear hn q1 q4 H9
    have A4 : Hid (∀ o, Below v4.heap.size v4 (v4.alloc o)) := fun o => (Below.refl _ _).alloc (Nat.le_refl _) _
    have y1 : u2.heap.size < v4.heap.size := C0.out.lt
    have y2 : u4.heap.size < v4.heap.size := C1.out.lt
    obtain ⟨c0, c1, c2, c3⟩ := C0.out
    go_wp2_with fail
    clear c0 c1 c2 c3
    refine (eqFeat_any fi fi fk fk _ _ _ _ fp fp _ _ _ _ ft ft _ (P4.out.below (A4.out _)) ((GP.out G0.out).1.below (A4.out _)) (T4.out.below (A4.out _)) ((GP.out G0.out).2.below (A4.out _)) mf1 mf1 mf2 mf2).mono ?_
    rintro e v5 ⟨rfl, hn5⟩
    rw [E1]
    have hn : Below v4.heap.size v4 v5 := (A4.out _).trans (hn5.mono (by simp))
    replace B : Hid (Below w.heap.size w v5) := B.out.trans (hn.mono B.out.size)
    replace C0 := Lib.hid (C0.out.later hn)
    replace C1 := Lib.hid (C1.out.later hn)
    replace G0 := Lib.hid (G0.out.below hn)
    replace P1 := Lib.hid (P1.out.below hn)
    replace T1 := Lib.hid (T1.out.below hn)
    clear hn hn5 A4 P4 T4
    obtain ⟨d0, d1, d2, d3⟩ := C1.out
    go_wp2_with fail
    clear d0 d1 d2 d3
    refine (heldFeat_any fi fk _ _ fp.length _ _ ft.length _ P1.out T1.out mf1 mf2).mono ?_
    rintro e v6 ⟨rfl, hn⟩
    replace B : Hid (Below w.heap.size w v6) := B.out.trans (hn.mono B.out.size)
    clear hn
    go_wp2
    go_ret
    exact ⟨rfl, B.out⟩
  · go_enter Tryz.func3, Tryz.ntmps3
    go_wp2
    go_ret
    exact ⟨rfl, Below.refl _ _⟩

set_option maxRecDepth 100000 in
theorem fnExactSheetGet_lifted (os : Os) (started : os.Started) (H : Type) (enc : TypeId × Value → H) :
    ReturnsInHanded {} Tryz.checked os 3 .any (Rows.fnExactSheetGetSpec.pre6 enc Tryz.prog Tryz.f3 Rows.fnExactSheetGetRow.domain false) (Rows.fnExactSheetGetSpec.post enc Tryz.prog Tryz.f3 false true false false) := by
  refine returnsInHanded_of_change (C := Tryz.checked) own started (by kernel_rfl) Tryz.func3
    (ChangeSpec.witness6 (enc := enc) (C := Tryz.checked) false ⟨#[], #[.slice none 0 0, .string .empty], []⟩ 8 (by kernel_rfl) (by kernel_rfl) (by kernel_rfl) (by kernel_rfl)) ?_
  intro W base args ds gs before hval0 hW _ _
  have hval : ∀ (j : Nat) t v, Tryz.f3.params[j]? = some t → args[j]? = some v → Value.okWide Tryz.prog W .any base t v := hval0
  have hW' := hW
  obtain ⟨p, q, hA0, hV, rfl, _, _⟩ := hW
  have hA : DataW.TrodAll enc Tryz.prog W 0 (fun _ => true) true Tryz.f3.params.toList args.toList ds p := hA0
  rw [Tryz.params3] at hA hval
  obtain ⟨v0, vs0, d0, ds0, p0, q0, hargs, rfl, rfl, h0, r0⟩ := trodAll_cons hA
  obtain ⟨v1, vs1, d1, ds1, p1, q1, rfl, rfl, rfl, h1, r1⟩ := trodAll_cons r0
  obtain ⟨rfl, rfl, rfl⟩ := trodAll_nil r1
  obtain rfl : args = #[v0, v1] := by cases args; simp_all
  obtain ⟨rfl, rfl⟩ := trodVars_none hV
  have k0 := h0
  have lt0 : ∀ x ∈ p0, x.block < W.heap.size := by obtain ⟨m, hm⟩ := k0; exact DataW.trod_lt m _ _ _ hm
  obtain ⟨a0, c0, s0, rfl, f0⟩ := open_feats (hval 0 22 v0 rfl rfl) h0
  obtain ⟨x1, rfl, rfl, rfl, w1⟩ := Go.ChangeMaps.open_string Tryz.underlying9 (hval 1 9 v1 rfl rfl) h1
  clear hA0 hval0
  refine (fnSheetGet_walk a0 c0 s0 x1 W f0 w1).mono fun e W' ⟨he, bel⟩ => ?_
  subst he
  exact ⟨_, rfl, _, _, _, [], _, [], hW', trodAll_mk1 (shut_bool Tryz.underlying4 _), (trodAll_cons_mk (Below.trod laidOut (by kernel_rfl) (of_decide_eq_true (by kernel_rfl)) k0 bel lt0) (trodAll_cons_mk (Go.ChangeMaps.shut_string Tryz.underlying9 w1) trodAll_mk0)), rfl, bel.frame _, fun h => by cases h⟩

theorem fnExactSheetGet_over : Rows.fnExactSheetGetRow.holds Tryz.pinned (OpenSpec.ofChange Rows.fnExactSheetGetSpec) :=
  OpenClaim.holds_of_wide 3 Tryz.f3 rfl rfl rfl rfl rfl rfl rfl ⟨rfl, rfl, rfl, rfl, rfl⟩ rfl rfl rfl rfl rfl (by kernel_rfl) Tryz.func3 (by kernel_rfl)
    (of_decide_eq_true (by kernel_rfl)) (by unfold Func.isWrapper; first | (rw [if_pos (by decide +kernel)]; kernel_rfl) | (rw [if_neg (by decide +kernel)]; exact ⟨rfl, rfl⟩))
    (fun os started H enc _ => fnExactSheetGet_lifted os started H enc)

/-- the given statement -/
theorem fnExactSheetGet_holds : Rows.FnExactSheetGetSaid := fnExactSheetGet_over

end Go.Proofs.YtjphlpjippojiaaGreat
