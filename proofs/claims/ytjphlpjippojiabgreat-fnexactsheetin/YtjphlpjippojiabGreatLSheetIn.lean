/- Proved here: the law FnExactSheetIn answers true at every list of things and every two corners, and leaves them as they were; no condition. -/
import Derived.Test.YtjphlpjippojiabGreatWSheetArg
import Derived.Test.YtjphlpjippojiabGreatWSheetInI
import Derived.Test.YtjphlpjippojiabGreatWStrMark
import Derived.Test.YtjphlpjippojiabGreatWLiesRow
import Derived.BigQuiet
import Derived.Deep.RegionHeld3
import Derived.Deep.DeepCutAuto
namespace Go.Proofs.YtjphlpjippojiabGreat
set_option linter.unusedVariables false
open Go.ChangeShapes Go.WideShapes Go.ChangeAt Go.RowKit Go.Deep

set_option maxRecDepth 100000 in
/-- a point of the laws that came in -/
theorem open_pt {H : Type} {enc : TypeId × Value → H} {W : World} {r : Reach} {b0 base : Nat} {spare : Nat → Bool} {held : Bool} {v : Value} {d : DataW H} {p : List MemPlace}
    (hv : Value.okWide Tryz.prog W r b0 24 v) (h : DataW.Trod enc Tryz.prog W base spare held 24 v d p) : ∃ x y : Int, v = .agg #[.int .i64 x, .int .i64 y] := by
  obtain ⟨c0, c1, y0, y1, m, rfl, _, _, hy0, hy1⟩ := Go.Joins.open_agg2 Tryz.underlying24 (by kernel_rfl) cells_lpt hv h
  obtain ⟨x, e0, _, _⟩ := DataW.trod_int Tryz.underlying3 hy0
  obtain ⟨y, e1, _, _⟩ := DataW.trod_int Tryz.underlying3 hy1
  simp only [List.cons.injEq, and_true] at e0 e1
  exact ⟨x, y, by rw [e0, e1]⟩

theorem StrsAt.turned {w w' : World} {a : Option Addr} {xs : List ByteArray} {S : Nat → Prop} (h : StrsAt w a xs) (ht : Turned w w' S) (hn : ∀ x, blk a = some x → ¬ S x) : StrsAt w' a xs := by
  intro i hi
  obtain ⟨b, off, rfl, hlt, h1⟩ := h i hi
  exact ⟨b, off, rfl, Nat.lt_of_lt_of_le hlt ht.size, ht.cell h1 (hn b rfl)⟩

theorem Names.turned {w w' : World} {lo : Nat} {v : Value} {xs : List ByteArray} {S : Nat → Prop} (h : Names w lo v xs) (ht : Turned w w' S) (hS : ∀ x, lo ≤ x → ¬ S x) : Names w' lo v xs := by
  obtain ⟨h1, h2 | ⟨g, cap, cur, h3, h4, hg, h5⟩⟩ := h
  · exact ⟨h1, .inl h2⟩
  · exact ⟨h1, .inr ⟨g, cap, cur, h3, h4, (ht.block g (Array.getElem?_eq_some_iff.1 hg).1 (hS g h4)).trans hg, h5⟩⟩
theorem Names.below {w w' : World} {lo : Nat} {v : Value} {xs : List ByteArray} (h : Names w lo v xs) (hb : Below w.heap.size w w') : Names w' lo v xs := ownsRow_low h hb

/-- where the two corners lie -/
def Cors (k : Nat) (ax ay bx bY : Int) (u : World) : Prop := u.cell? ⟨k, 0, none⟩ = some (.int .i64 ax) ∧ u.cell? ⟨k, 1, none⟩ = some (.int .i64 ay) ∧ u.cell? ⟨k + 1, 0, none⟩ = some (.int .i64 bx) ∧ u.cell? ⟨k + 1, 1, none⟩ = some (.int .i64 bY)
theorem Cors.below {k : Nat} {ax ay bx bY : Int} {u u' : World} (h : Cors k ax ay bx bY u) (hb : Below u.heap.size u u') : Cors k ax ay bx bY u' := ⟨cell_later hb h.1, cell_later hb h.2.1, cell_later hb h.2.2.1, cell_later hb h.2.2.2⟩
theorem Cors.turned {k : Nat} {ax ay bx bY : Int} {u u' : World} {S : Nat → Prop} (h : Cors k ax ay bx bY u) (ht : Turned u u' S) (h0 : ¬ S k) (h1 : ¬ S (k + 1)) : Cors k ax ay bx bY u' := ⟨ht.cell h.1 h0, ht.cell h.2.1 h0, ht.cell h.2.2.1 h1, ht.cell h.2.2.2 h1⟩
theorem Cors.lt {k : Nat} {ax ay bx bY : Int} {u : World} (h : Cors k ax ay bx bY u) : k + 1 < u.heap.size := World.block_lt_of_cell? _ _ h.2.2.1

theorem inAll_len (ax ay bx bY : Int) (fs : List Ft) : (inAll ax ay bx bY fs).length ≤ fs.length := by
  unfold inAll
  split
  · exact inN_len _ _ _ _ _ _
  · exact Nat.zero_le _

set_option maxRecDepth 100000 in
set_option maxHeartbeats 12800000 in
theorem fnSheetIn_walk (a : Option Addr) (cap : Nat) (fs : List Ft) (ax ay bx bY : Int) (w : World) (hf : FeatsIn w a fs) :
    Calls Tryz.prog 3 #[.slice a fs.length cap, .agg #[.int .i64 ax, .int .i64 ay], .agg #[.int .i64 bx, .int .i64 bY]] w fun e w' => e = .returned (.bool true) ∧ Below w.heap.size w w' := by
  have HF := Lib.hid hf
  clear hf
  have A0 : Hid (∀ o o', Below w.heap.size w ((w.alloc o).alloc o')) := fun o o' => ((Below.refl _ _).alloc (Nat.le_refl _) _).alloc (by simp) _
  go_enter Tryz.func3, Tryz.ntmps3
  go_wp2_with fail
  refine (szFeatS_any _ _ _ _ _ (HF.out.below (A0.out _ _)) (by omega) (by omega)).mono ?_
  rintro e u1 ⟨⟨r, rfl, hs⟩, hn⟩
  have C : Hid (Cors w.heap.size ax ay bx bY u1) := ⟨cell_later hn (by simp [go_sem]), cell_later hn (by simp [go_sem]), cell_later hn (by simp [go_sem]), cell_later hn (by simp [go_sem])⟩
  have B : Hid (Below w.heap.size w u1) := (A0.out _ _).trans (hn.mono (by simp; omega))
  clear hn
  rcases hs with rfl | ⟨r0, r1, l1, l2⟩
  · go_wp2
    go_ret
    exact ⟨rfl, B.out⟩
  have L2 : Hid (FeatsLen fs 1048576) := l2.mono (by omega)
  clear l2
  have m1 : fs.length ≤ 1048576 := by omega
  have SG : Hid (∀ u x c, FeatsAt u x fs → Calls Tryz.prog 5 #[.slice x fs.length c, .agg #[.int .i64 ax, .int .i64 ay], .agg #[.int .i64 bx, .int .i64 bY]] u fun e w' => (∃ v, e = .returned v ∧ Names w' u.heap.size v (inAll ax ay bx bY fs)) ∧ Below u.heap.size u w') := fun u x c hx => specSheetIn_any x c fs ax ay bx bY u hx m1 L2.out
  have IG : Hid (∀ u x c, FeatsAt u x fs → Calls Tryz.prog 8 #[.slice x fs.length c, .agg #[.int .i64 ax, .int .i64 ay], .agg #[.int .i64 bx, .int .i64 bY]] u fun e w' => (∃ v, e = .returned v ∧ Names w' u.heap.size v (inAll ax ay bx bY fs)) ∧ Below u.heap.size u w') := fun u x c hx => implSheetIn_any x c fs ax ay bx bY u hx m1 L2.out
  have mg : (inAll ax ay bx bY fs).length ≤ 1048576 := Nat.le_trans (inAll_len ax ay bx bY fs) m1
  generalize inAll ax ay bx bY fs = gs at *
  have zc : w.heap.size + 1 < u1.heap.size := C.out.lt
  go_upto_region 5 with (fail)
  go_cut [8] (fun s8 wx => (∃ v, s8 = v ∧ Names wx u1.heap.size v gs) ∧ Below u1.heap.size u1 wx)
  case first =>
    obtain ⟨c0, c1, d0, d1⟩ := C.out
    go_region_held3 (fun w' => w'.cell? ⟨w.heap.size, 0, none⟩ = some (.int .i64 ax) ∧ w'.cell? ⟨w.heap.size, 1, none⟩ = some (.int .i64 ay) ∧ w'.cell? ⟨w.heap.size + 1, 0, none⟩ = some (.int .i64 bx) ∧ w'.cell? ⟨w.heap.size + 1, 1, none⟩ = some (.int .i64 bY) ∧ Below u1.heap.size u1 w')
      (first
        | exact ⟨c0, c1, d0, d1, (Below.refl _ _).drew⟩
        | (go_split_ands
           rename_i hS0 hS1 hS2 hS3 hS8
           exact ⟨cell_later hbn hS0, cell_later hbn hS1, cell_later hbn hS2, cell_later hbn hS3, hS8.trans (hbn.mono hS8.size)⟩))
      (first
        | (go_at_call 6
           refine (toFeatS_any a cap fs _ ?_ m1 L2.out).mono ?_
           · (go_split_ands; exact (HF.out.reads.below B.out).below (by assumption))
           rintro e wn ⟨bA, adA, rfl, rA, pA, hxA, hbn⟩
           have XX : Hid (∀ u, Below wn.heap.size wn u → FeatsAt u (some ⟨bA, 0, none⟩) fs) := fun u hu => (FeatsAt.of_row rA pA).below hu
           clear rA pA)
        | (go_at_call 7
           refine (toPt_any _ _ _).mono ?_
           rintro e wn ⟨rfl, hbn⟩)
        | (go_at_call 5
           refine (SG.out _ _ _ ?_).mono ?_
           · (first | exact XX.out _ (Below.refl _ _) | exact XX.out _ (by assumption) | exact XX.out _ (Below.trans (by assumption) (Below.mono (by assumption) (Below.size (by assumption)))))
           rintro e wn ⟨⟨vG, rfl, hgG⟩, hbn⟩
           have HGG : Hid (Names wn u1.heap.size vG gs) := ownsRow_lo hgG (by go_split_ands; exact Below.size (by assumption))
           clear hgG))
    all_goals (go_wp2_with fail; go_meet; go_split_ands; rename_i hS0 hS1 hS2 hS3 hS8; exact ⟨⟨_, rfl, HGG.out⟩, hS8⟩)
  case rest =>
    obtain ⟨⟨v0, rfl, hg2⟩, hn⟩ := hcut
    obtain ⟨aw, cw, rfl, hg3, hg4⟩ := owned_strs hg2 rfl
    have G0 := Lib.hid hg3
    have GR := Lib.hid hg4
    replace C := Lib.hid (C.out.below hn)
    replace B := Lib.hid (B.out.trans (hn.mono B.out.size))
    have z2 := hn.size
    clear hn hg2 hg3 hg4 SG
    go_wp2_with fail
    refine (toFeatS_any a cap fs _ (HF.out.reads.below B.out) m1 L2.out).mono ?_
    rintro e u3 ⟨b3, ad3, rfl, rr3, pp3, hx3, hn⟩
    have X0 := Lib.hid (lies_of_row rr3 pp3).1
    have XS := Lib.hid (lies_of_row rr3 pp3).2
    have XB := Lib.hid (blocks_of_row rr3 pp3 hx3)
    have z3 := hn.size
    replace B : Hid (Below w.heap.size w u3) := B.out.trans (hn.mono B.out.size)
    replace C := Lib.hid (C.out.below hn)
    replace G0 := Lib.hid (G0.out.below hn)
    clear hn rr3 pp3 hx3
    go_upto_region 7 with (fail)
    go_cut [10] (fun s10 wx => (∃ v, s10 = v ∧ Names wx u3.heap.size v gs) ∧ Below u3.heap.size u3 wx)
    case first =>
      obtain ⟨c0, c1, d0, d1⟩ := C.out
      go_region_held3 (fun w' => w'.cell? ⟨w.heap.size, 0, none⟩ = some (.int .i64 ax) ∧ w'.cell? ⟨w.heap.size, 1, none⟩ = some (.int .i64 ay) ∧ w'.cell? ⟨w.heap.size + 1, 0, none⟩ = some (.int .i64 bx) ∧ w'.cell? ⟨w.heap.size + 1, 1, none⟩ = some (.int .i64 bY) ∧ Below u3.heap.size u3 w')
        (first
          | exact ⟨c0, c1, d0, d1, (Below.refl _ _).drew⟩
          | (go_split_ands
             rename_i hS0 hS1 hS2 hS3 hS8
             exact ⟨cell_later hbn hS0, cell_later hbn hS1, cell_later hbn hS2, cell_later hbn hS3, hS8.trans (hbn.mono hS8.size)⟩))
        (first
          | (go_at_call 7
             refine (toPt_any _ _ _).mono ?_
             rintro e wn ⟨rfl, hbn⟩)
          | (go_at_call 8
             refine (IG.out _ _ _ ?_).mono ?_
             · (go_split_ands; exact X0.out.reads.below (by assumption))
             rintro e wn ⟨⟨vG, rfl, hgG⟩, hbn⟩
             have HGG : Hid (Names wn u3.heap.size vG gs) := ownsRow_lo hgG (by go_split_ands; exact Below.size (by assumption))
             clear hgG))
      all_goals (go_wp2_with fail; go_meet; go_split_ands; rename_i hS0 hS1 hS2 hS3 hS8; exact ⟨⟨_, rfl, HGG.out⟩, hS8⟩)
    case rest =>
      obtain ⟨⟨v1, rfl, hg2⟩, hn⟩ := hcut
      obtain ⟨ga, gc, rfl, _, _⟩ := owned_strs hg2 rfl
      have N0 := Lib.hid hg2
      replace C := Lib.hid (C.out.below hn)
      replace G0 := Lib.hid (G0.out.below hn)
      replace X0 := Lib.hid (X0.out.below hn)
      replace B := Lib.hid (B.out.trans (hn.mono B.out.size))
      have z4 := hn.size
      have RD : Hid (∀ u, Names u u3.heap.size (.slice ga gs.length gc) gs → StrsAt u ga gs) := fun u h => by
        obtain ⟨a', c', e', h', _⟩ := owned_strs h rfl
        obtain ⟨rfl, rfl⟩ : ga = a' ∧ gc = c' := by simpa using e'
        exact h'
      clear hn hg2
      go_wp2_with fail
      refine (eqStringS_same _ _ _ _ gs _ (RD.out _ N0.out) G0.out mg).mono ?_
      rintro e u5 ⟨rfl, hn⟩
      replace B : Hid (Below w.heap.size w u5) := B.out.trans (hn.mono B.out.size)
      replace C := Lib.hid (C.out.below hn)
      replace G0 := Lib.hid (G0.out.below hn)
      replace X0 := Lib.hid (X0.out.below hn)
      replace N0 := Lib.hid (N0.out.below hn)
      clear hn
      go_wp2_with fail
      refine (toFeatS_any a cap fs _ (HF.out.reads.below B.out) m1 L2.out).mono ?_
      rintro e u6 ⟨b6, ad6, rfl, rr6, pp6, _, hn⟩
      have H6 := Lib.hid (FeatsAt.of_row rr6 pp6)
      replace B : Hid (Below w.heap.size w u6) := B.out.trans (hn.mono B.out.size)
      replace C := Lib.hid (C.out.below hn)
      replace G0 := Lib.hid (G0.out.below hn)
      replace X0 := Lib.hid (X0.out.below hn)
      replace N0 := Lib.hid (N0.out.below hn)
      clear hn rr6 pp6
      go_wp2_with fail
      refine (eqFeatS_any _ _ _ _ fs fs _ X0.out.reads H6.out m1 m1 L2.out L2.out).mono ?_
      rintro e u7 ⟨rfl, hn⟩
      rw [show fsEq fs fs = true by simp [fsEq]]
      replace B : Hid (Below w.heap.size w u7) := B.out.trans (hn.mono B.out.size)
      replace C := Lib.hid (C.out.below hn)
      replace G0 := Lib.hid (G0.out.below hn)
      replace X0 := Lib.hid (X0.out.below hn)
      replace N0 := Lib.hid (N0.out.below hn)
      have z7 := hn.size
      clear hn H6
      go_wp2_with fail
      refine (markFeatS_some b3 0 _ fs _ 1 _ m1 L2.out (by omega) (by omega) X0.out XS.out).mono ?_
      rintro e u8 ⟨rfl, _, ht⟩
      replace B : Hid (Below w.heap.size w u8) := B.out.trans (ht.below B.out.size (fun x hx => by have := (XB.out x hx).1; omega))
      replace C := Lib.hid (C.out.turned ht (fun h => by have := (XB.out _ h).1; omega) (fun h => by have := (XB.out _ h).1; omega))
      replace G0 := Lib.hid (G0.out.turned ht (fun x hx h => by have h1 := (XB.out x h).1; have h2 := (GR.out x hx).2; omega))
      replace N0 := Lib.hid (N0.out.turned ht (fun x h1 h => by have := (XB.out x h).2; omega))
      have kk0 := (lmk_le (k := 1) (by omega) (by omega) L2.out fs.length (Nat.le_refl _)).1
      generalize lmk fs 1 fs.length = kk at kk0
      clear ht X0 XS
      go_wp2_with fail
      refine (eqStringS_same _ _ _ _ gs _ (RD.out _ N0.out) G0.out mg).mono ?_
      rintro e u9 ⟨rfl, hn⟩
      replace B : Hid (Below w.heap.size w u9) := B.out.trans (hn.mono B.out.size)
      replace C := Lib.hid (C.out.below hn)
      replace G0 := Lib.hid (G0.out.below hn)
      replace N0 := Lib.hid (N0.out.below hn)
      clear hn
      go_wp2_with fail
      refine (markStringS_own u3.heap.size ga gc gs 1 _ N0.out mg (by omega) (by omega)).mono ?_
      rintro e v1 ⟨rfl, hM, ht⟩
      have M := Lib.hid hM
      replace B : Hid (Below w.heap.size w v1) := B.out.trans (ht.below B.out.size (fun x hx => by have := hx.1; omega))
      replace C := Lib.hid (C.out.turned ht (fun h => by have := h.1; omega) (fun h => by have := h.1; omega))
      replace G0 := Lib.hid (G0.out.turned ht (fun x hx h => by have h1 := h.1; have h2 := (GR.out x hx).2; omega))
      clear hM ht N0 RD
      have hq : (1 + (gs.length : Int) != 1 + (gs.length : Int)) = false := by simp
      go_wp2_with fail
      refine (heldStringS_any ga gc gs.length 1 _ M.out mg (by omega) (by omega)).mono ?_
      rintro e v2 ⟨rfl, hn⟩
      replace B : Hid (Below w.heap.size w v2) := B.out.trans (hn.mono B.out.size)
      replace C := Lib.hid (C.out.below hn)
      replace G0 := Lib.hid (G0.out.below hn)
      replace M := Lib.hid (M.out.below hn)
      clear hn
      have zv := C.out.lt
      go_upto_region 24 with (fail)
      go_cut [14] (fun s14 wx => (∃ v, s14 = v ∧ Names wx v2.heap.size v gs) ∧ Below v2.heap.size v2 wx)
      case first =>
        obtain ⟨c0, c1, d0, d1⟩ := C.out
        go_region_held3 (fun w' => w'.cell? ⟨w.heap.size, 0, none⟩ = some (.int .i64 ax) ∧ w'.cell? ⟨w.heap.size, 1, none⟩ = some (.int .i64 ay) ∧ w'.cell? ⟨w.heap.size + 1, 0, none⟩ = some (.int .i64 bx) ∧ w'.cell? ⟨w.heap.size + 1, 1, none⟩ = some (.int .i64 bY) ∧ Below v2.heap.size v2 w')
          (first
            | exact ⟨c0, c1, d0, d1, (Below.refl _ _).drew⟩
            | (go_split_ands
               rename_i hS0 hS1 hS2 hS3 hS8
               exact ⟨cell_later hbn hS0, cell_later hbn hS1, cell_later hbn hS2, cell_later hbn hS3, hS8.trans (hbn.mono hS8.size)⟩))
          (first
            | (go_at_call 6
               refine (toFeatS_any a cap fs _ ?_ m1 L2.out).mono ?_
               · (go_split_ands; exact (HF.out.reads.below B.out).below (by assumption))
               rintro e wn ⟨bA, adA, rfl, rA, pA, hxA, hbn⟩
               have XX : Hid (∀ u, Below wn.heap.size wn u → FeatsAt u (some ⟨bA, 0, none⟩) fs) := fun u hu => (FeatsAt.of_row rA pA).below hu
               clear rA pA)
            | (go_at_call 7
               refine (toPt_any _ _ _).mono ?_
               rintro e wn ⟨rfl, hbn⟩)
            | (go_at_call 8
               refine (IG.out _ _ _ ?_).mono ?_
               · (first | exact XX.out _ (Below.refl _ _) | exact XX.out _ (by assumption) | exact XX.out _ (Below.trans (by assumption) (Below.mono (by assumption) (Below.size (by assumption)))))
               rintro e wn ⟨⟨vG, rfl, hgG⟩, hbn⟩
               have HGG : Hid (Names wn v2.heap.size vG gs) := ownsRow_lo hgG (by go_split_ands; exact Below.size (by assumption))
               clear hgG))
        all_goals (go_wp2_with fail; go_meet; go_split_ands; rename_i hS0 hS1 hS2 hS3 hS8; exact ⟨⟨_, rfl, HGG.out⟩, hS8⟩)
      case rest =>
        obtain ⟨⟨v9, rfl, hg2⟩, hn⟩ := hcut
        obtain ⟨ha, hc, rfl, hg3, _⟩ := owned_strs hg2 rfl
        have G9 := Lib.hid hg3
        replace G0 := Lib.hid (G0.out.below hn)
        replace M := Lib.hid (M.out.below hn)
        replace B := Lib.hid (B.out.trans (hn.mono B.out.size))
        clear hn hg2 hg3 C
        go_wp2_with fail
        refine (eqStringS_same _ _ _ _ gs _ G9.out G0.out mg).mono ?_
        rintro e v4 ⟨rfl, hn⟩
        replace B : Hid (Below w.heap.size w v4) := B.out.trans (hn.mono B.out.size)
        replace M := Lib.hid (M.out.below hn)
        clear hn G9 G0
        go_wp2_with fail
        refine (heldStringS_any ga gc gs.length 1 _ M.out mg (by omega) (by omega)).mono ?_
        rintro e v5 ⟨rfl, hn⟩
        replace B : Hid (Below w.heap.size w v5) := B.out.trans (hn.mono B.out.size)
        clear hn
        go_wp2
        go_ret
        exact ⟨rfl, B.out⟩

set_option maxRecDepth 100000 in
theorem fnExactSheetIn_lifted (os : Os) (started : os.Started) (H : Type) (enc : TypeId × Value → H) :
    ReturnsInHanded {} Tryz.checked os 3 .any (Rows.fnExactSheetInSpec.pre6 enc Tryz.prog Tryz.f3 Rows.fnExactSheetInRow.domain false) (Rows.fnExactSheetInSpec.post enc Tryz.prog Tryz.f3 false true false false) := by
  refine returnsInHanded_of_change (C := Tryz.checked) own started (by kernel_rfl) Tryz.func3
    (ChangeSpec.witness6 (enc := enc) (C := Tryz.checked) false ⟨#[], #[.slice none 0 0, .agg #[.int .i64 0, .int .i64 0], .agg #[.int .i64 0, .int .i64 0]], []⟩ 8 (by kernel_rfl) (by kernel_rfl) (by kernel_rfl) (by kernel_rfl)) ?_
  intro W base args ds gs before hval0 hW _ _
  have hval : ∀ (j : Nat) t v, Tryz.f3.params[j]? = some t → args[j]? = some v → Value.okWide Tryz.prog W .any base t v := hval0
  have hW' := hW
  obtain ⟨p, q, hA0, hV, rfl, _, _⟩ := hW
  have hA : DataW.TrodAll enc Tryz.prog W 0 (fun _ => true) true Tryz.f3.params.toList args.toList ds p := hA0
  rw [Tryz.params3] at hA hval
  obtain ⟨v0, vs0, d0, ds0, p0, q0, hargs, rfl, rfl, h0, r0⟩ := trodAll_cons hA
  obtain ⟨v1, vs1, d1, ds1, p1, q1, rfl, rfl, rfl, h1, r1⟩ := trodAll_cons r0
  obtain ⟨v2, vs2, d2, ds2, p2, q2, rfl, rfl, rfl, h2, r2⟩ := trodAll_cons r1
  obtain ⟨rfl, rfl, rfl⟩ := trodAll_nil r2
  obtain rfl : args = #[v0, v1, v2] := by cases args; simp_all
  obtain ⟨rfl, rfl⟩ := trodVars_none hV
  have k0 := h0
  have lt0 : ∀ x ∈ p0, x.block < W.heap.size := by obtain ⟨m, hm⟩ := k0; exact DataW.trod_lt m _ _ _ hm
  obtain ⟨a0, c0, s0, rfl, f0⟩ := open_feats (hval 0 22 v0 rfl rfl) h0
  have k1 := h1
  have lt1 : ∀ x ∈ p1, x.block < W.heap.size := by obtain ⟨m, hm⟩ := k1; exact DataW.trod_lt m _ _ _ hm
  obtain ⟨x1, y1, rfl⟩ := open_pt (hval 1 24 v1 rfl rfl) h1
  have k2 := h2
  have lt2 : ∀ x ∈ p2, x.block < W.heap.size := by obtain ⟨m, hm⟩ := k2; exact DataW.trod_lt m _ _ _ hm
  obtain ⟨x2, y2, rfl⟩ := open_pt (hval 2 24 v2 rfl rfl) h2
  clear hA0 hval0
  refine (fnSheetIn_walk a0 c0 s0 x1 y1 x2 y2 W f0  ).mono fun e W' ⟨he, bel⟩ => ?_
  subst he
  exact ⟨_, rfl, _, _, _, [], _, [], hW', trodAll_mk1 (shut_bool Tryz.underlying4 _), (trodAll_cons_mk (Below.trod laidOut (by kernel_rfl) (of_decide_eq_true (by kernel_rfl)) k0 bel lt0) (trodAll_cons_mk (Below.trod laidOut (by kernel_rfl) (of_decide_eq_true (by kernel_rfl)) k1 bel lt1) (trodAll_cons_mk (Below.trod laidOut (by kernel_rfl) (of_decide_eq_true (by kernel_rfl)) k2 bel lt2) trodAll_mk0))), rfl, bel.frame _, fun h => by cases h⟩

theorem fnExactSheetIn_over : Rows.fnExactSheetInRow.holds Tryz.pinned (OpenSpec.ofChange Rows.fnExactSheetInSpec) :=
  OpenClaim.holds_of_wide 3 Tryz.f3 rfl rfl rfl rfl rfl rfl rfl ⟨rfl, rfl, rfl, rfl, rfl⟩ rfl rfl rfl rfl rfl (by kernel_rfl) Tryz.func3 (by kernel_rfl)
    (of_decide_eq_true (by kernel_rfl)) (by unfold Func.isWrapper; first | (rw [if_pos (by decide +kernel)]; kernel_rfl) | (rw [if_neg (by decide +kernel)]; exact ⟨rfl, rfl⟩))
    (fun os started H enc _ => fnExactSheetIn_lifted os started H enc)

/-- the given statement -/
theorem fnExactSheetIn_holds : Rows.FnExactSheetInSaid := fnExactSheetIn_over

end Go.Proofs.YtjphlpjippojiabGreat
