/- Proved here: the program's iterator over the pieces of three rows hands over just those, in their order; rows of at most 12 points. -/
import Derived.Test.YtaefibefagbheaaWSeqStays
import Derived.Test.YtaefibefagbheaaWSeqPcs
import Derived.Test.YtaefibefagbheaaWStillIn
namespace Go.Proofs.Ytaefibefagbheaa
set_option linter.unusedVariables false
open Go.ChangeShapes Go.WideShapes Go.ChangeAt Go.RowKit Go.Deep Go.Shelf Go.Maps

attribute [local go_sem] Oper.semAt_some

/-- what a piece is handed over as -/
def pcV (p : Pc) : Array Value := #[.agg #[slV p.1.1, slV p.1.2.1, slV p.1.2.2]]

/-- what is no cells and no map -/
def Rec (o : Obj) : Prop := o.isCells = false ∧ o.isWalk = false
/-- cells of some type -/
def CellsOf (t : TypeId) (o : Obj) : Prop := ∃ c fz, o = .cells c t fz

/-- what the iterator may turn -/
def Mine (B k : Nat) (o : Obj) : Prop := B ≤ k ∧ (CellsOf 76 o ∨ Rec o)
/-- what a round of the loop over the pieces may turn -/
def ChgO (lo BM hi k : Nat) (o : Obj) : Prop := lo ≤ k ∧ ((k ≤ BM ∧ (CellsOf 23 o ∨ CellsOf 4 o)) ∨ CellsOf 32 o ∨ (Rec o ∧ k < hi))
/-- what a round of the loop over the points that stay may turn -/
def Chg (lo BM k : Nat) (o : Obj) : Prop := lo ≤ k ∧ ((k ≤ BM ∧ (CellsOf 23 o ∨ CellsOf 4 o)) ∨ CellsOf 32 o ∨ CellsOf 76 o ∨ Rec o)

theorem ChgO.chg {lo BM hi k : Nat} {o : Obj} (h : ChgO lo BM hi k o) : Chg lo BM k o := ⟨h.1, h.2.imp id (Or.imp id fun x => .inr x.1)⟩

theorem cellsOf_iff (t t' : TypeId) (c : Array Value) (fz : Nat × Nat) : CellsOf t (.cells c t' fz) ↔ t' = t :=
  ⟨fun ⟨c', fz', h⟩ => by injection h, fun h => by subst h; exact ⟨c, fz, rfl⟩⟩
theorem not_rec (c : Array Value) (t : TypeId) (fz : Nat × Nat) : ¬ Rec (.cells c t fz) := fun h => by cases h.1
theorem not_cellsOf_map (t : TypeId) (es : Array MapEntry) (c : Nat) : ¬ CellsOf t (.map es c) := fun ⟨_, _, h⟩ => by cases h
theorem not_rec_map (es : Array MapEntry) (c : Nat) : ¬ Rec (.map es c) := fun h => by cases h.2

/-- a place in all three rows, in a box -/
def Box3 (W : World) (B : Nat) (t : Nat × Nat × Nat) : Prop := W.heap[B]? = some (.cells #[.int .i64 (t.1 : Int), .int .i64 (t.2.1 : Int), .int .i64 (t.2.2 : Int)] 76 (0, 0))

theorem Box3.cells {W : World} {B : Nat} {t : Nat × Nat × Nat} (h : Box3 W B t) : W.cell? ⟨B, 0, none⟩ = some (.int .i64 (t.1 : Int)) ∧ W.cell? ⟨B, 1, none⟩ = some (.int .i64 (t.2.1 : Int)) ∧ W.cell? ⟨B, 2, none⟩ = some (.int .i64 (t.2.2 : Int)) ∧ W.frozen? ⟨B, 0, none⟩ = false ∧ W.frozen? ⟨B, 1, none⟩ = false ∧ W.frozen? ⟨B, 2, none⟩ = false := by
  simp [World.cell?, World.frozen?, show W.heap[B]? = _ from h]
theorem Box3.lt {W : World} {B : Nat} {t : Nat × Nat × Nat} (h : Box3 W B t) : B < W.heap.size := (Array.getElem?_eq_some_iff.1 h).1
theorem Box3.new (W : World) (t : Nat × Nat × Nat) : Box3 (W.alloc (.cells #[.int .i64 (t.1 : Int), .int .i64 (t.2.1 : Int), .int .i64 (t.2.2 : Int)] 76)) W.heap.size t := World.alloc_heap_new W _
theorem Box3.only {A C : World} {Q : Nat → Obj → Prop} {B : Nat} {t : Nat × Nat × Nat} (h : Box3 A B t) (ho : Only A C Q) (hn : ∀ c fz, ¬ Q B (.cells c 76 fz)) : Box3 C B t := ho.block B _ h (hn _ _)
theorem Box3.set {W : World} {B : Nat} {t : Nat × Nat × Nat} (h : Box3 W B t) (u : Nat × Nat × Nat) : Box3 (((W.setCell ⟨B, 0, none⟩ (.int .i64 (u.1 : Int))).setCell ⟨B, 1, none⟩ (.int .i64 (u.2.1 : Int))).setCell ⟨B, 2, none⟩ (.int .i64 (u.2.2 : Int))) B u := by
  have hlt := h.lt
  unfold Box3 at *
  simp only [World.setCell, Array.getElem?_modify, if_true, h, Option.map_some]
  rfl

theorem Box3.only_set {W : World} {B : Nat} {t : Nat × Nat × Nat} (h : Box3 W B t) (u v x : Value) {Q : Nat → Obj → Prop} (hq : ∀ c fz, Q B (.cells c 76 fz)) : Only W (((W.setCell ⟨B, 0, none⟩ u).setCell ⟨B, 1, none⟩ v).setCell ⟨B, 2, none⟩ x) Q :=
  Only.of_grown (grown_set (grown_set (grown_set (World.grownBy.refl W (some B)) _ _) _ _) _ _) (fun r o e ho => by
    cases e
    rw [show W.heap[B]? = _ from h] at ho
    cases ho
    exact hq _ _)

theorem chgO_boxed {lo BM hi B : Nat} {c : Array Value} {t : TypeId} {fz : Nat × Nat} (h1 : t ≠ 32) (h2 : (t ≠ 23 ∧ t ≠ 4) ∨ BM < B) : ¬ ChgO lo BM hi B (.cells c t fz) := by
  rintro ⟨_, ⟨h, h'⟩ | h | h⟩
  · rw [cellsOf_iff, cellsOf_iff] at h'
    rcases h2 with h2 | h2
    · exact h'.elim h2.1 h2.2
    · omega
  · rw [cellsOf_iff] at h; exact h1 h
  · exact not_rec _ _ _ h.1

theorem piecesOf_any (qb qa qc : Option Addr) (nb na nc cb ca cc : Nat) (w : World) :
    Calls Try.prog 42 #[.slice qb nb cb, .slice qa na ca, .slice qc nc cc] w fun e w' => e = .returned (.func (.func 50) #[] #[.pointer (some ⟨w.heap.size, 0, none⟩), .pointer (some ⟨w.heap.size + 1, 0, none⟩), .pointer (some ⟨w.heap.size + 1 + 1, 0, none⟩)]) ∧ w' = ((w.alloc (.cells #[.slice qb nb cb] 23)).alloc (.cells #[.slice qa na ca] 23)).alloc (.cells #[.slice qc nc cc] 23) := by
  go_enter Try.func42, Try.ntmps42
  go_wp2
  go_ret
  exact ⟨rfl, rfl⟩

/-- the slice that a row came as -/
def srcV (s : Src) : Value := .slice s.1 s.2.2.length s.2.1

set_option maxRecDepth 100000 in
set_option maxHeartbeats 8000000 in
theorem piecesOf1_iter (ws : World) (BM Bb Ba Bc : Nat) (S : Src3) (w : World) (hS : Srcs ws S) (hws : Below ws.heap.size ws w) (hb : Boxed w Bb 23 (srcV S.1)) (ha : Boxed w Ba 23 (srcV S.2.1)) (hc : Boxed w Bc 23 (srcV S.2.2)) (hne : BM < Bb ∧ BM < Ba ∧ BM < Bc) (hBM : ws.heap.size ≤ BM ∧ BM < w.heap.size) :
    Iter Try.prog 50 #[.pointer (some ⟨Bb, 0, none⟩), .pointer (some ⟨Ba, 0, none⟩), .pointer (some ⟨Bc, 0, none⟩)] pcV (allPcs S (stays (prs 0 0 S.1.2.2 S.2.1.2.2) (prs 0 0 S.1.2.2 S.2.2.2.2))) (fun A C => Only A C (ChgO ws.heap.size BM (w.heap.size + 2))) Mine w := by
  intro l n J Jx W hW hJ hJx hY h0
  obtain ⟨⟨qb, cb, base⟩, ⟨qa, ca, a⟩, ⟨qc, cc, b⟩⟩ := S
  simp only [srcV] at hb ha hc
  have BWs : Below ws.heap.size ws W := hws.trans (hW.mono hws.size)
  have xb : Boxed W Bb 23 (.slice qb base.length cb) := (hW.block _ hb.lt).trans hb
  have xa : Boxed W Ba 23 (.slice qa a.length ca) := (hW.block _ ha.lt).trans ha
  have xc : Boxed W Bc 23 (.slice qc b.length cc) := (hW.block _ hc.lt).trans hc
  have hsW := BWs.size
  have hww := hW.size
  have hlb := xb.lt
  have hla := xa.lt
  have hlc := xc.lt
  have c1 : (W.alloc (.cells #[.func (.yield l) #[] #[]] 74)).cell? ⟨Bb, 0, none⟩ = some (.slice qb base.length cb) := (xb.alloc _).cell
  have XB := Lib.hid xb
  have XA := Lib.hid xa
  have XC := Lib.hid xc
  have HJ := Lib.hid hJ
  have HJX := Lib.hid hJx
  have HY := Lib.hid hY
  have H0 := Lib.hid h0
  have HS := Lib.hid hS
  have BW := Lib.hid BWs
  clear hJ hJx hY h0 hS BWs xb xa xc hb ha hc hW hws c1
  refine callsIn_wide.2 ((callsIn_wide (n := 6)).1 ?_)
  refine callsIn_of_wp_marks Try.func50 rfl trivial ?_ rfl
  simp only [Try.ntmps50, List.size_toArray, List.length_cons, List.length_nil, Nat.reduceAdd, Nat.reduceSub, Array.replicate_succ, Array.replicate_zero, List.push_toArray, List.append_toArray, List.nil_append, List.cons_append]
  have hc1 := XB.out.cell
  have hc2 := XA.out.cell
  have hc3 := XC.out.cell
  have AA : Hid (∀ o o', Below W.heap.size W ((W.alloc o).alloc o')) := fun o o' => ((Below.refl _ _).alloc (Nat.le_refl _) _).alloc (by simp) _
  have L1 := HS.out.o.2.2
  have L2 := HS.out.a.2.2
  have L3 := HS.out.b.2.2
  have K1 := HS.out.o.2.1
  have K2 := HS.out.a.2.1
  have K3 := HS.out.b.2.1
  simp only at L1 L2 L3 K1 K2 K3
  gi_wp2_with (refine ⟨trivial, ?_⟩; gi_at_call 51; refine (callsIn_wide.2 (staysOf_any qb qa qc cb ca cc base a b _ ((HS.out.o.1.below BW.out).below (AA.out _ _)) ((HS.out.b.1.below BW.out).below (AA.out _ _)) L1 L3)).mono ?_; rintro e w2 ⟨B1, B2, B3, m, rfl, hbox, hb2⟩; have HBX := Lib.hid hbox; have HB2 := Lib.hid hb2; clear hbox hb2)
  have BW2 : Hid (Below W.heap.size W w2) := (AA.out _ _).trans (HB2.out.mono (by simp; omega))
  have hs2 := HB2.out.size
  simp only [World.size_alloc] at hs2
  have y0 : Boxed w2 W.heap.size 74 (.func (.yield l) #[] #[]) := (HB2.out.block _ (by simp; omega)).trans ((Boxed.new W _ _).alloc _)
  have f0 : Box3 w2 (W.heap.size + 1) (0, 0, 0) := (HB2.out.block _ (by simp)).trans (by have := World.alloc_heap_new (W.alloc (.cells #[.func (.yield l) #[] #[]] 74)) (.cells #[.int .i64 0, .int .i64 0, .int .i64 0] 76); rwa [World.size_alloc] at this)
  have xb2 : Boxed w2 Bb 23 (.slice qb base.length cb) := (BW2.out.block _ hlb).trans XB.out
  have xa2 : Boxed w2 Ba 23 (.slice qa a.length ca) := (BW2.out.block _ hla).trans XA.out
  have xc2 : Boxed w2 Bc 23 (.slice qc b.length cc) := (BW2.out.block _ hlc).trans XC.out
  have j2 : J [] w2 := HJ.out _ _ _ H0.out (Only.of_below BW2.out)
  have bs2 : Below ws.heap.size ws w2 := BW.out.trans (BW2.out.mono hsW)
  refine loop_iter (gf := 56) (lb := #[.pointer (some ⟨B1, 0, none⟩), .pointer (some ⟨B2, 0, none⟩), .pointer (some ⟨B3, 0, none⟩)]) rfl (enters_of Try.func56 (by kernel_rfl) rfl) (encs := stV) (fun _ => rfl)
    (all := stays (prs 0 0 base a) (prs 0 0 base b)) (Kp := fun A C => Only A C (Chg ws.heap.size BM)) (w0 := w2) (Below.refl _ _)
    (staysOf1_iter _ B1 B2 B3 m qb qa cb ca base a (prs 0 0 base b) w2 _ (Chg ws.heap.size BM) (fun _ _ h => h) ?q1 ?q2 ?q3 HBX.out ?tell (HS.out.o.1.below bs2) (HS.out.a.1.below bs2) L1 L2)
    (fun h k => h.trans k) (fun X o' ⟨r, hr⟩ => Only.put X o' (fun o ho => by rw [hr] at ho; cases ho; exact ⟨by omega, .inr (.inr (.inr ⟨rfl, rfl⟩))⟩))
    (fun k o => w2.heap.size ≤ k ∧ Rec o) (fun r => ⟨by omega, rfl, rfl⟩) (fun _ _ h => h.elim) (fun _ _ h => h.elim)
    (fun pre X => J (pcs ((qb, cb, base), (qa, ca, a), (qc, cc, b)) (0, 0, 0) pre) X ∧ Box3 X (W.heap.size + 1) (fr (0, 0, 0) pre) ∧ Boxed X W.heap.size 74 (.func (.yield l) #[] #[]) ∧ Boxed X Bb 23 (.slice qb base.length cb) ∧ Boxed X Ba 23 (.slice qa a.length ca) ∧ Boxed X Bc 23 (.slice qc b.length cc) ∧ w2.heap.size ≤ X.heap.size)
    Jx ?hI ?hIx ⟨j2, f0, y0, xb2, xa2, xc2, Nat.le_refl _⟩
    (fun x a' X => ∃ Bx, w2.heap.size ≤ Bx ∧ Box3 X Bx x ∧ a' = { tmps := #[.func (.yield l) #[] #[], .pointer (some ⟨Bb, 0, none⟩), .pointer (some ⟨Ba, 0, none⟩), .pointer (some ⟨Bc, 0, none⟩), .pointer (some ⟨W.heap.size, 0, none⟩), .pointer (some ⟨W.heap.size + 1, 0, none⟩), .pointer (some ⟨Bx, 0, none⟩), undef, .slice qb base.length cb, .slice qa a.length ca, .slice qc b.length cc, .func (.func 56) #[] #[.pointer (some ⟨B1, 0, none⟩), .pointer (some ⟨B2, 0, none⟩), .pointer (some ⟨B3, 0, none⟩)], .agg #[.int .i64 (x.1 : Int), .int .i64 (x.2.1 : Int), .int .i64 (x.2.2 : Int)], undef, undef, undef, undef, undef, undef, undef, undef, undef, undef, undef, undef, undef, undef, undef, undef, undef, undef, undef, undef, undef, undef, undef, undef, undef, undef, undef, undef, undef, undef, undef, undef, undef, undef, undef, undef, undef, undef, undef, undef, undef, undef, undef, undef, undef, undef, undef, undef], defers := [] })
    ?hAx ?assign ?body ?done ?stop
  case q1 =>
    rintro k c fz ⟨_, ⟨_, h | h⟩ | h | h | h⟩
    · rw [cellsOf_iff] at h; exact absurd h (by decide)
    · rw [cellsOf_iff] at h; exact absurd h (by decide)
    · rw [cellsOf_iff] at h; exact absurd h (by decide)
    · rw [cellsOf_iff] at h; exact absurd h (by decide)
    · exact not_rec _ _ _ h
  case q2 =>
    rintro k c fz ⟨_, ⟨_, h | h⟩ | h | h | h⟩
    · rw [cellsOf_iff] at h; exact absurd h (by decide)
    · rw [cellsOf_iff] at h; exact absurd h (by decide)
    · rw [cellsOf_iff] at h; exact absurd h (by decide)
    · rw [cellsOf_iff] at h; exact absurd h (by decide)
    · exact not_rec _ _ _ h
  case q3 =>
    rintro k es c ⟨_, ⟨_, h | h⟩ | h | h | h⟩
    · exact not_cellsOf_map _ _ _ h
    · exact not_cellsOf_map _ _ _ h
    · exact not_cellsOf_map _ _ _ h
    · exact not_cellsOf_map _ _ _ h
    · exact not_rec_map _ _ h
  case tell =>
    have := tells_mapI (prs 0 0 base b).length (prs 0 0 base b) (Nat.le_refl _) ((prs_up 0 0 base b).imp fun h => h.1)
    rwa [List.take_length] at this
  case hI =>
    rintro s X Y ⟨i1, i2, i3, i4, i5, i6, i7⟩ hO
    exact ⟨HJ.out _ _ _ i1 (hO.mono fun k o h => ⟨by have := BW2.out.size; omega, .inr h.2⟩), i2.only hO (fun _ _ h => not_rec _ _ _ h.2), boxed_only i3 hO (fun h => not_rec _ _ _ h.2), boxed_only i4 hO (fun h => not_rec _ _ _ h.2), boxed_only i5 hO (fun h => not_rec _ _ _ h.2), boxed_only i6 hO (fun h => not_rec _ _ _ h.2), Nat.le_trans i7 hO.size⟩
  case hIx =>
    intro s X Y h hO
    exact HJX.out _ _ _ h (hO.mono fun k o h => ⟨by have := BW2.out.size; omega, .inr h.2⟩)
  case hAx =>
    rintro x a' s X Y ⟨Bx, h1, h2, h3⟩ hO
    exact ⟨Bx, h1, h2.only hO (fun _ _ h => not_rec _ _ _ h.2), h3⟩
  case assign =>
    rintro l' pre x X K ⟨i1, i2, i3, i4, i5, i6, i7⟩ hpre hK
    simp only [stV]
    gi_wp2
    exact hK _ _ ((Below.refl _ _).alloc (Nat.le_refl _) _) (Only.of_below ((Below.refl _ _).alloc (Nat.le_refl _) _)) ⟨X.heap.size, i7, Box3.new X x, rfl⟩
  case body =>
    rintro l' pre x a' X hl' ⟨r, hr⟩ ⟨i1, i2, i3, i4, i5, i6, i7⟩ ⟨Bx, hBx, hx, rfl⟩ hpre
    obtain ⟨⟨g1, g2, g3⟩, l1, l2, l3, _⟩ := chain_step (stays_chain base a b) hpre
    have hpc := pcs_prefix (S := ((qb, cb, base), (qa, ca, a), (qc, cc, b))) hpre
    have HPN : Hid (pcs ((qb, cb, base), (qa, ca, a), (qc, cc, b)) (0, 0, 0) (pre ++ [x]) = pcs ((qb, cb, base), (qa, ca, a), (qc, cc, b)) (0, 0, 0) pre ++ [ent ((qb, cb, base), (qa, ca, a), (qc, cc, b)) (fr (0, 0, 0) pre) (nx x)]) := by
      show _ = _
      rw [pcs_append]; rfl
    have HFN : Hid (fr (0, 0, 0) (pre ++ [x]) = nx x) := by
      show _ = _
      rw [fr_append]; rfl
    have AX : Hid (∀ o, Only X (X.alloc o).drew (Mine W.heap.size)) := fun o => Only.of_below ((Below.refl _ _).alloc (Nat.le_refl _) _).drew
    obtain ⟨fn, tmps, assign, body, hy, hR⟩ := HY.out _ (ent ((qb, cb, base), (qa, ca, a), (qc, cc, b)) (fr (0, 0, 0) pre) (nx x)) (X.alloc (.cells #[.int .i64 ((x.1 : Int) + 1), .int .i64 ((x.2.1 : Int) + 1), .int .i64 ((x.2.2 : Int) + 1)] 76)).drew (HJ.out _ _ _ i1 (AX.out _)) hpc 5
    have HRR := Lib.hid hR
    have I2 := Lib.hid i2
    have I3 := Lib.hid i3
    have I4 := Lib.hid i4
    have I5 := Lib.hid i5
    have I6 := Lib.hid i6
    have HX := Lib.hid hx
    have nb : Box3 (X.alloc (.cells #[.int .i64 ((x.1 : Int) + 1), .int .i64 ((x.2.1 : Int) + 1), .int .i64 ((x.2.2 : Int) + 1)] 76)).drew X.heap.size (nx x) := Box3.new X (nx x)
    have NB := Lib.hid nb
    clear hR i1 i2 i3 i4 i5 i6 hx hpc nb
    simp only [pcV, ent, slOf, slV, nx] at hy
    have b2 := I2.out.lt
    have b3 := I3.out.lt
    have b4 := I4.out.lt
    have b5 := I5.out.lt
    have b6 := I6.out.lt
    have bx := HX.out.lt
    obtain ⟨s0, s1, s2, _⟩ := HX.out.cells
    obtain ⟨f0, f1, f2, _⟩ := I2.out.cells
    have e3 := I3.out.cell
    have e4 := I4.out.cell
    have e5 := I5.out.cell
    have e6 := I6.out.cell
    generalize fr (0, 0, 0) pre = o at *
    obtain ⟨o1, o2, o3⟩ := o
    obtain ⟨x1, x2, x3⟩ := x
    simp only at g1 g2 g3 l1 l2 l3 s0 s1 s2 f0 f1 f2 hy
    have r1 := fun u => run_cutLH u qb base.length cb o1 (x1 + 1) (o1 : Int) ((x1 : Int) + 1) rfl rfl (by omega) (by omega)
    have r2 := fun u => run_cutLH u qa a.length ca o2 (x2 + 1) (o2 : Int) ((x2 : Int) + 1) rfl rfl (by omega) (by omega)
    have r3 := fun u => run_cutLH u qc b.length cc o3 (x3 + 1) (o3 : Int) ((x3 : Int) + 1) rfl rfl (by omega) (by omega)
    gi_wp2
    refine region_still_in (open_round l') 20 (by kernel_rfl) (by kernel_rfl) (noDefer_all (by kernel_rfl)) ?_
    simp only [List.take_succ_cons, List.take_zero, List.drop_succ_cons, List.drop_zero]
    repeat still_step
    try refine wpStill_nil ?_
    gi_wp2
    refine RoundIn.mono (show RoundIn (Fence.wide.inRound l') 5 _ _ _ _ _ _ _ _ from HRR.out) ?_
    have NBX : Hid (Only X (X.alloc (.cells #[.int .i64 ((x1 : Int) + 1), .int .i64 ((x2 : Int) + 1), .int .i64 ((x3 : Int) + 1)] 76)).drew (fun _ _ => False)) := Only.of_below ((Below.refl _ _).alloc (Nat.le_refl _) _).drew
    clear r1 r2 r3 s0 s1 s2 f0 f1 f2 e3 e4 e5 e6 hy
    generalize (X.alloc (.cells #[.int .i64 ((x1 : Int) + 1), .int .i64 ((x2 : Int) + 1), .int .i64 ((x3 : Int) + 1)] 76)).drew = X1 at *
    have KF : Hid (∀ W3, Only X1 W3 (ChgO ws.heap.size BM (w.heap.size + 2)) → KeepsFrom w2.heap.size X W3) := fun W3 h => ⟨Nat.le_trans NBX.out.size h.size, fun k o hk ho hc => h.block k o (NBX.out.block k o ho (fun h => h)) (by
      rintro ⟨_, ⟨_, ⟨c, fz, rfl⟩ | ⟨c, fz, rfl⟩⟩ | ⟨c, fz, rfl⟩ | ⟨_, h2⟩⟩
      · cases hc
      · cases hc
      · cases hc
      · have := BW2.out.size; omega)⟩
    rintro e W3 (⟨rfl, hJ3, hk3⟩ | ⟨rfl, hJx3, hk3⟩)
    · have HJ3 := Lib.hid hJ3
      have HK3 := Lib.hid hk3
      have N3 : Hid (Box3 W3 X.heap.size (nx (x1, x2, x3))) := NB.out.only hk3 (fun c fz => chgO_boxed (by decide) (.inl ⟨by decide, by decide⟩))
      have F3 : Hid (Box3 W3 (W.heap.size + 1) (o1, o2, o3)) := (I2.out.only NBX.out (fun _ _ h => h)).only hk3 (fun c fz => chgO_boxed (by decide) (.inl ⟨by decide, by decide⟩))
      have J3 : Hid (Boxed W3 W.heap.size 74 (.func (.yield l) #[] #[])) := boxed_only (boxed_only I3.out NBX.out (fun h => h)) hk3 (chgO_boxed (by decide) (.inl ⟨by decide, by decide⟩))
      have J4 : Hid (Boxed W3 Bb 23 (.slice qb base.length cb)) := boxed_only (boxed_only I4.out NBX.out (fun h => h)) hk3 (chgO_boxed (by decide) (.inr hne.1))
      have J5 : Hid (Boxed W3 Ba 23 (.slice qa a.length ca)) := boxed_only (boxed_only I5.out NBX.out (fun h => h)) hk3 (chgO_boxed (by decide) (.inr hne.2.1))
      have J6 : Hid (Boxed W3 Bc 23 (.slice qc b.length cc)) := boxed_only (boxed_only I6.out NBX.out (fun h => h)) hk3 (chgO_boxed (by decide) (.inr hne.2.2))
      obtain ⟨n0, n1, n2, _⟩ := N3.out.cells
      obtain ⟨f0, f1, f2, f3, f4, f5⟩ := F3.out.cells
      simp only [nx, Int.natCast_add, Int.natCast_one] at n0 n1 n2
      clear hJ3 hk3
      gi_wp2
      have OS : ∀ {Q : Nat → Obj → Prop}, (∀ c fz, Q (W.heap.size + 1) (.cells c 76 fz)) → Only W3 (((W3.setCell ⟨W.heap.size + 1, 0, none⟩ (.int .i64 ((x1 : Int) + 1))).setCell ⟨W.heap.size + 1, 1, none⟩ (.int .i64 ((x2 : Int) + 1))).setCell ⟨W.heap.size + 1, 2, none⟩ (.int .i64 ((x3 : Int) + 1))) Q := fun hq => F3.out.only_set _ _ _ hq
      have OC := OS (Q := fun _ o => CellsOf 76 o) (fun c fz => ⟨c, fz, rfl⟩)
      refine ⟨(KF.out W3 HK3.out).trans ((((KeepsOthers.setCell _ _ _).trans (KeepsOthers.setCell _ _ _)).trans (KeepsOthers.setCell _ _ _)).from _), ((NBX.out.mono (fun _ _ h => h.elim)).trans (HK3.out.mono (fun _ _ h => h.chg))).trans (OS (fun c fz => ⟨by omega, .inr (.inr (.inl ⟨c, fz, rfl⟩))⟩)), ?_, ?_, ?_, ?_, ?_, ?_, ?_⟩
      · rw [HPN.out]
        exact HJ.out _ _ _ HJ3.out (OS (fun c fz => ⟨by omega, .inl ⟨c, fz, rfl⟩⟩))
      · rw [HFN.out]
        exact F3.out.set (nx (x1, x2, x3))
      · exact boxed_only J3.out OC (fun h => by rw [cellsOf_iff] at h; exact absurd h (by decide))
      · exact boxed_only J4.out OC (fun h => by rw [cellsOf_iff] at h; exact absurd h (by decide))
      · exact boxed_only J5.out OC (fun h => by rw [cellsOf_iff] at h; exact absurd h (by decide))
      · exact boxed_only J6.out OC (fun h => by rw [cellsOf_iff] at h; exact absurd h (by decide))
      · exact Nat.le_trans i7 (Nat.le_trans (NBX.out.size) (Nat.le_trans HK3.out.size OC.size))
    · have HX3 := Lib.hid hJx3
      have HK3 := Lib.hid hk3
      clear hJx3 hk3
      gi_wp2
      exact ⟨KF.out W3 HK3.out, (NBX.out.mono (fun _ _ h => h.elim)).trans (HK3.out.mono (fun _ _ h => h.chg)), HX3.out⟩
  case done =>
    rintro D X hD ⟨i1, i2, i3, i4, i5, i6, i7⟩ hK
    have he := chain_end (stays_chain base a b) ⟨Nat.zero_le _, Nat.zero_le _, Nat.zero_le _⟩
    obtain ⟨fn, tmps, assign, body, hy, hR⟩ := HY.out _ (ent ((qb, cb, base), (qa, ca, a), (qc, cc, b)) (fr (0, 0, 0) (stays (prs 0 0 base a) (prs 0 0 base b))) (ends ((qb, cb, base), (qa, ca, a), (qc, cc, b)))) X.drew (HJ.out _ _ _ i1 (Only.of_below (Below.refl _ _).drew)) (List.prefix_refl _) 5
    have HRR := Lib.hid hR
    have I2 := Lib.hid i2
    have HALL : Hid (allPcs ((qb, cb, base), (qa, ca, a), (qc, cc, b)) (stays (prs 0 0 base a) (prs 0 0 base b)) = pcs ((qb, cb, base), (qa, ca, a), (qc, cc, b)) (0, 0, 0) (stays (prs 0 0 base a) (prs 0 0 base b)) ++ [ent ((qb, cb, base), (qa, ca, a), (qc, cc, b)) (fr (0, 0, 0) (stays (prs 0 0 base a) (prs 0 0 base b))) (ends ((qb, cb, base), (qa, ca, a), (qc, cc, b)))]) := rfl
    have HKD := Lib.hid hK
    clear hR i1 i2 hK
    simp only [pcV, ent, slOf, slV, ends] at hy
    obtain ⟨f0, f1, f2, _⟩ := I2.out.cells
    have e3 := i3.cell
    have e4 := i4.cell
    have e5 := i5.cell
    have e6 := i6.cell
    clear i3 i4 i5 i6
    generalize fr (0, 0, 0) (stays (prs 0 0 base a) (prs 0 0 base b)) = o at *
    obtain ⟨o1, o2, o3⟩ := o
    simp only at he f0 f1 f2 hy
    obtain ⟨he1, he2, he3⟩ := he
    have r1 := fun u => run_cutLo u qb base.length cb o1 (o1 : Int) rfl he1
    have r2 := fun u => run_cutLo u qa a.length ca o2 (o2 : Int) rfl he2
    have r3 := fun u => run_cutLo u qc b.length cc o3 (o3 : Int) rfl he3
    gi_wp2
    refine region_still_in open_wide 14 (by kernel_rfl) (by kernel_rfl) (noDefer_all (by kernel_rfl)) ?_
    simp only [List.take_succ_cons, List.take_zero, List.drop_succ_cons, List.drop_zero]
    repeat still_step
    try refine wpStill_nil ?_
    gi_wp2
    refine HRR.out.mono ?_
    clear r1 r2 r3 f0 f1 f2 e3 e4 e5 e6 hy
    have KD : Hid (∀ W3, Only X.drew W3 (ChgO ws.heap.size BM (w.heap.size + 2)) → W3.heap[D]? = some (.deferred (some []))) := fun W3 h => h.block D _ HKD.out (by
      rintro ⟨_, ⟨_, ⟨c, fz, h⟩ | ⟨c, fz, h⟩⟩ | ⟨c, fz, h⟩ | ⟨_, h2⟩⟩
      · cases h
      · cases h
      · cases h
      · have := BW2.out.size; omega)
    have MD : Hid (∀ k o, k = D → Rec o → Mine W.heap.size k o) := fun k o e h => ⟨by have := BW2.out.size; omega, .inr h⟩
    rintro e W3 (⟨rfl, hJ3, hk3⟩ | ⟨rfl, hJx3, hk3⟩)
    · have hD3 := KD.out W3 hk3
      gi_wp2
      refine ⟨by simp, .inl ⟨_, _, rfl, run_takeDeferred hD3, ?_⟩⟩
      refine ⟨_, results_none rfl _ _ _, ⟨_, rfl⟩, .inl ?_⟩
      rw [HALL.out]
      exact HJ.out _ _ _ hJ3 (Only.put W3 _ (fun o ho => by rw [hD3] at ho; cases ho; exact MD.out _ _ rfl ⟨rfl, rfl⟩))
    · have hD3 := KD.out W3 hk3
      gi_wp2
      refine ⟨by simp, .inl ⟨_, _, rfl, run_takeDeferred hD3, ?_⟩⟩
      refine ⟨_, results_none rfl _ _ _, ⟨_, rfl⟩, .inr ?_⟩
      exact HJX.out _ _ _ hJx3 (Only.put W3 _ (fun o ho => by rw [hD3] at ho; cases ho; exact MD.out _ _ rfl ⟨rfl, rfl⟩))
  case stop =>
    rintro D X hD hX hK
    have MD : Hid (∀ k o, k = D → Rec o → Mine W.heap.size k o) := fun k o e h => ⟨by have := BW2.out.size; omega, .inr h⟩
    gi_wp2
    refine ⟨by simp, .inl ⟨_, _, rfl, run_takeDeferred hK, ?_⟩⟩
    refine ⟨_, results_none rfl _ _ _, ⟨_, rfl⟩, .inr ?_⟩
    exact HJX.out _ _ _ hX (Only.put X _ (fun o ho => by rw [hK] at ho; cases ho; exact MD.out _ _ rfl ⟨rfl, rfl⟩))
end Go.Proofs.Ytaefibefagbheaa
