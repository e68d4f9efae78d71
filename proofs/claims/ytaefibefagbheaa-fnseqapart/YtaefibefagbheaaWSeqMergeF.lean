/- Proved here: the program's SeqMerge answers what two made of a row, in memory of its own; rows of at most 1,048,576 points. -/
import Derived.Test.YtaefibefagbheaaWSeqMergeI
namespace Go.Proofs.Ytaefibefagbheaa
set_option linter.unusedVariables false
open Go.ChangeShapes Go.WideShapes Go.ChangeAt Go.RowKit Go.Deep Go.Shelf Go.Maps

attribute [local go_sem] Oper.semAt_some

theorem cell_third (w : World) (o o' : Obj) (cs : Array Value) (t : TypeId) (j : Nat) (v : Value) (h : cs[j]? = some v) : (((w.alloc o).alloc o').alloc (.cells cs t)).cell? ⟨w.heap.size + 1 + 1, j, none⟩ = some v := by
  have := World.alloc_heap_new ((w.alloc o).alloc o') (.cells cs t)
  rw [World.size_alloc, World.size_alloc] at this
  simp only [World.cell?, this, Option.isSome_none, Bool.false_eq_true, if_false]
  exact h

theorem boxed_at (u : World) (t : TypeId) (v : Value) (n : Nat) (h : u.heap.size = n) : Boxed (u.alloc (.cells #[v] t)) n t v := by
  subst h
  exact Boxed.new u t v

theorem keeps_only {A C : World} {Q : Nat → Obj → Prop} {B : Nat} (h : Only A C Q) (hq : ∀ k o, o.isCells = false → ¬ Q k o) : KeepsFrom B A C := ⟨h.size, fun k o _ hk hc => h.block k o hk (hq k o hc)⟩

theorem owns_form {w : World} {base : Nat} {t : TypeId} {v : Value} {ps : List (Int × Int)} (h : w.ownsRow base t 2 v ps.length (flat ps)) : ∃ a c, v = .slice a ps.length c ∧ ps.length ≤ c := by
  obtain ⟨_, ⟨rfl, h2⟩ | ⟨g, cap, cur, rfl, _, _, hc, _⟩⟩ := h
  · exact ⟨none, 0, by rw [h2], by omega⟩
  · exact ⟨_, cap, rfl, hc⟩

theorem only_append {A C : World} {base : Nat} {t : TypeId} {v : Value} {n : Nat} {xs : List Value} (h : A.ownsRow base t 2 v n xs) (hg : A.grownBy C v.ownBlock) : Only A C (fun k o => base ≤ k ∧ CellsOf t o) :=
  Only.of_grown hg (fun r o e ho => by
    obtain ⟨_, ⟨rfl, _⟩ | ⟨g, cap, cur, rfl, hb, hg', _⟩⟩ := h
    · cases e
    · obtain rfl : g = r := by simpa [Value.ownBlock] using e
      rw [hg'] at ho
      cases ho
      exact ⟨hb, _, _, rfl⟩)

/-- what a round turns: cells of the boxes, and of the row -/
def Turn (BM k : Nat) (o : Obj) : Prop := (k ≤ BM ∧ (CellsOf 23 o ∨ CellsOf 4 o)) ∨ CellsOf 32 o

theorem Turn.cells {BM k : Nat} {o : Obj} (h : o.isCells = false) : ¬ Turn BM k o := by
  rintro (⟨_, ⟨c, fz, rfl⟩ | ⟨c, fz, rfl⟩⟩ | ⟨c, fz, rfl⟩) <;> cases h

theorem boxed_turn {W : World} {B BM : Nat} {t : TypeId} {v : Value} (h : Boxed W B t v) (hB : B ≤ BM) (ht : t = 23 ∨ t = 4) (u : Value) (lo : Nat) (hlo : lo ≤ B) : Only W (W.setCell ⟨B, 0, none⟩ u) (fun k o => lo ≤ k ∧ Turn BM k o) :=
  Only.set W (fun o ho => by
    rw [show W.heap[B]? = _ from h] at ho
    cases ho
    exact ⟨hlo, .inl ⟨hB, ht.imp (fun e => ⟨_, _, by rw [e]⟩) (fun e => ⟨_, _, by rw [e]⟩)⟩⟩)

set_option maxRecDepth 100000 in
set_option maxHeartbeats 1000000 in
theorem implSeqMerge_many (qb qa qc : Option Addr) (nb na nc cb ca cc : Nat) (w : World) (hf : fewB [nb, na, nc] = false) (h1 : nb ≤ 1048576) (h2 : na ≤ 1048576) (h3 : nc ≤ 1048576) :
    Calls Try.prog 21 #[.slice qb nb cb, .slice qa na ca, .slice qc nc cc] w (MergeAns w none) := by
  go_enter Try.func21, Try.ntmps21
  go_wp2_with fail
  refine (inBound3 (w.heap.size + 1 + 1) qb qa qc nb na nc cb ca cc _ (cell_third _ _ _ _ _ _ _ rfl) (cell_third _ _ _ _ _ _ _ rfl) (cell_third _ _ _ _ _ _ _ rfl) h1 h2 h3).mono ?_
  rintro e w1 ⟨rfl, rfl⟩
  rw [hf]
  clear hf
  go_wp2
  refine bodyPost_ret (v := .tuple #[.slice none 0 0, .bool false]) (by simp [results, Try.results21, go_sem]) rfl ⟨none, 0, rfl, RowIs.none ?_⟩
  exact (((Below.refl _ _).alloc (Nat.le_refl _) _).alloc (by simp) _).alloc (by simp; omega) _

set_option maxRecDepth 100000 in
set_option maxHeartbeats 8000000 in
theorem implSeqMerge_few (S : Src3) (w : World) (hS : Srcs w S) :
    Calls Try.prog 21 #[srcV S.1, srcV S.2.1, srcV S.2.2] w (MergeAns w (merged S.1.2.2 S.2.1.2.2 S.2.2.2.2)) := by
  obtain ⟨⟨qb, cb, base⟩, ⟨qa, ca, a⟩, ⟨qc, cc, b⟩⟩ := S
  simp only [srcV]
  have L1 := hS.o.2.2
  have L2 := hS.a.2.2
  have L3 := hS.b.2.2
  simp only at L1 L2 L3
  have HS := Lib.hid hS
  clear hS
  have hf : fewB [base.length, a.length, b.length] = true := by simp [fewB]; omega
  have HF := Lib.hid hf
  clear hf
  obtain ⟨i0, hi, hz0, hz1, hz2⟩ := info_parts infoPt
  have JI := Lib.hid hi
  have JZ0 := Lib.hid hz0
  have JZ1 := Lib.hid hz1
  have JZ2 := Lib.hid hz2
  clear hi hz0 hz1 hz2
  refine (callsIn_wide (n := 8)).1 ?_
  refine callsIn_of_wp_marks Try.func21 rfl trivial ?_ rfl
  simp only [Try.ntmps21, List.size_toArray, List.length_cons, List.length_nil, Nat.reduceAdd, Nat.reduceSub, Array.replicate_succ, Array.replicate_zero, List.push_toArray, List.append_toArray, List.nil_append, List.cons_append]
  gi_wp2_with (first
    | (refine ⟨trivial, ?_⟩; gi_at_call 34; refine (callsIn_wide.2 (inBound3 (w.heap.size + 1 + 1) qb qa qc base.length a.length b.length cb ca cc _ (cell_third _ _ _ _ _ _ _ rfl) (cell_third _ _ _ _ _ _ _ rfl) (cell_third _ _ _ _ _ _ _ rfl) (by omega) (by omega) (by omega))).mono ?_; rintro e w1 ⟨rfl, rfl⟩; rw [HF.out])
    | (refine ⟨trivial, ?_⟩; gi_at_call 42; refine (callsIn_wide.2 (piecesOf_any _ _ _ _ _ _ _ _ _ _)).mono ?_; rintro e w2 ⟨rfl, hw2⟩))
  have sz : w2.heap.size = w.heap.size + 7 := by rw [hw2]; simp
  have B2 : Below w.heap.size w w2 := by
    rw [hw2]
    exact ((((((((Below.refl _ _).alloc (Nat.le_refl _) _).alloc (by simp) _).alloc (by simp; omega) _).alloc (by simp; omega) _).alloc (by simp; omega) _).alloc (by simp; omega) _).alloc (by simp; omega) _)
  have x0 : Boxed w2 w.heap.size 23 (.slice none 0 0) := by rw [hw2]; exact ((((((Boxed.new w _ _).alloc _).alloc _).alloc _).alloc _).alloc _).alloc _
  have x1 : Boxed w2 (w.heap.size + 1) 4 (.bool false) := by rw [hw2]; exact (((((boxed_second w _ _ _ ()).alloc _).alloc _).alloc _).alloc _).alloc _
  have x3 : Boxed w2 (w.heap.size + 1 + 1 + 1) 23 (.slice none 0 0) := by rw [hw2]; exact (((boxed_at _ _ _ _ (by simp)).alloc _).alloc _).alloc _
  have x4 : Boxed w2 (w.heap.size + 1 + 1 + 1 + 1) 23 (.slice qb base.length cb) := by rw [hw2]; exact ((boxed_at _ _ _ _ (by simp)).alloc _).alloc _
  have x5 : Boxed w2 (w.heap.size + 1 + 1 + 1 + 1 + 1) 23 (.slice qa a.length ca) := by rw [hw2]; exact (boxed_at _ _ _ _ (by simp)).alloc _
  have x6 : Boxed w2 (w.heap.size + 1 + 1 + 1 + 1 + 1 + 1) 23 (.slice qc b.length cc) := by rw [hw2]; exact boxed_at _ _ _ _ (by simp)
  rw [← hw2]
  clear hw2
  refine loop_iter (gf := 50) (lb := #[.pointer (some ⟨w.heap.size + 1 + 1 + 1 + 1, 0, none⟩), .pointer (some ⟨w.heap.size + 1 + 1 + 1 + 1 + 1, 0, none⟩), .pointer (some ⟨w.heap.size + 1 + 1 + 1 + 1 + 1 + 1, 0, none⟩)]) rfl (enters_of Try.func50 (by kernel_rfl) rfl) (encs := pcV) (fun _ => rfl)
    (all := allPcs ((qb, cb, base), (qa, ca, a), (qc, cc, b)) (stays (prs 0 0 base a) (prs 0 0 base b))) (w0 := w2) (Below.refl _ _)
    (piecesOf1_iter w (w.heap.size + 1 + 1 + 1) _ _ _ ((qb, cb, base), (qa, ca, a), (qc, cc, b)) w2 HS.out B2 x4 x5 x6 (by omega) (by omega))
    (fun h k => h.trans k) (fun X o' ⟨r, hr⟩ => Only.put X o' (fun o ho => by rw [hr] at ho; cases ho; exact ⟨by omega, .inr (.inr ⟨⟨rfl, rfl⟩, by omega⟩)⟩))
    (fun k o => w2.heap.size ≤ k ∧ (CellsOf 76 o ∨ Rec o)) (fun r => ⟨by omega, .inr ⟨rfl, rfl⟩⟩) (fun k o h => ⟨by have := h.1; omega, h.2⟩) (fun k o h => h.1)
    (fun pre X => ∃ v ml, mg pre = some ml ∧ Boxed X (w.heap.size + 1 + 1 + 1) 23 v ∧ X.ownsRow w2.heap.size 32 2 v ml.length (flat ml) ∧ Boxed X w.heap.size 23 (.slice none 0 0) ∧ Boxed X (w.heap.size + 1) 4 (.bool false) ∧ Below w.heap.size w X ∧ w2.heap.size ≤ X.heap.size)
    (fun _ X => merged base a b = none ∧ Boxed X w.heap.size 23 (.slice none 0 0) ∧ Boxed X (w.heap.size + 1) 4 (.bool false) ∧ Below w.heap.size w X) ?hI ?hIx ⟨_, [], rfl, x3, World.ownsRow_nil _ _ _ _, x0, x1, B2, Nat.le_refl _⟩
    (fun x a' X => ∃ Bx, w2.heap.size ≤ Bx ∧ PBox X Bx x ∧ a' = { tmps := #[.slice qb base.length cb, .slice qa a.length ca, .slice qc b.length cc, undef, undef, undef, .pointer (some ⟨w.heap.size, 0, none⟩), .pointer (some ⟨w.heap.size + 1, 0, none⟩), .pointer (some ⟨w.heap.size + 1 + 1 + 1, 0, none⟩), .pointer (some ⟨Bx, 0, none⟩), undef, undef, .slice qb base.length cb, .slice qa a.length ca, .slice qc b.length cc, .slice (some ⟨w.heap.size + 1 + 1, 0, none⟩) 3 3, .bool true, .bool false, .slice qb base.length cb, .slice qa a.length ca, .slice qc b.length cc, .func (.func 50) #[] #[.pointer (some ⟨w.heap.size + 1 + 1 + 1 + 1, 0, none⟩), .pointer (some ⟨w.heap.size + 1 + 1 + 1 + 1 + 1, 0, none⟩), .pointer (some ⟨w.heap.size + 1 + 1 + 1 + 1 + 1 + 1, 0, none⟩)], .agg #[slV x.1.1, slV x.1.2.1, slV x.1.2.2], undef, undef, undef, undef, undef, undef, undef, undef, undef, undef, undef], defers := [] })
    ?hAx ?assign ?body ?done ?stop
  case hI =>
    rintro s X Y ⟨v, ml, h1, h2, h3, h4, h5, h6, h7⟩ hO
    exact ⟨v, ml, h1, boxed_only h2 hO (fun h => by rcases h.2 with h | h; (rw [cellsOf_iff] at h; exact absurd h (by decide)); exact not_rec _ _ _ h), ownsRow_only h3 hO (fun g c _ h => by rcases h.2 with h | h; (rw [cellsOf_iff] at h; exact absurd h (by decide)); exact not_rec _ _ _ h), boxed_only h4 hO (fun h => by rcases h.2 with h | h; (rw [cellsOf_iff] at h; exact absurd h (by decide)); exact not_rec _ _ _ h), boxed_only h5 hO (fun h => by rcases h.2 with h | h; (rw [cellsOf_iff] at h; exact absurd h (by decide)); exact not_rec _ _ _ h), h6.trans (hO.below h6.size (fun k o h => by have := h.1; omega)), Nat.le_trans h7 hO.size⟩
  case hIx =>
    rintro s X Y ⟨h1, h4, h5, h6⟩ hO
    exact ⟨h1, boxed_only h4 hO (fun h => by rcases h.2 with h | h; (rw [cellsOf_iff] at h; exact absurd h (by decide)); exact not_rec _ _ _ h), boxed_only h5 hO (fun h => by rcases h.2 with h | h; (rw [cellsOf_iff] at h; exact absurd h (by decide)); exact not_rec _ _ _ h), h6.trans (hO.below h6.size (fun k o h => by have := h.1; omega))⟩
  case hAx =>
    rintro x a' s X Y ⟨Bx, h1, h2, h3⟩ hO
    exact ⟨Bx, h1, h2.only hO (fun _ _ h => by rcases h.2 with h | h; (rw [cellsOf_iff] at h; exact absurd h (by decide)); exact not_rec _ _ _ h), h3⟩
  case assign =>
    rintro l' pre x X K ⟨v, ml, h1, h2, h3, h4, h5, h6, h7⟩ hpre hK
    simp only [pcV, slV]
    gi_wp2
    exact hK _ _ ((Below.refl _ _).alloc (Nat.le_refl _) _) (Only.of_below ((Below.refl _ _).alloc (Nat.le_refl _) _)) ⟨X.heap.size, h7, World.alloc_heap_new X _, rfl⟩
  case body =>
    rintro l' pre x a' X hl' ⟨r, hr⟩ ⟨v, ml, h1, h2, h3, h4, h5, h6, h7⟩ ⟨Bx, hBx, hx, rfl⟩ hpre
    have hmem : x ∈ allPcs ((qb, cb, base), (qa, ca, a), (qc, cc, b)) (stays (prs 0 0 base a) (prs 0 0 base b)) := by
      obtain ⟨r', hr'⟩ := hpre
      rw [← hr']
      simp
    have hrd := reads_all (HS.out.below h6) x hmem
    have hsh := short_all (S := ((qb, cb, base), (qa, ca, a), (qc, cc, b))) L1 L2 L3 _ x hmem
    have hlen : pre.length ≤ 12 := by
      have h1 := hpre.length_le
      have h2 := all_len (S := ((qb, cb, base), (qa, ca, a), (qc, cc, b))) L1
      simp only [List.length_append, List.length_cons, List.length_nil] at h1
      simp only at h2
      omega
    have hml : ml.length ≤ 144 := by
      have := mg_le (l := pre) (fun p hp => short_all (S := ((qb, cb, base), (qa, ca, a), (qc, cc, b))) L1 L2 L3 _ p (by obtain ⟨r', hr'⟩ := hpre; rw [← hr']; simp [hp])) h1
      omega
    have HMG := Lib.hid (mg_snoc pre x)
    have HM1 := Lib.hid h1
    have HPRE := Lib.hid hpre
    have HALL := Lib.hid (mg_all ((qb, cb, base), (qa, ca, a), (qc, cc, b)))
    have H2 := Lib.hid h2
    have H3 := Lib.hid h3
    have H4 := Lib.hid h4
    have H5 := Lib.hid h5
    have H6 := Lib.hid h6
    have HRD := Lib.hid hrd
    have HSH := Lib.hid hsh
    obtain ⟨c0, c1, c2⟩ := hx.cells
    simp only [slV] at c0 c1 c2
    clear h1 h2 h3 h4 h5 h6 hrd hsh hpre hmem hx hr
    cases hp : pick x.2.1 x.2.2.1 x.2.2.2 with
    | none =>
      have HB : Hid (pickB x.2.1 x.2.2.1 x.2.2.2 = false) := by show _ = _; unfold pickB; rw [hp]; rfl
      have HP := Lib.hid hp
      clear hp
      gi_wp2_with (refine ⟨trivial, ?_⟩; gi_at_call 43; refine (CallsIn.inRound l' (callsIn_wide.2 (pieceMerge_any x.1.1 x.1.2.1 x.1.2.2 x.2.1 x.2.2.1 x.2.2.2 _ HRD.out.o.1 HRD.out.a.1 HRD.out.b.1 HRD.out.o.2.1 HRD.out.a.2.1 HRD.out.b.2.1 HRD.out.o.2.2 HRD.out.a.2.2 HRD.out.b.2.2))).mono ?_; rintro e X2 ⟨rfl, hb2⟩; rw [HB.out]; have B3 := Lib.hid hb2; have y0 : Boxed X2 w.heap.size 23 (.slice none 0 0) := (hb2.block _ H4.out.lt).trans H4.out; have y1 : Boxed X2 (w.heap.size + 1) 4 (.bool false) := (hb2.block _ H5.out.lt).trans H5.out; have q0 := y0.cell; have q1 := y0.frozen; have q2 := y1.cell; have q3 := y1.frozen; have Y0 := Lib.hid y0; have Y1 := Lib.hid y1; clear hb2 y0 y1)
      have z1 := Y0.out.set (.slice none 0 0)
      have z2 : Boxed (X2.setCell ⟨w.heap.size, 0, none⟩ (.slice none 0 0)) (w.heap.size + 1) 4 (.bool false) := Boxed.other Y1.out (by omega) _
      have O1 := (boxed_turn Y0.out (BM := w.heap.size + 1 + 1 + 1) (by omega) (.inl rfl) (.slice none 0 0) w.heap.size (Nat.le_refl _)).trans (boxed_turn z2 (BM := w.heap.size + 1 + 1 + 1) (by omega) (.inr rfl) (.bool false) w.heap.size (by omega))
      have O2 := (Only.of_below (Q := fun k o => w.heap.size ≤ k ∧ Turn (w.heap.size + 1 + 1 + 1) k o) B3.out).trans O1
      refine ⟨keeps_only O2 (fun k o hc h => Turn.cells hc h.2), O2.mono (fun k o h => ⟨h.1, h.2.imp id (fun x => .inl x)⟩), ?_, Boxed.other z1 (by omega) _, z2.set _, H6.out.trans (O2.below H6.out.size (fun k o h => h.1))⟩
      obtain ⟨r', hr'⟩ := HPRE.out
      have e1 : mg (pre ++ [x]) = none := by rw [HMG.out, HM1.out, HP.out]; rfl
      have e2 : mg (allPcs ((qb, cb, base), (qa, ca, a), (qc, cc, b)) (stays (prs 0 0 base a) (prs 0 0 base b))) = merged base a b := HALL.out
      rw [← e2, ← hr']
      exact mg_none_append r' e1
    | some rr =>
      have HB : Hid (pickB x.2.1 x.2.2.1 x.2.2.2 = true) := by show _ = _; unfold pickB; rw [hp]; rfl
      have HN : Hid (mg (pre ++ [x]) = some (ml ++ rr)) := by show _ = _; rw [HMG.out, HM1.out, hp]; rfl
      obtain ⟨hr1, hr2⟩ := pickA_reads HRD.out.a.1 HRD.out.b.1 HRD.out.a.2.1 HRD.out.b.2.1 hp
      have hrl := pick_le HSH.out.2.1 HSH.out.2.2 hp
      have HPA : Hid (slV (pickA x.2.1 x.2.2.1 x.2.2.2 x.1.2.1 x.1.2.2) = .slice (pickA x.2.1 x.2.2.1 x.2.2.2 x.1.2.1 x.1.2.2).1 rr.length (pickA x.2.1 x.2.2.1 x.2.2.2 x.1.2.1 x.1.2.2).2.2) := by show _ = _; unfold slV; rw [hr2]
      have HR1 := Lib.hid hr1
      clear hp hr1 hr2
      generalize (pickA x.2.1 x.2.2.1 x.2.2.2 x.1.2.1 x.1.2.2).1 = pr at *
      generalize (pickA x.2.1 x.2.2.1 x.2.2.2 x.1.2.1 x.1.2.2).2.2 = cr at *
      obtain ⟨av, cv, rfl, hcv⟩ := owns_form H3.out
      have Ob : Hid (∀ X2, Below X.heap.size X X2 → Only X X2 (fun k o => w.heap.size ≤ k ∧ Turn (w.heap.size + 1 + 1 + 1) k o)) := fun X2 h => Only.of_below h
      have Fin : Hid (∀ X2 X3 v', Below X.heap.size X X2 → Only X2 X3 (fun k o => w2.heap.size ≤ k ∧ CellsOf 32 o) → Boxed X3 (w.heap.size + 1 + 1 + 1) 23 (.slice av ml.length cv) → X3.ownsRow w2.heap.size 32 2 v' (ml ++ rr).length (flat (ml ++ rr)) →
          roundEnd w2.heap.size (fun A C => Only A C (ChgO w.heap.size (w.heap.size + 1 + 1 + 1) (w2.heap.size + 2))) (fun pre X => ∃ v ml, mg pre = some ml ∧ Boxed X (w.heap.size + 1 + 1 + 1) 23 v ∧ X.ownsRow w2.heap.size 32 2 v ml.length (flat ml) ∧ Boxed X w.heap.size 23 (.slice none 0 0) ∧ Boxed X (w.heap.size + 1) 4 (.bool false) ∧ Below w.heap.size w X ∧ w2.heap.size ≤ X.heap.size) (fun _ X => merged base a b = none ∧ Boxed X w.heap.size 23 (.slice none 0 0) ∧ Boxed X (w.heap.size + 1) 4 (.bool false) ∧ Below w.heap.size w X) (pre ++ [x]) X .normal { tmps := #[], defers := [] } (X3.setCell ⟨w.heap.size + 1 + 1 + 1, 0, none⟩ v')) := by
        intro X2 X3 v' hb hO hB3 hR
        have O1 := ((Ob.out X2 hb).trans (hO.mono (fun k o h => ⟨by have := h.1; omega, .inr h.2⟩))).trans (boxed_turn hB3 (BM := w.heap.size + 1 + 1 + 1) (by omega) (.inl rfl) v' w.heap.size (by omega))
        have Oset : Only X3 (X3.setCell ⟨w.heap.size + 1 + 1 + 1, 0, none⟩ v') (fun k _ => k = w.heap.size + 1 + 1 + 1) := Only.set X3 (fun _ _ => rfl)
        have O23 : Only X (X3.setCell ⟨w.heap.size + 1 + 1 + 1, 0, none⟩ v') (fun k o => k = w.heap.size + 1 + 1 + 1 ∨ CellsOf 32 o) := ((Only.of_below hb).trans (hO.mono (fun k o h => .inr h.2))).trans (Oset.mono (fun k o h => .inl h))
        refine ⟨keeps_only O1 (fun k o hc h => Turn.cells hc h.2), O1.mono (fun k o h => ⟨h.1, h.2.imp id (fun x => .inl x)⟩), v', ml ++ rr, HN.out, hB3.set v', ?_, ?_, ?_, H6.out.trans (O1.below H6.out.size (fun k o h => h.1)), Nat.le_trans h7 O1.size⟩
        · exact ownsRow_only hR Oset (fun g c hg h => by omega)
        · exact boxed_only H4.out O23 (fun h => by rcases h with h | h; (omega); (rw [cellsOf_iff] at h; exact absurd h (by decide)))
        · exact boxed_only H5.out O23 (fun h => by rcases h with h | h; (omega); (rw [cellsOf_iff] at h; exact absurd h (by decide)))
      by_cases h0 : 0 < rr.length
      · obtain ⟨bb, off, rfl, hbb, _, _⟩ := HR1.out 0 h0
        gi_wp2_with (first
          | (refine ⟨trivial, ?_⟩; gi_at_call 43; refine (CallsIn.inRound l' (callsIn_wide.2 (pieceMerge_any x.1.1 x.1.2.1 x.1.2.2 x.2.1 x.2.2.1 x.2.2.2 _ HRD.out.o.1 HRD.out.a.1 HRD.out.b.1 HRD.out.o.2.1 HRD.out.a.2.1 HRD.out.b.2.1 HRD.out.o.2.2 HRD.out.a.2.2 HRD.out.b.2.2))).mono ?_; rintro e X2 ⟨rfl, hb2⟩; rw [HB.out, HPA.out]; have B3 := Lib.hid hb2; have y3 : Boxed X2 (w.heap.size + 1 + 1 + 1) 23 (.slice av ml.length cv) := (hb2.block _ H2.out.lt).trans H2.out; have q0 := y3.cell; have q1 := y3.frozen; have Y3 := Lib.hid y3; have R3 : Hid (X2.ownsRow w2.heap.size 32 2 (.slice av ml.length cv) ml.length (flat ml)) := ownsRow_only H3.out (Only.of_below hb2 (Q := fun _ _ => False)) (fun _ _ _ h => h); have hs2 := hb2.size; clear hb2 y3)
          | (gi_at_builtin; refine wpListIn_append_own _ rfl _ _ 23 rfl w2.heap.size 32 i0 _ 2 16 Try.underlying23 JI.out JZ0.out JZ1.out JZ2.out rfl (by decide) _ _ _ rfl R3.out ⟨bb, off, none⟩ rr.length cr (flat rr) rfl (flat_len rr) (news_pts (HR1.out.below B3.out)) (flat_one rr) (by unfold maxLen; omega) (by omega) (by omega) ?_; intro v' X3 hown' hgrow hnil; have OA := Lib.hid (only_append R3.out hgrow); have Z3 : Boxed X3 (w.heap.size + 1 + 1 + 1) 23 (.slice av ml.length cv) := boxed_only Y3.out OA.out (fun h => by have := h.1; omega); have q2 := Z3.cell; have q3 := Z3.frozen; have Z4 := Lib.hid Z3; have how2 : X3.ownsRow w2.heap.size 32 2 v' (ml ++ rr).length (flat (ml ++ rr)) := (by simpa [flat] using hown'); obtain ⟨av', cv', rfl, hcv'⟩ := owns_form how2; have HW2 := Lib.hid how2; clear hown' hgrow hnil Z3 how2))
        exact Fin.out X2 X3 _ B3.out OA.out Z4.out (by rw [← List.length_append]; exact HW2.out)
      · obtain rfl : rr = [] := List.eq_nil_of_length_eq_zero (by omega)
        gi_wp2_with (first
          | (refine ⟨trivial, ?_⟩; gi_at_call 43; refine (CallsIn.inRound l' (callsIn_wide.2 (pieceMerge_any x.1.1 x.1.2.1 x.1.2.2 x.2.1 x.2.2.1 x.2.2.2 _ HRD.out.o.1 HRD.out.a.1 HRD.out.b.1 HRD.out.o.2.1 HRD.out.a.2.1 HRD.out.b.2.1 HRD.out.o.2.2 HRD.out.a.2.2 HRD.out.b.2.2))).mono ?_; rintro e X2 ⟨rfl, hb2⟩; rw [HB.out, HPA.out]; have B3 := Lib.hid hb2; have y3 : Boxed X2 (w.heap.size + 1 + 1 + 1) 23 (.slice av ml.length cv) := (hb2.block _ H2.out.lt).trans H2.out; have q0 := y3.cell; have q1 := y3.frozen; have Y3 := Lib.hid y3; have R3 : Hid (X2.ownsRow w2.heap.size 32 2 (.slice av ml.length cv) ml.length (flat ml)) := ownsRow_only H3.out (Only.of_below hb2 (Q := fun _ _ => False)) (fun _ _ _ h => h); have hs2 := hb2.size; clear hb2 y3)
          | (gi_at_builtin; refine wpListIn_append_nothing _ (open_round l') rfl _ _ 23 rfl 32 i0 Try.underlying23 JI.out av pr ml.length cv cr hcv (by rfl) (by rfl) ?_))
        exact Fin.out X2 X2 _ B3.out (Only.refl _ _) Y3.out (by simpa using R3.out)
  case done =>
    rintro D X hD ⟨v, ml, h1, h2, h3, h4, h5, h6, h7⟩ hK
    have e2 := mg_all ((qb, cb, base), (qa, ca, a), (qc, cc, b))
    simp only at e2
    rw [h1] at e2
    have HE := Lib.hid e2
    clear e2 h1
    obtain ⟨av, cv, rfl⟩ : ∃ av cv, v = .slice av ml.length cv := by
      obtain ⟨a', cap', hv, _⟩ := owned_pts h3 rfl
      exact ⟨a', cap', hv⟩
    have q0 := h2.cell
    have q1 := h4.cell
    have q2 := h4.frozen
    have q3 := h5.cell
    have q4 := h5.frozen
    gi_wp2
    have z1 := h4.set (.slice av ml.length cv)
    have z2 : Boxed (X.setCell ⟨w.heap.size, 0, none⟩ (.slice av ml.length cv)) (w.heap.size + 1) 4 (.bool false) := Boxed.other h5 (by omega) _
    have O1 := (boxed_turn h4 (BM := w.heap.size + 1) (by omega) (.inl rfl) (.slice av ml.length cv) w.heap.size (Nat.le_refl _)).trans (boxed_turn z2 (BM := w.heap.size + 1) (by omega) (.inr rfl) (.bool true) w.heap.size (by omega))
    have z3 : Boxed ((X.setCell ⟨w.heap.size, 0, none⟩ (.slice av ml.length cv)).setCell ⟨w.heap.size + 1, 0, none⟩ (.bool true)) w.heap.size 23 (.slice av ml.length cv) := Boxed.other z1 (by omega) _
    have z4 := z2.set (.bool true)
    have hK4 := (keeps_only (B := 0) O1 (fun k o hc h => Turn.cells hc h.2)).same D _ (Nat.zero_le _) hK rfl
    have hR4 : World.ownsRow ((X.setCell ⟨w.heap.size, 0, none⟩ (.slice av ml.length cv)).setCell ⟨w.heap.size + 1, 0, none⟩ (.bool true)) w2.heap.size 32 2 (.slice av ml.length cv) ml.length (flat ml) := by
      refine ownsRow_only h3 ((Only.set X (Q := fun k _ => k ≤ w.heap.size + 1) (fun _ _ => by omega)).trans (Only.set _ (fun _ _ => by omega))) (fun g c hg h => by omega)
    generalize (X.setCell ⟨w.heap.size, 0, none⟩ (.slice av ml.length cv)).setCell ⟨w.heap.size + 1, 0, none⟩ (.bool true) = Y at *
    have hpO : Only Y (Y.putObj D (.deferred none)) (fun k _ => k = D) := Only.put Y _ (fun _ _ => rfl)
    have z5 : Boxed (Y.putObj D (.deferred none)) w.heap.size 23 (.slice av ml.length cv) := boxed_only z3 hpO (fun h => by omega)
    have z6 : Boxed (Y.putObj D (.deferred none)) (w.heap.size + 1) 4 (.bool true) := boxed_only z4 hpO (fun h => by omega)
    have hR5 : (Y.putObj D (.deferred none)).ownsRow w2.heap.size 32 2 (.slice av ml.length cv) ml.length (flat ml) := by
      obtain ⟨e1, e2⟩ := hR4
      refine ⟨e1, e2.imp id ?_⟩
      rintro ⟨g, cap, cur, e3, e4, e5, e6⟩
      refine ⟨g, cap, cur, e3, e4, hpO.block g _ e5 ?_, e6⟩
      rintro rfl
      rw [hK4] at e5
      cases e5
    have k1 := z5.cell
    have k2 := z6.cell
    refine ⟨by simp, .inl ⟨_, _, rfl, run_takeDeferred hK4, ?_⟩⟩
    refine ⟨.tuple #[.slice av ml.length cv, .bool true], by simp [results, Try.results21, go_sem, k1, k2], ?_⟩
    rw [← HE.out]
    obtain ⟨a', cap', hv, hpt, hso, hfr⟩ := owned_pts hR5 rfl
    cases hv
    refine ⟨av, cv, rfl, hpt, hso, fun y hy => ⟨?_, (hfr y hy).2⟩, (h6.trans (O1.below h6.size (fun k o h => h.1))).trans (hpO.below (Nat.le_trans h6.size O1.size) (fun k o h => by omega))⟩
    have := (hfr y hy).1
    omega
  case stop =>
    rintro D X hD ⟨h1, h4, h5, h6⟩ hK
    gi_wp2
    have hpO : Only X (X.putObj D (.deferred none)) (fun k _ => k = D) := Only.put X _ (fun _ _ => rfl)
    have z5 : Boxed (X.putObj D (.deferred none)) w.heap.size 23 (.slice none 0 0) := boxed_only h4 hpO (fun h => by omega)
    have z6 : Boxed (X.putObj D (.deferred none)) (w.heap.size + 1) 4 (.bool false) := boxed_only h5 hpO (fun h => by omega)
    have k1 := z5.cell
    have k2 := z6.cell
    refine ⟨by simp, .inl ⟨_, _, rfl, run_takeDeferred hK, ?_⟩⟩
    refine ⟨.tuple #[.slice none 0 0, .bool false], by simp [results, Try.results21, go_sem, k1, k2], ?_⟩
    rw [h1]
    exact ⟨none, 0, rfl, RowIs.none (h6.trans (hpO.below h6.size (fun k o h => by omega)))⟩

theorem implSeqMerge_any (qb qa qc : Option Addr) (cb ca cc : Nat) (base a b : List (Int × Int)) (w : World) (h1 : PtsAt w qb base) (h2 : PtsAt w qa a) (h3 : PtsAt w qc b) (l1 : base.length ≤ 1048576) (l2 : a.length ≤ 1048576) (l3 : b.length ≤ 1048576) (k1 : base.length ≤ cb) (k2 : a.length ≤ ca) (k3 : b.length ≤ cc) :
    Calls Try.prog 21 #[.slice qb base.length cb, .slice qa a.length ca, .slice qc b.length cc] w (MergeAns w (mergedOf base a b)) := by
  cases hf : fewB [base.length, a.length, b.length] with
  | false => rw [mergedOf_many hf]; exact implSeqMerge_many qb qa qc _ _ _ cb ca cc w hf l1 l2 l3
  | true =>
    rw [mergedOf_few hf]
    have hl : base.length ≤ 12 ∧ a.length ≤ 12 ∧ b.length ≤ 12 := by simpa [fewB] using hf
    exact implSeqMerge_few ((qb, cb, base), (qa, ca, a), (qc, cc, b)) w ⟨⟨h1, k1, hl.1⟩, ⟨h2, k2, hl.2.1⟩, ⟨h3, k3, hl.2.2⟩⟩
end Go.Proofs.Ytaefibefagbheaa
