/- Proved here: the program's SeqMerge answers what two made of a row, in memory of its own; rows of at most 1,048,576 points. -/
import Derived.Test.YtaefibefagbheaaWSeqPieces
namespace Go.Proofs.Ytaefibefagbheaa
set_option linter.unusedVariables false
open Go.ChangeShapes Go.WideShapes Go.ChangeAt Go.RowKit Go.Deep Go.Shelf Go.Maps

attribute [local go_sem] Oper.semAt_some

/-- appending nothing -/
theorem run_append_nothing {P : Program} (w : World) (t ty e : TypeId) (i : TypeInfo) (ht : P.underlying t = some (.slice e)) (hi : P.info? e = some i) (a b : Option Addr) (n c d : Nat) (h : n ≤ c) :
    (Builtin.append_ #[t, t] ty #[.slice a n c, .slice b 0 d]).run P w = .ok (.slice a n c) w := by
  cases a <;> cases b <;> simp [Builtin.append_, run_underlying ht, sizeOf, typeInfo, hi, Builtin.lenOf, Builtin.firstCells, loadCells, loadCellsFrom, storeCells, h]

theorem wpListIn_append_nothing {F : Fence} {n : Nat} {P : Program} (w : World) {ops : Array Oper} {rest : List Oper} {o : Oper} {a : Act} {Q : Exit → Act → World → Prop} (hF : Open F)
    (hg : o.guard = none) (s x : Operand) (t : TypeId) (hop : o.op = Op.call { callee := Callee.builtin Builtin.append, args := #[s, x], argTypes := #[t, t] }) (e : TypeId) (i : TypeInfo) (ht : P.underlying t = some (.slice e)) (hi : P.info? e = some i)
    (p q : Option Addr) (k c d : Nat) (h : k ≤ c) (hs : a.eval s = .slice p k c) (hx : a.eval x = .slice q 0 d) (hK : wpListIn F n P ops Q rest (a.put o.dst (.slice p k c)) w) :
    wpListIn F n P ops Q (o :: rest) a w := by
  refine wpListIn_plain hg fun K hK' => ?_
  have hr := run_append_nothing (P := P) w t o.type e i ht hi p q k c d h
  refine ⟨fun f _ => hF.fn f, ?_⟩
  rw [Oper.semAt_eq _ _ _ (by rw [hop]; intro c hc'; cases hc')]
  unfold execOp
  simp only [hop, resolve, invoke, builtin, Sem.run_bind, Sem.run_pure, Result.andThen_ok, List.map_toArray, List.map_cons, List.map_nil, hs, hx, hr]
  exact hK' _ _ hK

theorem flat_one (ps : List (Int × Int)) : ∀ u ∈ flat ps, u.oneCell' = true := by
  intro u hu
  simp only [flat, List.mem_flatMap] at hu
  obtain ⟨p, _, hp⟩ := hu
  simp only [List.mem_cons, List.not_mem_nil, or_false] at hp
  rcases hp with rfl | rfl <;> rfl

/-- the cells of a row of points, as an append reads them -/
theorem news_pts {w : World} {b off : Nat} {ps : List (Int × Int)} (h : PtsAt w (some ⟨b, off, none⟩) ps) : ∀ j u, (flat ps)[j]? = some u → w.cell? ((⟨b, off, none⟩ : Addr).add j) = some u := by
  intro j u hu
  have hj : j < (flat ps).length := (List.getElem?_eq_some_iff.1 hu).1
  rw [flat_len] at hj
  obtain ⟨b', off', e, _, h1, h2⟩ := h (j / 2) (by omega)
  obtain ⟨rfl, rfl⟩ : b = b' ∧ off = off' := by simpa using e
  obtain ⟨e1, e2⟩ := flat_at ps (j / 2) (by omega)
  rw [Addr.add_mid]
  rcases Nat.mod_two_eq_zero_or_one j with hm | hm
  · have hj2 : j / 2 * 2 = j := by omega
    rw [hj2] at e1 h1
    rw [e1] at hu
    rw [h1]
    exact hu
  · have hj2 : j / 2 * 2 + 1 = j := by omega
    rw [hj2] at e2
    rw [Nat.add_assoc, hj2] at h2
    rw [e2] at hu
    rw [h2]
    exact hu

/-- what a function that makes one row of three answers -/
def MergeAns (w : World) (r : Option (List (Int × Int))) (e : Ending) (w' : World) : Prop :=
  ∃ a cap, e = .returned (.tuple #[.slice a (r.getD []).length cap, .bool r.isSome]) ∧ RowIs w a (r.getD []) w'

/-- what two made of a row, none of rows that are too long -/
def mergedOf (base a b : List (Int × Int)) : Option (List (Int × Int)) := if fewB [base.length, a.length, b.length] = true then merged base a b else none

theorem mergedOf_few {base a b : List (Int × Int)} (h : fewB [base.length, a.length, b.length] = true) : mergedOf base a b = merged base a b := if_pos h
theorem mergedOf_many {base a b : List (Int × Int)} (h : fewB [base.length, a.length, b.length] = false) : mergedOf base a b = none := by unfold mergedOf; rw [h]; rfl

theorem reads_pcs {w : World} {S : Src3} (h : Srcs w S) : ∀ {ts : List (Nat × Nat × Nat)} {o : Nat × Nat × Nat}, Chain S.1.2.2 S.2.1.2.2 S.2.2.2.2 o ts → ∀ p ∈ pcs S o ts, Reads w p
  | [], _, _, p, hp => by cases hp
  | t :: r, o, hc, p, hp => by
    rcases List.mem_cons.1 hp with rfl | hp
    · have := hc.2.1
      unfold One3 at this
      exact h.reads (by simp only [nx]; omega) (by simp only [nx]; omega) (by simp only [nx]; omega)
    · exact reads_pcs h hc.2.2 p hp

theorem reads_all {w : World} {S : Src3} (h : Srcs w S) : ∀ p ∈ allPcs S (stays (prs 0 0 S.1.2.2 S.2.1.2.2) (prs 0 0 S.1.2.2 S.2.2.2.2)), Reads w p := by
  intro p hp
  unfold allPcs at hp
  rcases List.mem_append.1 hp with hp | hp
  · exact reads_pcs h (stays_chain _ _ _) p hp
  · obtain rfl : p = _ := by simpa using hp
    exact h.reads (Nat.le_refl _) (Nat.le_refl _) (Nat.le_refl _)

/-- pieces are short -/
def Short (p : Pc) : Prop := p.2.1.length ≤ 12 ∧ p.2.2.1.length ≤ 12 ∧ p.2.2.2.length ≤ 12

theorem cut_le (l : List (Int × Int)) (i j : Nat) : (cut l i j).length ≤ l.length := by unfold cut; rw [List.length_drop, List.length_take]; omega

theorem short_pcs {S : Src3} (h1 : S.1.2.2.length ≤ 12) (h2 : S.2.1.2.2.length ≤ 12) (h3 : S.2.2.2.2.length ≤ 12) : ∀ (ts : List (Nat × Nat × Nat)) (o : Nat × Nat × Nat), ∀ p ∈ pcs S o ts, Short p
  | [], _, p, hp => by cases hp
  | t :: r, o, p, hp => by
    rcases List.mem_cons.1 hp with rfl | hp
    · exact ⟨Nat.le_trans (cut_le _ _ _) h1, Nat.le_trans (cut_le _ _ _) h2, Nat.le_trans (cut_le _ _ _) h3⟩
    · exact short_pcs h1 h2 h3 r _ p hp

theorem short_all {S : Src3} (h1 : S.1.2.2.length ≤ 12) (h2 : S.2.1.2.2.length ≤ 12) (h3 : S.2.2.2.2.length ≤ 12) (ts : List (Nat × Nat × Nat)) : ∀ p ∈ allPcs S ts, Short p := by
  intro p hp
  unfold allPcs at hp
  rcases List.mem_append.1 hp with hp | hp
  · exact short_pcs h1 h2 h3 ts _ p hp
  · obtain rfl : p = _ := by simpa using hp
    exact ⟨Nat.le_trans (cut_le _ _ _) h1, Nat.le_trans (cut_le _ _ _) h2, Nat.le_trans (cut_le _ _ _) h3⟩

theorem pick_le {o a b r : List (Int × Int)} (ha : a.length ≤ 12) (hb : b.length ≤ 12) (h : pick o a b = some r) : r.length ≤ 12 := by
  unfold pick at h
  split at h
  · cases h; exact hb
  · split at h
    · cases h; exact ha
    · split at h
      · cases h; exact ha
      · cases h

theorem mg_le : ∀ {l : List Pc} {m : List (Int × Int)}, (∀ p ∈ l, Short p) → mg l = some m → m.length ≤ 12 * l.length
  | [], m, _, h => by cases h; simp
  | p :: l, m, hs, h => by
    simp only [mg] at h
    cases hp : pick p.2.1 p.2.2.1 p.2.2.2 with
    | none => rw [hp] at h; cases h
    | some x =>
      rw [hp] at h
      simp only [Option.map_eq_some_iff] at h
      obtain ⟨m', hm, rfl⟩ := h
      have h1 := mg_le (fun q hq => hs q (List.mem_cons_of_mem _ hq)) hm
      have h2 := hs p List.mem_cons_self
      have h3 := pick_le h2.2.1 h2.2.2 hp
      simp only [List.length_append, List.length_cons]
      omega

theorem stays_len (pa pb : List (Nat × Nat)) : (stays pa pb).length ≤ pa.length := List.length_filterMap_le _ _

theorem all_len {S : Src3} (h1 : S.1.2.2.length ≤ 12) : (allPcs S (stays (prs 0 0 S.1.2.2 S.2.1.2.2) (prs 0 0 S.1.2.2 S.2.2.2.2))).length ≤ 13 := by
  unfold allPcs
  rw [List.length_append, pcs_len]
  have := stays_len (prs 0 0 S.1.2.2 S.2.1.2.2) (prs 0 0 S.1.2.2 S.2.2.2.2)
  rw [prs_len] at this
  have := lcs_le S.1.2.2 S.2.1.2.2
  simp
  omega

/-- a piece, in a box -/
def PBox (W : World) (B : Nat) (p : Pc) : Prop := W.heap[B]? = some (.cells #[slV p.1.1, slV p.1.2.1, slV p.1.2.2] 63 (0, 0))

theorem PBox.cells {W : World} {B : Nat} {p : Pc} (h : PBox W B p) : W.cell? ⟨B, 0, none⟩ = some (slV p.1.1) ∧ W.cell? ⟨B, 1, none⟩ = some (slV p.1.2.1) ∧ W.cell? ⟨B, 2, none⟩ = some (slV p.1.2.2) := by
  simp [World.cell?, show W.heap[B]? = _ from h]
theorem PBox.lt {W : World} {B : Nat} {p : Pc} (h : PBox W B p) : B < W.heap.size := (Array.getElem?_eq_some_iff.1 h).1
theorem PBox.only {A C : World} {Q : Nat → Obj → Prop} {B : Nat} {p : Pc} (h : PBox A B p) (ho : Only A C Q) (hn : ∀ c fz, ¬ Q B (.cells c 63 fz)) : PBox C B p := ho.block B _ h (hn _ _)

theorem results_cell2 {fn : Func} {p q : Tmp} {t u : TypeId} (h : fn.results = #[.cell p t, .cell q u]) (tmps : Array Value) (P : Program) (w : World) :
    (results fn tmps).run P w = ((asAddr (tmps.getD p undef)).run P w).andThen fun a w₁ => ((loadVar t a).run P w₁).andThen fun v w₂ => ((asAddr (tmps.getD q undef)).run P w₂).andThen fun b w₃ => ((loadVar u b).run P w₃).andThen fun x w₄ => .ok (.tuple #[v, x]) w₄ := by
  simp only [results, h]
  simp [Sem.run_bind, Result.andThen]
end Go.Proofs.Ytaefibefagbheaa
