/- Proved here: plain facts on the pieces into which three rows are cut, and on what is made of them; no condition. -/
import Derived.Test.YtaefibefagbheaaWSeqMath
import Derived.Test.YtaefibefagbheaaWSeqTab
import Derived.Test.YtaefibefagbheaaWSeqCutA
import Derived.Test.YtaefibefagbheaaWSeqPick
namespace Go.Proofs.Ytaefibefagbheaa
set_option linter.unusedVariables false
open Go.ChangeShapes Go.WideShapes Go.ChangeAt Go.RowKit

theorem mem_of_lookup {ps : List (Nat × Nat)} {i q : Nat} (h : ps.lookup i = some q) : (i, q) ∈ ps := by
  induction ps with
  | nil => cases h
  | cons p r ih =>
    obtain ⟨p1, p2⟩ := p
    simp only [List.lookup] at h
    by_cases e : i = p1
    · subst e
      simp only [beq_self_eq_true, Option.some.injEq] at h
      subst h
      exact List.mem_cons_self
    · rw [beq_false_of_ne e] at h
      exact List.mem_cons_of_mem _ (ih h)

theorem up2_mem {ps : List (Nat × Nat)} (h : ps.Pairwise Up2) {p q : Nat × Nat} (hp : p ∈ ps) (hq : q ∈ ps) (hlt : p.1 < q.1) : p.2 < q.2 := by
  induction ps with
  | nil => cases hp
  | cons x r ih =>
    rw [List.pairwise_cons] at h
    rcases List.mem_cons.1 hp with rfl | hp'
    · rcases List.mem_cons.1 hq with rfl | hq'
      · omega
      · exact (h.1 q hq').2
    · rcases List.mem_cons.1 hq with rfl | hq'
      · have := (h.1 p hp').1; omega
      · exact ih h.2 hp' hq'

/-- one behind the other in all three rows -/
def Up3 (t u : Nat × Nat × Nat) : Prop := t.1 < u.1 ∧ t.2.1 < u.2.1 ∧ t.2.2 < u.2.2

theorem stays_up {pa pb : List (Nat × Nat)} (ha : pa.Pairwise Up2) (hb : pb.Pairwise Up2) : (stays pa pb).Pairwise Up3 := by
  unfold stays
  induction pa with
  | nil => exact List.Pairwise.nil
  | cons p r ih =>
    rw [List.pairwise_cons] at ha
    cases hl : pb.lookup p.1 with
    | none => rw [List.filterMap_cons_none (by rw [hl]; rfl)]; exact ih ha.2
    | some q =>
      rw [List.filterMap_cons_some (by rw [hl]; rfl), List.pairwise_cons]
      refine ⟨fun u hu => ?_, ih ha.2⟩
      obtain ⟨p', hp', hu'⟩ := List.mem_filterMap.1 hu
      cases hl' : pb.lookup p'.1 with
      | none => rw [hl'] at hu'; cases hu'
      | some q' =>
        rw [hl'] at hu'
        cases hu'
        have h1 := ha.1 p' hp'
        exact ⟨h1.1, h1.2, up2_mem hb (p := (p.1, q)) (q := (p'.1, q')) (mem_of_lookup hl) (mem_of_lookup hl') h1.1⟩

/-- such a place is one point in all three rows -/
def One3 (base a b : List (Int × Int)) (t : Nat × Nat × Nat) : Prop := t.1 < base.length ∧ t.2.1 < a.length ∧ t.2.2 < b.length ∧ base[t.1]? = a[t.2.1]? ∧ base[t.1]? = b[t.2.2]?

theorem stays_one (base a b : List (Int × Int)) : ∀ t ∈ stays (prs 0 0 base a) (prs 0 0 base b), One3 base a b t := by
  intro t ht
  obtain ⟨p, hp, hu⟩ := List.mem_filterMap.1 ht
  cases hl : (prs 0 0 base b).lookup p.1 with
  | none => rw [hl] at hu; cases hu
  | some q =>
    rw [hl] at hu
    cases hu
    have h1 := prs_fit 0 0 base a p hp
    have h2 := prs_fit 0 0 base b _ (mem_of_lookup hl)
    simp only [Nat.sub_zero] at h1 h2
    exact ⟨h1.2.2.1, h1.2.2.2.1, h2.2.2.2.1, h1.2.2.2.2, h2.2.2.2.2⟩

/-- right behind such a place -/
def nx (t : Nat × Nat × Nat) : Nat × Nat × Nat := (t.1 + 1, t.2.1 + 1, t.2.2 + 1)

/-- they go on from o, each behind the one ahead -/
def Chain (base a b : List (Int × Int)) : Nat × Nat × Nat → List (Nat × Nat × Nat) → Prop
  | _, [] => True
  | o, t :: r => (o.1 ≤ t.1 ∧ o.2.1 ≤ t.2.1 ∧ o.2.2 ≤ t.2.2) ∧ One3 base a b t ∧ Chain base a b (nx t) r

theorem chain_of {base a b : List (Int × Int)} : ∀ {ts : List (Nat × Nat × Nat)} {o : Nat × Nat × Nat}, ts.Pairwise Up3 → (∀ t ∈ ts, One3 base a b t) → (∀ t ∈ ts, o.1 ≤ t.1 ∧ o.2.1 ≤ t.2.1 ∧ o.2.2 ≤ t.2.2) → Chain base a b o ts
  | [], _, _, _, _ => trivial
  | t :: r, o, hp, h1, h2 => by
    rw [List.pairwise_cons] at hp
    refine ⟨h2 t List.mem_cons_self, h1 t List.mem_cons_self, chain_of hp.2 (fun u hu => h1 u (List.mem_cons_of_mem _ hu)) fun u hu => ?_⟩
    have := hp.1 u hu
    unfold Up3 at this
    unfold nx
    simp only
    omega

theorem stays_chain (base a b : List (Int × Int)) : Chain base a b (0, 0, 0) (stays (prs 0 0 base a) (prs 0 0 base b)) :=
  chain_of (stays_up (prs_up 0 0 base a) (prs_up 0 0 base b)) (stays_one base a b) (fun _ _ => ⟨Nat.zero_le _, Nat.zero_le _, Nat.zero_le _⟩)

/-- a row in memory: where it lies, its room, its points -/
abbrev Src := Option Addr × Nat × List (Int × Int)
abbrev Src3 := Src × Src × Src
/-- a piece: the three slices, and the three lists that they read as -/
abbrev Pc := (Sl × Sl × Sl) × (List (Int × Int) × List (Int × Int) × List (Int × Int))

def slOf (s : Src) (l h : Nat) : Sl := (cutA s.1 l s.2.1, h - l, s.2.1 - l)
/-- the piece between two places -/
def ent (S : Src3) (o t : Nat × Nat × Nat) : Pc := ((slOf S.1 o.1 t.1, slOf S.2.1 o.2.1 t.2.1, slOf S.2.2 o.2.2 t.2.2), (cut S.1.2.2 o.1 t.1, cut S.2.1.2.2 o.2.1 t.2.1, cut S.2.2.2.2 o.2.2 t.2.2))
/-- the ends of all three -/
def ends (S : Src3) : Nat × Nat × Nat := (S.1.2.2.length, S.2.1.2.2.length, S.2.2.2.2.length)

/-- the pieces that end with a point that stays -/
def pcs (S : Src3) : Nat × Nat × Nat → List (Nat × Nat × Nat) → List Pc
  | _, [] => []
  | o, t :: r => ent S o (nx t) :: pcs S (nx t) r
/-- where the next begins -/
def fr : Nat × Nat × Nat → List (Nat × Nat × Nat) → Nat × Nat × Nat
  | o, [] => o
  | _, t :: r => fr (nx t) r

theorem pcs_append (S : Src3) : ∀ (l r : List (Nat × Nat × Nat)) (o : Nat × Nat × Nat), pcs S o (l ++ r) = pcs S o l ++ pcs S (fr o l) r
  | [], _, _ => rfl
  | t :: l, r, o => by simp only [List.cons_append, pcs, fr, pcs_append S l r (nx t)]
theorem fr_append : ∀ (l r : List (Nat × Nat × Nat)) (o : Nat × Nat × Nat), fr o (l ++ r) = fr (fr o l) r
  | [], _, _ => rfl
  | t :: l, r, o => by simp only [List.cons_append, fr, fr_append l r (nx t)]
theorem pcs_len (S : Src3) : ∀ (l : List (Nat × Nat × Nat)) (o : Nat × Nat × Nat), (pcs S o l).length = l.length
  | [], _ => rfl
  | t :: l, o => by simp only [pcs, List.length_cons, pcs_len S l (nx t)]

/-- all pieces -/
def allPcs (S : Src3) (ts : List (Nat × Nat × Nat)) : List Pc := pcs S (0, 0, 0) ts ++ [ent S (fr (0, 0, 0) ts) (ends S)]

theorem pcs_prefix {S : Src3} {pre ts : List (Nat × Nat × Nat)} {t : Nat × Nat × Nat} (h : pre ++ [t] <+: ts) : pcs S (0, 0, 0) pre ++ [ent S (fr (0, 0, 0) pre) (nx t)] <+: allPcs S ts := by
  obtain ⟨r, rfl⟩ := h
  unfold allPcs
  rw [List.append_assoc pre, List.singleton_append, pcs_append, pcs, List.append_assoc, List.cons_append]
  exact ⟨_, by rw [List.append_assoc, List.singleton_append]⟩

theorem chain_mid {base a b : List (Int × Int)} : ∀ {pre r : List (Nat × Nat × Nat)} {o : Nat × Nat × Nat}, Chain base a b o (pre ++ r) → Chain base a b (fr o pre) r
  | [], _, _, h => h
  | t :: l, r, o, h => chain_mid (pre := l) h.2.2

theorem chain_step {base a b : List (Int × Int)} {pre ts : List (Nat × Nat × Nat)} {t : Nat × Nat × Nat} {o : Nat × Nat × Nat} (hc : Chain base a b o ts) (h : pre ++ [t] <+: ts) :
    ((fr o pre).1 ≤ t.1 ∧ (fr o pre).2.1 ≤ t.2.1 ∧ (fr o pre).2.2 ≤ t.2.2) ∧ One3 base a b t := by
  obtain ⟨r, rfl⟩ := h
  rw [List.append_assoc, List.singleton_append] at hc
  have := chain_mid hc
  exact ⟨this.1, this.2.1⟩

theorem chain_end {base a b : List (Int × Int)} : ∀ {ts : List (Nat × Nat × Nat)} {o : Nat × Nat × Nat}, Chain base a b o ts → o.1 ≤ base.length ∧ o.2.1 ≤ a.length ∧ o.2.2 ≤ b.length → (fr o ts).1 ≤ base.length ∧ (fr o ts).2.1 ≤ a.length ∧ (fr o ts).2.2 ≤ b.length
  | [], _, _, h => h
  | t :: r, o, hc, _ => chain_end (ts := r) hc.2.2 (by
    have := hc.2.1
    unfold One3 at this
    unfold nx
    simp only
    omega)

theorem cut_len {l : List (Int × Int)} {i j : Nat} (h : j ≤ l.length) : (cut l i j).length = j - i := by
  unfold cut
  rw [List.length_drop, List.length_take]
  omega

theorem cut_all (l : List (Int × Int)) (i : Nat) : cut l i l.length = l.drop i := by unfold cut; rw [List.take_length]

/-- what a piece reads as -/
structure Reads (w : World) (p : Pc) : Prop where
  o : PtsAt w p.1.1.1 p.2.1 ∧ p.1.1.2.1 = p.2.1.length ∧ p.2.1.length ≤ 1048576
  a : PtsAt w p.1.2.1.1 p.2.2.1 ∧ p.1.2.1.2.1 = p.2.2.1.length ∧ p.2.2.1.length ≤ 1048576
  b : PtsAt w p.1.2.2.1 p.2.2.2 ∧ p.1.2.2.2.1 = p.2.2.2.length ∧ p.2.2.2.length ≤ 1048576

/-- the three rows lie there -/
structure Srcs (w : World) (S : Src3) : Prop where
  o : PtsAt w S.1.1 S.1.2.2 ∧ S.1.2.2.length ≤ S.1.2.1 ∧ S.1.2.2.length ≤ 12
  a : PtsAt w S.2.1.1 S.2.1.2.2 ∧ S.2.1.2.2.length ≤ S.2.1.2.1 ∧ S.2.1.2.2.length ≤ 12
  b : PtsAt w S.2.2.1 S.2.2.2.2 ∧ S.2.2.2.2.length ≤ S.2.2.2.1 ∧ S.2.2.2.2.length ≤ 12

theorem Srcs.below {w w' : World} {S : Src3} (h : Srcs w S) (hb : Below w.heap.size w w') : Srcs w' S := ⟨⟨h.o.1.below hb, h.o.2⟩, ⟨h.a.1.below hb, h.a.2⟩, ⟨h.b.1.below hb, h.b.2⟩⟩

theorem Srcs.reads {w : World} {S : Src3} (h : Srcs w S) {o t : Nat × Nat × Nat} (h1 : t.1 ≤ S.1.2.2.length) (h2 : t.2.1 ≤ S.2.1.2.2.length) (h3 : t.2.2 ≤ S.2.2.2.2.length) : Reads w (ent S o t) := by
  have e1 := cut_len (i := o.1) h1
  have e2 := cut_len (i := o.2.1) h2
  have e3 := cut_len (i := o.2.2) h3
  have := h.o.2.2
  have := h.a.2.2
  have := h.b.2.2
  exact ⟨⟨h.o.1.cutLH h.o.2.1 _ _, e1.symm, by simp only [ent]; rw [e1]; omega⟩, ⟨h.a.1.cutLH h.a.2.1 _ _, e2.symm, by simp only [ent]; rw [e2]; omega⟩, ⟨h.b.1.cutLH h.b.2.1 _ _, e3.symm, by simp only [ent]; rw [e3]; omega⟩⟩

/-- what is made of pieces, one behind the other -/
def mg : List Pc → Option (List (Int × Int))
  | [] => some []
  | p :: r => match pick p.2.1 p.2.2.1 p.2.2.2 with
    | none => none
    | some x => (mg r).map (x ++ ·)

theorem mg_snoc : ∀ (l : List Pc) (p : Pc), mg (l ++ [p]) = (mg l).bind fun m => (pick p.2.1 p.2.2.1 p.2.2.2).map (m ++ ·)
  | [], p => by simp only [List.nil_append, mg]; cases pick p.2.1 p.2.2.1 p.2.2.2 <;> simp
  | q :: l, p => by
    simp only [List.cons_append, mg]
    cases pick q.2.1 q.2.2.1 q.2.2.2 with
    | none => rfl
    | some x =>
      simp only [mg_snoc l p]
      cases mg l with
      | none => rfl
      | some m => cases pick p.2.1 p.2.2.1 p.2.2.2 <;> simp

theorem mg_none_append : ∀ {l : List Pc} (r : List Pc), mg l = none → mg (l ++ r) = none
  | [], _, h => by cases h
  | q :: l, r, h => by
    simp only [List.cons_append, mg] at h ⊢
    cases hp : pick q.2.1 q.2.2.1 q.2.2.2 with
    | none => rfl
    | some x =>
      rw [hp] at h
      simp only [Option.map_eq_none_iff] at h ⊢
      exact mg_none_append r h

theorem getD_of_getElem? {l l' : List (Int × Int)} {i j : Nat} (h : l[i]? = l'[j]?) : l.getD i (0, 0) = l'.getD j (0, 0) := by
  rw [List.getD_eq_getElem?_getD, List.getD_eq_getElem?_getD, h]

/-- what is made of the pieces is what two made of the row -/
theorem mg_mrg {S : Src3} : ∀ {ts : List (Nat × Nat × Nat)} {o : Nat × Nat × Nat}, Chain S.1.2.2 S.2.1.2.2 S.2.2.2.2 o ts → mg (pcs S o ts ++ [ent S (fr o ts) (ends S)]) = mrg S.1.2.2 S.2.1.2.2 S.2.2.2.2 o.1 o.2.1 o.2.2 ts
  | [], o, _ => by
    simp only [pcs, fr, List.nil_append, mg, mrg, ent, ends, cut_all]
    cases pick (S.1.2.2.drop o.1) (S.2.1.2.2.drop o.2.1) (S.2.2.2.2.drop o.2.2) <;> simp
  | t :: r, o, hc => by
    have ih := mg_mrg (S := S) (ts := r) hc.2.2
    obtain ⟨⟨g1, g2, g3⟩, ⟨l1, l2, l3, e1, e2⟩, _⟩ := hc
    simp only [pcs, fr, List.cons_append, mg, mrg]
    rw [ih]
    simp only [ent, nx]
    rw [cut_snoc _ _ _ g1 l1, cut_snoc _ _ _ g2 l2, cut_snoc _ _ _ g3 l3, ← getD_of_getElem? e1, ← getD_of_getElem? e2, pick_snoc]
    cases pick (cut S.1.2.2 o.1 t.1) (cut S.2.1.2.2 o.2.1 t.2.1) (cut S.2.2.2.2 o.2.2 t.2.2) with
    | none => rfl
    | some x => simp

theorem mg_all (S : Src3) : mg (allPcs S (stays (prs 0 0 S.1.2.2 S.2.1.2.2) (prs 0 0 S.1.2.2 S.2.2.2.2))) = merged S.1.2.2 S.2.1.2.2 S.2.2.2.2 :=
  mg_mrg (stays_chain S.1.2.2 S.2.1.2.2 S.2.2.2.2)
end Go.Proofs.Ytaefibefagbheaa
