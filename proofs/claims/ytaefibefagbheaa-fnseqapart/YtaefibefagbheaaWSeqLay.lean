/- Proved here: how rows of points are laid by appends, and cut, while a reader goes on beside them: what is kept; rows of at most 1,000,000 points. -/
import Derived.Test.YtaefibefagbheaaWOpenC
import Derived.Test.YtaefibefagbheaaWDrawPt
import Derived.Test.YtaefibefagbheaaWSeqGrow
import Derived.Test.YtaefibefagbheaaWSeqCutA
import Derived.Deep.RegionLaw
namespace Go.Proofs.Ytaefibefagbheaa
set_option linter.unusedVariables false
open Go.ChangeShapes Go.WideShapes Go.ChangeAt Go.RowKit

/-- no point lies far off -/
def Near (ps : List (Int × Int)) : Prop := ∀ p ∈ ps, p.1 ≤ 50

theorem Near.nil : Near [] := fun p h => by cases h
theorem Near.app {a b : List (Int × Int)} (ha : Near a) (hb : Near b) : Near (a ++ b) := fun p h => (List.mem_append.1 h).elim (ha p) (hb p)
theorem Near.take {a : List (Int × Int)} (ha : Near a) (k : Nat) : Near (a.take k) := fun p h => ha p (List.mem_of_mem_take h)
theorem Near.drop {a : List (Int × Int)} (ha : Near a) (k : Nat) : Near (a.drop k) := fun p h => ha p (List.mem_of_mem_drop h)
theorem Near.one {x y : Int} (h : x ≤ 50) : Near [(x, y)] := fun p hp => by rw [List.mem_singleton] at hp; subst hp; exact h
theorem Near.not {a : List (Int × Int)} (ha : Near a) {p : Int × Int} (h : 50 < p.1) : p ∉ a := fun hp => by have := ha p hp; omega

/-- a row of its own that is laid by appends, beside a reader -/
structure LayR (W : World) (R : Nat) (qs : List (Int × Int)) (wr : World) (v : Value) : Prop where
  own : wr.ownsRow W.heap.size 32 2 v qs.length (flat qs)
  grown : W.grownBy wr (some R)
  lt : R < W.heap.size

theorem LayR.far {W wr : World} {R : Nat} {qs : List (Int × Int)} {v : Value} (h : LayR W R qs wr v) {j : Nat} (hj : v.ownBlock = some j) : W.heap.size ≤ j ∧ j < wr.heap.size := h.own.lt j hj

/-- something else is written -/
theorem LayR.kept {W wr w1 : World} {R : Nat} {qs : List (Int × Int)} {v : Value} (h : LayR W R qs wr v) {b : Option Nat} (hg : wr.grownBy w1 b) (hb : ∀ j, b = some j → W.heap.size ≤ j ∨ j = R) (hne : ∀ j, b = some j → v.ownBlock ≠ some j) : LayR W R qs w1 v := by
  refine ⟨World.ownsRow.kept h.own hg ?_, h.grown.andThen hg fun j e => ?_, h.lt⟩
  · cases b with
    | none => cases hv : v.ownBlock <;> simp
    | some j => exact .inr (hne j rfl)
  · rcases hb j e with h1 | h1
    · exact .inl h1
    · exact .inr (by rw [h1])

/-- the reader goes on, or memory is made -/
theorem LayR.read {W wr w1 : World} {R : Nat} {qs : List (Int × Int)} {v : Value} (h : LayR W R qs wr v) (hg : wr.grownBy w1 (some R)) : LayR W R qs w1 v :=
  h.kept hg (fun j e => .inr (by simpa using e.symm)) fun j e e' => by
    obtain rfl : R = j := by simpa using e
    have := (h.far e').1
    have := h.lt
    omega

theorem LayR.below {W wr w1 : World} {R : Nat} {qs : List (Int × Int)} {v : Value} (h : LayR W R qs wr v) (hb : Below wr.heap.size wr w1) : LayR W R qs w1 v := h.read (grown_of_below hb)
theorem LayR.alloc {W wr : World} {R : Nat} {qs : List (Int × Int)} {v : Value} (h : LayR W R qs wr v) (o : Obj) : LayR W R qs (wr.alloc o) v := h.read (World.grownBy_alloc wr o (some R))
theorem LayR.drawn {W wr : World} {R : Nat} {qs : List (Int × Int)} {v : Value} (h : LayR W R qs wr v) (n : Nat) : LayR W R qs (wr.drewN n) v := ⟨h.own, ⟨h.grown.os, h.grown.tape, h.grown.output, h.grown.size, h.grown.block⟩, h.lt⟩
theorem LayR.drawn1 {W wr : World} {R : Nat} {qs : List (Int × Int)} {v : Value} (h : LayR W R qs wr v) : LayR W R qs wr.drew v := ⟨h.own, ⟨h.grown.os, h.grown.tape, h.grown.output, h.grown.size, h.grown.block⟩, h.lt⟩

theorem LayR.lit {W wr : World} {R : Nat} (hg : W.grownBy wr (some R)) (hR : R < W.heap.size) : LayR W R [] (wr.alloc (.cells #[] 32)) (.slice (some ⟨wr.heap.size, 0, none⟩) 0 0) :=
  ⟨World.ownsRow.mono (World.ownsRow_lit wr #[] 0 (Nat.le_refl _) (Nat.zero_le _) (by simp)) hg.size, hg.trans (World.grownBy_alloc wr _ _), hR⟩

theorem LayR.form {W wr : World} {R : Nat} {qs : List (Int × Int)} {v : Value} (h : LayR W R qs wr v) : ∃ a c, v = .slice a qs.length c ∧ qs.length ≤ c ∧ c ≤ maxLen ∧ cutA a 0 c = a := by
  obtain ⟨_, ⟨rfl, h2⟩ | ⟨g, cap, cur, rfl, _, _, hc, hm, _⟩⟩ := h.own
  · exact ⟨none, 0, by rw [h2], by omega, Nat.zero_le _, by simp [cutA]⟩
  · exact ⟨_, cap, rfl, hc, hm, cutA_zero _ _ fun x e => ⟨g, 0, by simpa using e.symm⟩⟩

theorem LayR.pts {W wr : World} {R : Nat} {qs : List (Int × Int)} {a : Option Addr} {c : Nat} (h : LayR W R qs wr (.slice a qs.length c)) : PtsAt wr a qs ∧ Soft wr a qs.length ∧ ∀ x, blk a = some x → W.heap.size ≤ x ∧ x < wr.heap.size := by
  obtain ⟨a', c', e, h1, h2, h3⟩ := owned_pts h.own rfl
  cases e
  exact ⟨h1, h2, h3⟩

theorem flat_cat (a b : List (Int × Int)) : flat (a ++ b) = flat a ++ flat b := by simp [flat]

theorem flat_take (qs : List (Int × Int)) (k : Nat) (h : k ≤ qs.length) : (flat qs).take (k * 2) = flat (qs.take k) := by
  conv => lhs; rw [← List.take_append_drop k qs, flat_cat]
  exact List.take_left' (by rw [flat_len, List.length_take]; omega)

/-- the first so many of a row -/
theorem LayR.cutHi {W wr : World} {R : Nat} {qs : List (Int × Int)} {a : Option Addr} {c : Nat} (h : LayR W R qs wr (.slice a qs.length c)) {k : Nat} (hk : k ≤ qs.length) : LayR W R (qs.take k) wr (.slice a k c) := by
  have hl : (qs.take k).length = k := by rw [List.length_take]; omega
  refine ⟨?_, h.grown, h.lt⟩
  obtain ⟨_, ⟨e, h2⟩ | ⟨g, cap, cur, e, hb, hg, hc, hm, hs, hx⟩⟩ := h.own
  · have h0 : k = 0 := by omega
    subst h0
    obtain ⟨rfl, h3, rfl⟩ : a = none ∧ qs.length = 0 ∧ c = 0 := by simpa using e
    exact ⟨by simp [flat], .inl ⟨rfl, by simp⟩⟩
  · cases e
    refine ⟨by rw [flat_len], .inr ⟨g, c, cur, by rw [hl], hb, hg, by omega, hm, hs, ?_⟩⟩
    rw [hl, ← flat_take qs k hk, ← hx, List.take_take]
    congr 1
    omega

/-- points are appended -/
theorem LayR.more {W wr wb wa : World} {R : Nat} {qs ps : List (Int × Int)} {v v' : Value} {n : Nat} (h : LayR W R qs wr v) (hb : Below wr.heap.size wr wb) (hn : n = qs.length + ps.length)
    (hown : wa.ownsRow W.heap.size 32 2 v' n (flat qs ++ flat ps)) (hg : wb.grownBy wa v.ownBlock) : LayR W R (qs ++ ps) wa v' := by
  subst hn
  refine ⟨?_, (h.grown.trans (grown_of_below hb)).andThen hg fun j e => .inl (h.far e).1, h.lt⟩
  rw [flat_cat, List.length_append]
  exact hown

/-- where what an append answers lies -/
def NewAt (v : Value) (wb : World) (v' : Value) : Prop := ∀ x, v'.ownBlock = some x → v.ownBlock = some x ∨ wb.heap.size ≤ x

/-- at the list of a plain region's operations -/
theorem wpList_layr {ops : Array Oper} {rest : List Oper} {o : Oper} {a : Act} {Q : Exit → Act → World → Prop} {W0 W : World} {R : Nat} {ml p : List (Int × Int)} {v : Value} {pr : Option Addr} {np cr : Nat}
    (hg : o.guard = none) (s x : Operand) (hop : o.op = Op.call { callee := Callee.builtin Builtin.append, args := #[s, x], argTypes := #[23, 23] })
    (hL : LayR W0 R ml W v) (hp : PtsAt W pr p) (hs : a.eval s = v) (hx : a.eval x = .slice pr np cr) (hnp : np = p.length) (hb : ml.length + p.length ≤ 1000000)
    (hK : ∀ r a' c' W', Hid (r = ml ++ p) → Hid (LayR W0 R r W' (.slice a' r.length c')) → Hid (W.grownBy W' v.ownBlock) → Hid (NewAt v W (.slice a' r.length c')) → wpList Try.prog ops Q rest (a.put o.dst (.slice a' r.length c')) W') :
    wpList Try.prog ops Q (o :: rest) a W := by
  subst hnp
  obtain ⟨i0, hi, hz0, hz1, hz2⟩ := info_parts infoPt
  by_cases h0 : 0 < p.length
  · obtain ⟨b, off, rfl, hlt, _, _⟩ := hp 0 h0
    refine wpList_append_lies W hg s x 23 hop W0.heap.size 32 i0 _ 2 16 Try.underlying23 hi hz0 hz1 hz2 rfl (by omega) v ml.length (flat ml) hs hL.own ⟨b, off, none⟩ p.length cr (flat p) hx (flat_len p) (news_pts hp) (flat_one p) h0 (by unfold maxLen; omega) (by omega) hL.grown.size W.heap.size rfl ?_
    intro g cap w' hown hgrow hat _
    have := hL.more (Below.refl _ _) rfl hown hgrow
    rw [← List.length_append] at this ⊢
    exact hK _ _ _ _ rfl this hgrow (fun y hy => by
      obtain rfl : g = y := by simpa [Value.ownBlock] using hy
      exact hat.imp id fun e => by omega)
  · obtain rfl : p = [] := List.eq_nil_of_length_eq_zero (by omega)
    obtain ⟨av, cv, rfl, hcv, _⟩ := hL.form
    refine wpList_append_nothing W hg s x 23 hop 32 i0 Try.underlying23 hi av pr ml.length cv cr hcv hs hx ?_
    exact hK ml av cv W (by show _ = _; rw [List.append_nil]) hL (World.grownBy.refl _ _) fun y hy => .inl hy

theorem step_append_nothing {P : Program} {ops : Array Oper} {o : Oper} {a : Act} {K : Act → World → Prop} {Q : Exit → Act → World → Prop} {E : Prop} (w : World)
    (hg : o.guard = none) (s x : Operand) (t : TypeId) (hop : o.op = Op.call { callee := Callee.builtin Builtin.append, args := #[s, x], argTypes := #[t, t] }) (e : TypeId) (i : TypeInfo) (ht : P.underlying t = some (.slice e)) (hi : P.info? e = some i)
    (p q : Option Addr) (k c d : Nat) (h : k ≤ c) (hs : a.eval s = .slice p k c) (hx : a.eval x = .slice q 0 d) (hK : K (a.put o.dst (.slice p k c)) w) :
    if Region.wanted o (yielded ops a.tmps) = true then Oper.wp P o a w K Q else E := by
  have hw : Region.wanted o (yielded ops a.tmps) = true := by simp [Region.wanted, hg]
  rw [if_pos hw]
  have hr := run_append_nothing (P := P) w t o.type e i ht hi p q k c d h
  unfold Oper.wp execOp
  simp only [hop, resolve, invoke, builtin, Sem.run_bind, Sem.run_pure, Result.andThen_ok, List.map_toArray, List.map_cons, List.map_nil, hs, hx, hr]
  exact hK

/-- at a step of a region that draws its order -/
theorem step_layr {ops : Array Oper} {o : Oper} {a : Act} {K : Act → World → Prop} {Q : Exit → Act → World → Prop} {E : Prop} {W0 W : World} {R : Nat} {ml p : List (Int × Int)} {v : Value} {pr : Option Addr} {np cr : Nat}
    (hg : o.guard = none) (s x : Operand) (hop : o.op = Op.call { callee := Callee.builtin Builtin.append, args := #[s, x], argTypes := #[23, 23] })
    (hL : LayR W0 R ml W v) (hp : PtsAt W pr p) (hs : a.eval s = v) (hx : a.eval x = .slice pr np cr) (hnp : np = p.length) (hb : ml.length + p.length ≤ 1000000)
    (hK : ∀ r a' c' W', Hid (r = ml ++ p) → Hid (LayR W0 R r W' (.slice a' r.length c')) → Hid (W.grownBy W' v.ownBlock) → Hid (NewAt v W (.slice a' r.length c')) → K (a.put o.dst (.slice a' r.length c')) W') :
    if Region.wanted o (yielded ops a.tmps) = true then Oper.wp Try.prog o a W K Q else E := by
  subst hnp
  obtain ⟨i0, hi, hz0, hz1, hz2⟩ := info_parts infoPt
  by_cases h0 : 0 < p.length
  · obtain ⟨b, off, rfl, hlt, _, _⟩ := hp 0 h0
    refine step_append_lies W hg s x 23 hop W0.heap.size 32 i0 _ 2 16 Try.underlying23 hi hz0 hz1 hz2 rfl (by omega) v ml.length (flat ml) hs hL.own ⟨b, off, none⟩ p.length cr (flat p) hx (flat_len p) (news_pts hp) (flat_one p) h0 (by unfold maxLen; omega) (by omega) hL.grown.size W.heap.size rfl ?_
    intro g cap w' hown hgrow hat _
    have := hL.more (Below.refl _ _) rfl hown hgrow
    rw [← List.length_append] at this ⊢
    exact hK _ _ _ _ rfl this hgrow (fun y hy => by
      obtain rfl : g = y := by simpa [Value.ownBlock] using hy
      exact hat.imp id fun e => by omega)
  · obtain rfl : p = [] := List.eq_nil_of_length_eq_zero (by omega)
    obtain ⟨av, cv, rfl, hcv, _⟩ := hL.form
    refine step_append_nothing W hg s x 23 hop 32 i0 Try.underlying23 hi av pr ml.length cv cr hcv hs hx ?_
    exact hK ml av cv W (by show _ = _; rw [List.append_nil]) hL (World.grownBy.refl _ _) fun y hy => .inl hy

/-- a reader beside a write -/
theorem Rd.past {W w w' : World} {R : Nat} {a : Option Addr} {len cap : Nat} {p : Int} {b : Option Nat} (h : Rd w R a len cap p) (hg : w.grownBy w' b) (hR : R < W.heap.size) (hc : CodeLt a len W.heap.size) (hb : ∀ j, b = some j → W.heap.size ≤ j) : Rd w' R a len cap p :=
  h.kept hg (fun e => by have := hb R e; omega) fun i hi e => by
    obtain ⟨x, off, c, e', _⟩ := h.bytes i hi
    have hx : blk a = some x := by rw [e']; rfl
    have := hb x (by rw [← e, hx])
    have := hc i hi x hx
    omega

/-- a row that is read, beside a write -/
theorem PtsAt.past {w w' : World} {a : Option Addr} {ps : List (Int × Int)} {b : Option Nat} (h : PtsAt w a ps) (hg : w.grownBy w' b) (hne : ∀ j, blk a = some j → b ≠ some j) : PtsAt w' a ps := by
  by_cases h0 : 0 < ps.length
  · obtain ⟨x, off, rfl, _⟩ := h 0 h0
    exact h.grown hg (.inr fun e => hne x rfl e.symm)
  · exact h.grown hg (.inl (by omega))

theorem PtsAt.dr1 {w : World} {a : Option Addr} {ps : List (Int × Int)} (h : PtsAt w a ps) : PtsAt w.drew a ps := h

/-- what drawing a row leaves -/
def RowDrawn (w : World) (R : Nat) (a : Option Addr) (len cap : Nat) (p : Int) (n : Nat) (k : Int) (e : Ending) (w' : World) : Prop :=
  ∃ (a2 : Option Addr) (c2 : Nat) (ps : List (Int × Int)) (p' : Int), e = .returned (.slice a2 ps.length c2) ∧ LayR w R ps w' (.slice a2 ps.length c2) ∧ ps.length ≤ n ∧ Near ps ∧ Rd w' R a len cap p' ∧ p' ≤ p + k
end Go.Proofs.Ytaefibefagbheaa
