/- Proved here: a loop over an iterator of the program's own, which may turn boxes of its own between its rounds: from what the iterator hands over, in its order, and what one round does, to what the loop does; no condition. -/
import Derived.RangeFuncNested
import Derived.RangeFuncBound
import Derived.RangeFuncCalls
import Derived.RangeFuncLeaves
import Derived.RangeFuncBox
import Derived.Shelf.Abstract
import Derived.Shelf.RegionOpen
import Derived.WalkKit
import Derived.OwnWalkIn
import Derived.TacticsInMore
import Derived.LoopNIn
import Derived.LoopIn
import Derived.Maps.AppendAt
import Derived.Maps.Own
import Derived.Test.YtccgbengfmlgbaaGreatWBase
namespace Go.Proofs.YtccgbengfmlgbaaGreat
set_option linter.unusedVariables false
open Go.ChangeShapes Go.WideShapes Go.ChangeAt Go.RowKit Go.Deep Go.Shelf

/-- of the blocks that lay there only such have turned -/
structure Only (A C : World) (Q : Nat → Obj → Prop) : Prop where
  os : C.os = A.os
  tape : C.tape = A.tape
  output : C.output = A.output
  size : A.heap.size ≤ C.heap.size
  block : ∀ k o, A.heap[k]? = some o → ¬ Q k o → C.heap[k]? = some o

theorem Only.refl (A : World) (Q : Nat → Obj → Prop) : Only A A Q := ⟨rfl, rfl, rfl, Nat.le_refl _, fun _ _ h _ => h⟩
theorem Only.trans {A B C : World} {Q : Nat → Obj → Prop} (h : Only A B Q) (k : Only B C Q) : Only A C Q :=
  ⟨k.os.trans h.os, k.tape.trans h.tape, k.output.trans h.output, Nat.le_trans h.size k.size, fun i o hi hn => k.block i o (h.block i o hi hn) hn⟩
theorem Only.mono {A C : World} {Q Q' : Nat → Obj → Prop} (h : Only A C Q) (hq : ∀ k o, Q k o → Q' k o) : Only A C Q' :=
  ⟨h.os, h.tape, h.output, h.size, fun k o hk hn => h.block k o hk (fun q => hn (hq k o q))⟩
theorem Only.of_below {A C : World} {Q : Nat → Obj → Prop} (h : Below A.heap.size A C) : Only A C Q :=
  ⟨h.os, h.tape, h.output, h.size, fun k o hk _ => (h.block k (Array.getElem?_eq_some_iff.1 hk).1).trans hk⟩
theorem Only.of_grown {A C : World} {Q : Nat → Obj → Prop} {row : Option Nat} (h : A.grownBy C row) (hr : ∀ r o, row = some r → A.heap[r]? = some o → Q r o) : Only A C Q :=
  ⟨h.os, h.tape, h.output, h.size, fun k o hk hn => (h.block k (Array.getElem?_eq_some_iff.1 hk).1 (fun e => hn (hr k o e.symm hk))).trans hk⟩
theorem Only.put (A : World) {Q : Nat → Obj → Prop} {l : Nat} (o' : Obj) (hq : ∀ o, A.heap[l]? = some o → Q l o) : Only A (A.putObj l o') Q :=
  Only.of_grown (grownBy_putObj' A l o') (fun r o e h => by cases e; exact hq o h)
theorem Only.set (A : World) {Q : Nat → Obj → Prop} {b i : Nat} {v : Value} (hq : ∀ o, A.heap[b]? = some o → Q b o) : Only A (A.setCell ⟨b, i, none⟩ v) Q :=
  Only.of_grown (row := some b) ⟨rfl, rfl, rfl, by simp [World.setCell], fun k _ hne => Below.heap_setCell _ _ _ _ (fun e => hne (by rw [e]))⟩ (fun r o e h => by cases e; exact hq o h)
theorem Only.below {A C : World} {Q : Nat → Obj → Prop} {B : Nat} (h : Only A C Q) (hB : B ≤ A.heap.size) (hq : ∀ k o, Q k o → B ≤ k) : Below B A C :=
  ⟨h.os, h.tape, h.output, h.size, fun k hk => by
    have hlt : k < A.heap.size := by omega
    have e : A.heap[k]? = some A.heap[k] := Array.getElem?_eq_getElem hlt
    rw [e]
    exact h.block k _ e (fun q => by have := hq k _ q; omega)⟩
theorem Only.cells {A C : World} {Q : Nat → Obj → Prop} {k : Nat} {o : Obj} (h : Only A C Q) (hk : A.heap[k]? = some o) (hn : ¬ Q k o) : C.heap[k]? = A.heap[k]? := (h.block k o hk hn).trans hk.symm

/-- what is said of a world stays said of it, whatever such blocks turn -/
def Bides {β : Type} (Q : Nat → Obj → Prop) (J : β → World → Prop) : Prop := ∀ s A C, J s A → Only A C Q → J s C

theorem Bides.mono {β : Type} {Q Q' : Nat → Obj → Prop} {J : β → World → Prop} (h : Bides Q J) (hq : ∀ k o, Q' k o → Q k o) : Bides Q' J := fun s A C hs ho => h s A C hs (ho.mono hq)

/-- a box, a row, a map that none may turn -/
theorem boxed_only {A C : World} {Q : Nat → Obj → Prop} {B : Nat} {t : TypeId} {v : Value} (h : Boxed A B t v) (ho : Only A C Q) (hn : ¬ Q B (.cells #[v] t (0, 0))) : Boxed C B t v := ho.block B _ h hn

theorem ownsRow_only {A C : World} {Q : Nat → Obj → Prop} {base : Nat} {t : TypeId} {size : Nat} {v : Value} {n : Nat} {xs : List Value} (h : A.ownsRow base t size v n xs) (ho : Only A C Q) (hn : ∀ g c, base ≤ g → ¬ Q g (.cells c t (0, 0))) : C.ownsRow base t size v n xs := by
  refine ⟨h.1, h.2.imp id ?_⟩
  rintro ⟨g, cap, cur, h1, h2, h3, h4⟩
  exact ⟨g, cap, cur, h1, h2, ho.block g _ h3 (hn g cur h2), h4⟩

theorem ownsMap_only {H : Type} {A C : World} {Q : Nat → Obj → Prop} {P : Program} {k : TypeId} {R : Value → Option (DataW H × List MemPlace)} {b n : Nat} {D : DataW H} (h : A.ownsMap P k R b n D) (ho : Only A C Q) (hn : ∀ es c, ¬ Q b (.map es c)) : C.ownsMap P k R b n D := by
  obtain ⟨es, clock, hb, h2⟩ := h
  exact ⟨es, clock, ho.block b _ hb (hn es clock), h2⟩

/-- a round at whatever depth -/
theorem yield_depth {m : Nat} (m' : Nat) {P : Program} {l : Nat} {args : Array Value} {W : World} {R : Ending → World → Prop} (h : YieldAt Fence.wide m P l args W R) : YieldAt Fence.wide m' P l args W R := by
  obtain ⟨fn, tmps, assign, body, hy, hR⟩ := h
  exact ⟨fn, tmps, assign, body, hy, hR.1, fun c cs _ => hR.2 c cs (room_wide _)⟩

/-- the iterator hands over just these, in this order, or stops where a round says so; it turns none but its own blocks (Q), and leans on what a round keeps (Kp) -/
def Iter {α : Type} (P : Program) (gf : Nat) (lb : Array Value) (encs : α → Array Value) (all : List α) (Kp : World → World → Prop) (Q : Nat → Nat → Obj → Prop) (w : World) : Prop :=
  ∀ (l n : Nat) (J : List α → World → Prop) (Jx : Unit → World → Prop) (W : World), Below w.heap.size w W → Bides (Q W.heap.size) J → Bides (Q W.heap.size) Jx →
    (∀ pre x W1, J pre W1 → pre ++ [x] <+: all → ∀ m, YieldAt Fence.wide m P l (encs x) W1 fun e W' => (e = .returned (.bool true) ∧ J (pre ++ [x]) W' ∧ Kp W1 W') ∨ (e = .returned (.bool false) ∧ Jx () W' ∧ Kp W1 W')) →
    J [] W → CallsIn Fence.wide n P gf (#[.func (.yield l) #[] #[]] ++ lb) W fun e W' => (∃ v, e = .returned v) ∧ (J all W' ∨ Jx () W')

/-- how a round may be left: off its end, or by a return -/
def roundEnd {α : Type} (B : Nat) (Kp : World → World → Prop) (I : List α → World → Prop) (Ix : Unit → World → Prop) (xs : List α) (W : World) : Exit → Act → World → Prop
  | .normal, _, W' => KeepsFrom B W W' ∧ Kp W W' ∧ I xs W'
  | .ret, _, W' => KeepsFrom B W W' ∧ Kp W W' ∧ Ix () W'
  | _, _, _ => False

/-- the loop -/
theorem loop_iter {α : Type} {P : Program} {n : Nat} {gop : Operand} {ps : Array Tmp} {assign body : Code} {Q : Exit → Act → World → Prop} {a : Act} {w : World} {gf : Nat} {lb : Array Value}
    (hg : a.eval gop = .func (.func gf) #[] lb) (eg : ∀ args w, (callFunc gf args).run P w = .ok (.enter gf args) w)
    {encs : α → Array Value} (hps : ∀ x, (encs x).size = ps.size) {all : List α} {Kp : World → World → Prop} {Qi : Nat → Nat → Obj → Prop} {w0 : World} (hb0 : Below w0.heap.size w0 w) (hit : Iter P gf lb encs all Kp Qi w0)
    (hKt : ∀ {A B C : World}, Kp A B → Kp B C → Kp A C) (hKb : ∀ (W : World) (o' : Obj), (∃ r, W.heap[w.heap.size + 1]? = some (.loop r)) → Kp W (W.putObj (w.heap.size + 1) o'))
    (R : Nat → Obj → Prop) (hR1 : ∀ r, R (w.heap.size + 1) (.loop r)) (hR2 : ∀ k o, Qi (w.heap.size + 2) k o → R k o) (hQ : ∀ k o, Qi (w.heap.size + 2) k o → w.heap.size + 2 ≤ k)
    (I : List α → World → Prop) (Ix : Unit → World → Prop) (hI : Bides R I) (hIx : Bides R Ix) (h0 : I [] w) (Ax : α → Act → World → Prop) (hAx : ∀ x a', Bides R (fun (_ : Unit) W => Ax x a' W))
    (hassign : ∀ (l : Nat) (pre : List α) (x : α) (W : World) (K : Act → World → Prop), I pre W → pre ++ [x] <+: all → (∀ a' W', Below W.heap.size W W' → Kp W W' → Ax x a' W' → K a' W') →
      assign.wpIn (Fence.wide.inRound l) n P (Exit.then K (fun _ _ _ => False)) { tmps := (ps.zip (encs x)).foldl (fun t (p, v) => t.setIfInBounds p v) a.tmps, defers := [] } W)
    (hbody : ∀ (l : Nat) (pre : List α) (x : α) (a' : Act) (W : World), w.heap.size ≤ l → (∃ r, W.heap[l]? = some (.loop r)) → I pre W → Ax x a' W → pre ++ [x] <+: all → body.wpIn (Fence.wide.inRound l) n P (roundEnd w.heap.size Kp I Ix (pre ++ [x]) W) a' W)
    (hdone : ∀ (D : Nat) (W : World), w.heap.size ≤ D → I all W → W.heap[D]? = some (.deferred (some [])) → Q .normal { a with defers := { target := .collected D, args := #[] } :: a.defers } W)
    (hstop : ∀ (D : Nat) (W : World), w.heap.size ≤ D → Ix () W → W.heap[D]? = some (.deferred (some [])) → Code.ret.wpIn Fence.wide n P Q { a with defers := { target := .collected D, args := #[] } :: a.defers } W) :
    (Code.rangeFunc gop ps assign body).wpIn Fence.wide n P Q a w := by
  refine wpIn_rangeFunc fun fn hfn => ?_
  let rd : LoopState → Option Code → Obj := fun st pe => .loop { state := st, pending := pe, fn, tmps := a.tmps, params := ps, assign, body, defers := w.heap.size }
  obtain ⟨W1, hW1⟩ : ∃ W1, (w.alloc (.deferred (some []))).alloc (rd .ready none) = W1 := ⟨_, rfl⟩
  have s1 : W1.heap.size = w.heap.size + 2 := by rw [← hW1]; simp
  have Bw : Below w.heap.size w W1 := by rw [← hW1]; exact ((Below.refl _ _).alloc (Nat.le_refl _) _).alloc (by simp) _
  have rL : W1.heap[w.heap.size + 1]? = some (rd .ready none) := by
    have := World.alloc_heap_new (w.alloc (.deferred (some []))) (rd .ready none)
    rw [← hW1]; rwa [World.size_alloc] at this
  have rD : W1.heap[w.heap.size]? = some (.deferred (some [])) := by
    rw [← hW1]; exact (Below.heap_alloc _ _ _ (by simp)).trans (World.alloc_heap_new w _)
  refine ⟨w.heap.size + 1, [{ target := .collected w.heap.size, args := #[] }], W1, { target := .fn (.func gf) lb, args := #[.func (.yield (w.heap.size + 1)) #[] #[]] }, W1, gf, #[.func (.yield (w.heap.size + 1)) #[] #[]] ++ lb, W1, ?_, ?_, fun _ _ => trivial, ?_, fun h => by simp [Fence.wide] at h, ?_⟩
  · rw [← hW1]; exact run_enterLoop_outer _ _ _ _ _
  · simp only [resolve, hg]
    simp [go_sem]
  · simp [invoke, go_sem, eg]
  -- the book-keeping beside what the loop says
  have keepL : ∀ {A C : World} {o : Obj} {k : Nat}, k < w.heap.size + 2 → A.heap[k]? = some o → Only A C (Qi W1.heap.size) → C.heap[k]? = some o := fun hk hA hO => hO.block _ _ hA (fun q => by rw [s1] at q; have := hQ _ _ q; omega)
  have toR : ∀ {A C : World}, Only A C (Qi W1.heap.size) → Only A C R := fun hO => hO.mono (fun k o q => hR2 k o (by rwa [s1] at q))
  have putR : ∀ (A : World) (o' : Obj), (∃ r, A.heap[w.heap.size + 1]? = some (.loop r)) → Only A (A.putObj (w.heap.size + 1) o') R := fun A o' ⟨r, hr⟩ => Only.put A o' (fun o ho => by
    rw [hr] at ho; cases ho; exact hR1 _)
  refine (hit (w.heap.size + 1) (n - 1)
    (fun pre W => I pre W ∧ W.heap[w.heap.size + 1]? = some (rd .ready none) ∧ W.heap[w.heap.size]? = some (.deferred (some [])))
    (fun _ W => Ix () W ∧ W.heap[w.heap.size + 1]? = some (rd .done (some .ret)) ∧ W.heap[w.heap.size]? = some (.deferred (some [])))
    W1 (hb0.trans (Bw.mono hb0.size))
    (fun s A C hs hO => ⟨hI s A C hs.1 (toR hO), keepL (by omega) hs.2.1 hO, keepL (by omega) hs.2.2 hO⟩)
    (fun s A C hs hO => ⟨hIx s A C hs.1 (toR hO), keepL (by omega) hs.2.1 hO, keepL (by omega) hs.2.2 hO⟩)
    ?_ ⟨hI _ _ _ h0 (Only.of_below Bw), rL, rD⟩).mono ?_
  · -- a round
    rintro pre x W ⟨hi, hl, hd⟩ hpre m
    refine yield_depth (m := n) m ⟨fn, _, assign, body, run_yield (P := P) (args := encs x) hl (hps x), ?_⟩
    refine roundIn_of_wpIn (n := n) hfn (hassign _ pre x W _ hi hpre ?_)
    intro a' Wa hba hka hax
    have hlt := (Array.getElem?_eq_some_iff.1 hl).1
    have la : Wa.heap[w.heap.size + 1]? = some (rd .ready none) := (hba.block _ hlt).trans hl
    have da : Wa.heap[w.heap.size]? = some (.deferred (some [])) := (hba.block _ (by omega)).trans hd
    have ia : I pre Wa := hI _ _ _ hi (Only.of_below hba)
    have lta := (Array.getElem?_eq_some_iff.1 la).1
    refine ⟨_, run_beginRound la rfl, ?_⟩
    obtain ⟨Wb, hWb⟩ : ∃ Wb, Wa.putObj (w.heap.size + 1) (rd .busy none) = Wb := ⟨_, rfl⟩
    have lb1 : Wb.heap[w.heap.size + 1]? = some (rd .busy none) := by rw [← hWb]; exact World.putObj_heap_same lta
    have db : Wb.heap[w.heap.size]? = some (.deferred (some [])) := by rw [← hWb]; exact (World.putObj_heap_other (by omega)).trans da
    have ob : Only Wa Wb R := by rw [← hWb]; exact putR Wa _ ⟨_, la⟩
    have kb : Kp Wa Wb := by rw [← hWb]; exact hKb Wa _ ⟨_, la⟩
    show body.wpIn (Fence.wide.inRound (w.heap.size + 1)) n P _ a' (Wa.putObj (w.heap.size + 1) (rd .busy none))
    rw [hWb]
    refine wpIn_mono (hbody _ pre x a' Wb (by omega) ⟨_, lb1⟩ (hI _ _ _ ia ob) (hAx x a' () _ _ hax ob) hpre) ?_
    intro e a3 W3 hp
    cases e with
    | normal =>
      obtain ⟨k3, kp3, i3⟩ := hp
      have l3 := k3.same _ _ (by omega) lb1 rfl
      have d3 := k3.same _ _ (Nat.le_refl _) db rfl
      refine ⟨_, _, run_endRound (P := P) none l3, .inl ⟨rfl, ⟨hI _ _ _ i3 (putR W3 _ ⟨_, l3⟩), World.putObj_heap_same (Array.getElem?_eq_some_iff.1 l3).1, (World.putObj_heap_other (by omega)).trans d3⟩, hKt hka (hKt kb (hKt kp3 (hKb W3 _ ⟨_, l3⟩)))⟩⟩
    | ret =>
      obtain ⟨k3, kp3, i3⟩ := hp
      have l3 := k3.same _ _ (by omega) lb1 rfl
      have d3 := k3.same _ _ (Nat.le_refl _) db rfl
      exact ⟨_, _, run_endRound (P := P) (some .ret) l3, .inr ⟨rfl, ⟨hIx _ _ _ i3 (putR W3 _ ⟨_, l3⟩), World.putObj_heap_same (Array.getElem?_eq_some_iff.1 l3).1, (World.putObj_heap_other (by omega)).trans d3⟩, hKt hka (hKt kb (hKt kp3 (hKb W3 _ ⟨_, l3⟩)))⟩⟩
    | exit id => exact hp.elim
    | goto t => exact hp.elim
    | panic ch => exact hp.elim
    | outgrown => exact hp.elim
  · rintro e W2 ⟨⟨v, rfl⟩, (⟨hi, hl, hd⟩ | ⟨hi, hl, hd⟩)⟩
    · exact ⟨none, _, run_endLoop (P := P) hl (by simp), hdone _ _ (Nat.le_refl _) (hI _ _ _ hi (putR W2 _ ⟨_, hl⟩)) ((World.putObj_heap_other (by omega)).trans hd)⟩
    · exact ⟨some .ret, _, run_endLoop (P := P) hl (by simp), hstop _ _ (Nat.le_refl _) (hIx _ _ _ hi (putR W2 _ ⟨_, hl⟩)) ((World.putObj_heap_other (by omega)).trans hd)⟩
end Go.Proofs.YtccgbengfmlgbaaGreat
