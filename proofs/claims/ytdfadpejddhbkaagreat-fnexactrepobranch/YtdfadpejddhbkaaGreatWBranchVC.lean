/- Proved here: what making a branch answers, as a value, and a step that appends one branch to a row of its own; no condition. -/
import Derived.Test.YtdfadpejddhbkaaGreatG8
import Derived.Test.YtdfadpejddhbkaaGreatG6
namespace Go.Proofs.YtdfadpejddhbkaaGreat
set_option linter.unusedVariables false
open Go.ChangeShapes Go.WideShapes Go.ChangeAt Go.RowKit Go.Deep

/-- a branch made at the version of another one -/
noncomputable def branchV (cs : List Cm) (hs : List Hd) (x y : ByteArray) : RpV :=
  if repoOk cs hs && wordOk x then (match lastH hs y hs.length with | none => (cs, hs, 1) | some j => if (lastH hs x hs.length).isSome = true ∨ hs.length = 4 then (cs, hs, 2) else (cs, hs ++ [(x, hda hs j)], 0)) else ([], [], 4)

theorem branchV_form {cs : List Cm} {hs : List Hd} {x y : ByteArray} (h : repoOk cs hs = false ∨ wordOk x = false) : branchV cs hs x y = ([], [], 4) := by
  unfold branchV
  rw [if_neg]
  rcases h with h | h <;> simp [h]
theorem branchV_none {cs : List Cm} {hs : List Hd} {x y : ByteArray} (h1 : RepoGood cs hs) (h2 : wordOk x = true) (h3 : lastH hs y hs.length = none) : branchV cs hs x y = (cs, hs, 1) := by
  unfold branchV
  rw [if_pos (by rw [repoOk_true h1, h2]; rfl), h3]
theorem branchV_full {cs : List Cm} {hs : List Hd} {x y : ByteArray} {j : Nat} (h1 : RepoGood cs hs) (h2 : wordOk x = true) (h3 : lastH hs y hs.length = some j) (h4 : (lastH hs x hs.length).isSome = true ∨ hs.length = 4) : branchV cs hs x y = (cs, hs, 2) := by
  unfold branchV
  rw [if_pos (by rw [repoOk_true h1, h2]; rfl), h3]
  exact if_pos h4
theorem branchV_fine {cs : List Cm} {hs : List Hd} {x y : ByteArray} {j : Nat} (h1 : RepoGood cs hs) (h2 : wordOk x = true) (h3 : lastH hs y hs.length = some j) (h4 : ¬ ((lastH hs x hs.length).isSome = true ∨ hs.length = 4)) : branchV cs hs x y = (cs, hs ++ [(x, hda hs j)], 0) := by
  unfold branchV
  rw [if_pos (by rw [repoOk_true h1, h2]; rfl), h3]
  exact if_neg h4

theorem branchV_fit {cs : List Cm} {hs : List Hd} (x y : ByteArray) (hl : RpLen cs hs 1048576) (hx : x.size ≤ 1048576) : RpFit (branchV cs hs x y) := by
  by_cases hg : RepoGood cs hs
  · have c2 := hg.c2
    have h2 := hg.h2
    have f0 : ∀ k : Int, RpFit (cs, hs, k) := fun k => ⟨by show cs.length ≤ 20; omega, by show hs.length ≤ 1000; omega, hl⟩
    by_cases hw : wordOk x = true
    · cases h3 : lastH hs y hs.length with
      | none => rw [branchV_none hg hw h3]; exact f0 1
      | some j =>
        by_cases h4 : (lastH hs x hs.length).isSome = true ∨ hs.length = 4
        · rw [branchV_full hg hw h3 h4]; exact f0 2
        · rw [branchV_fine hg hw h3 h4]
          refine ⟨by show cs.length ≤ 20; omega, by show (hs ++ [(x, hda hs j)]).length ≤ 1000; simp; omega, hl.cl, by show ((hs ++ [(x, hda hs j)]).length : Int) ≤ _; simp; omega, hl.cms, headsLen_iff.2 fun h hh => ?_⟩
          rcases List.mem_append.1 hh with q | q
          · exact headsLen_iff.1 hl.hds h q
          · obtain rfl : h = (x, hda hs j) := by simpa using q
            show (x.size : Int) ≤ _
            omega
    · rw [branchV_form (.inr (by simpa using hw))]; exact RpFit.none 4
  · rw [branchV_form (.inl (repoOk_false hg))]; exact RpFit.none 4

/-- appending a branch that lies in a block of its own, at a step of a region that draws its order -/
theorem step_moreH {ops : Array Oper} {o : Oper} {a : Act} {K : Act → World → Prop} {Q : Exit → Act → World → Prop} {E : Prop} {lo : Nat} {W : World} {ml p : List Hd} {v : Value} {pr : Option Addr} {cr : Nat}
    (hg : o.guard = none) (s x : Operand) (hop : o.op = Op.call { callee := Callee.builtin Builtin.append, args := #[s, x], argTypes := #[44, 44] })
    (hG : GrowH lo ml W v) (hp : HeadsAt W pr p) (h0 : 0 < p.length) (hs : a.eval s = v) (hx : a.eval x = .slice pr p.length cr) (hb : ml.length + p.length ≤ 1000000)
    (hK : ∀ g cap W', W.grownBy W' v.ownBlock → GrowH lo (ml ++ p) W' (.slice (some ⟨g, 0, none⟩) (ml.length + p.length) cap) → (v.ownBlock = some g ∨ g = W.heap.size) → K (a.put o.dst (.slice (some ⟨g, 0, none⟩) (ml.length + p.length) cap)) W') :
    if Region.wanted o (yielded ops a.tmps) = true then Oper.wp Tryz.prog o a W K Q else E := by
  obtain ⟨i0, hi, hz0, hz1, hz2⟩ := info_parts infoHead
  obtain ⟨b, off, rfl, hlt, _⟩ := hp 0 h0
  refine step_append_lies W hg s x 44 hop lo 115 i0 _ 2 24 Tryz.underlying44 hi hz0 hz1 hz2 rfl (by omega) v ml.length (flatH ml) hs hG.own ⟨b, off, none⟩ p.length cr (flatH p) hx (flatH_len p) (news_heads hp) (flatH_one p) h0 (by unfold maxLen; omega) (by omega) hG.le W.heap.size rfl ?_
  intro g cap w' hown hgrow hat _
  refine hK g cap w' hgrow ⟨?_, Nat.le_trans hG.le hgrow.size⟩ hat
  rw [← flatH_app] at hown
  rw [List.length_append]
  exact hown

/-- a room to whose branches one is appended -/
theorem Room.pushH {K : World → Cm → PlO → (Nat → Prop) → Prop} (L : KLaw K) {w5 Wc wa : World} {lo gg n cap : Nat} {cv hv : Value} {cs : List Cm} {hs hs' : List Hd} {ad : Nat → PlO} {S : Nat → Nat → Prop} (h : Room K w5 lo cv hv cs hs ad S) (hb : Below w5.heap.size w5 Wc) (hg : Wc.grownBy wa hv.ownBlock) (hG : GrowH lo hs' wa (.slice (some ⟨gg, 0, none⟩) n cap)) (hat : hv.ownBlock = some gg ∨ gg = Wc.heap.size) :
    Room K wa lo cv (.slice (some ⟨gg, 0, none⟩) n cap) cs hs' ad S ∧ Turned w5 wa (fun x => hv.ownBlock = some x) ∧ (hv.ownBlock = some gg ∨ w5.heap.size ≤ gg) := by
  have T : Turned w5 wa (fun x => hv.ownBlock = some x) := (Turned.of_below hb).trans (Turned.of_grown hg fun x hx => hx)
  have hz := hb.size
  have ha : hv.ownBlock = some gg ∨ w5.heap.size ≤ gg := hat.imp id fun e => by omega
  exact ⟨h.heads L T hG fun x hx => by obtain rfl : gg = x := (by simpa [Value.ownBlock] using hx); exact ha, T, ha⟩

theorem head_one (w : World) (x : ByteArray) (y : Int) (t : TypeId) : HeadsAt (w.alloc (.cells #[.string x, .int .i64 y] t)) (some ⟨w.heap.size, 0, none⟩) [(x, y)] := by
  intro i hi
  obtain rfl : i = 0 := by simp at hi; omega
  exact ⟨w.heap.size, 0, rfl, by simp, by simp [go_sem, hdn], by simp [go_sem, hda]⟩
end Go.Proofs.YtdfadpejddhbkaaGreat
