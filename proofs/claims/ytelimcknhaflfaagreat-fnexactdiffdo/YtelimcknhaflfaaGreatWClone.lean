/- Proved here: the library's copy of a list of points and of a list of tags, with any number of them, lies in memory of its own; at most 1,048,576 of them. -/
import Derived.Test.YtelimcknhaflfaaGreatWAppend0
namespace Go.Proofs.YtelimcknhaflfaaGreat
set_option linter.unusedVariables false
open Go.ChangeShapes Go.WideShapes Go.ChangeAt Go.RowKit Go.Deep

theorem wpList_append0 {P : Program} {w : World} {ops : Array Oper} {rest : List Oper} {o : Oper} {a : Act} {Q : Exit → Act → World → Prop} (hgd : o.guard = none) (s x : Operand) (t : TypeId)
    (ho : o.op = .call { callee := .builtin .append, args := #[s, x], argTypes := #[t, t] }) (e : TypeId) (i : TypeInfo) (ht : P.underlying t = some (.slice e)) (hi : P.info? e = some i)
    (g c : Nat) (ad : Option Addr) (hs : a.eval s = .slice (some ⟨g, 0, none⟩) 0 0) (hx : a.eval x = .slice ad 0 c)
    (h : wpList P ops Q rest (a.put o.dst (.slice (some ⟨g, 0, none⟩) 0 0)) w) : wpList P ops Q (o :: rest) a w :=
  wpList_plain hgd fun _ hK => by
    have hr := run_append0 (P := P) w t o.type e i ht hi g c ad
    unfold Oper.wp execOp
    simp only [ho, resolve, invoke, builtin, Sem.run_bind, Sem.run_pure, Result.andThen_ok, List.map_toArray, List.map_cons, List.map_nil, hs, hx, hr]
    exact hK _ _ h


/-- what a copy of points answers -/
def CloneP (w : World) (xs : List (Int × Int)) (e : Ending) (w' : World) : Prop :=
  ∃ g c, e = .returned (.slice g xs.length c) ∧ PtsAt w' g xs ∧ Soft w' g xs.length ∧ Fresh w w' g ∧ Below w.heap.size w w'

set_option maxRecDepth 100000 in
set_option maxHeartbeats 2000000 in
theorem cloneP_any (a : Option Addr) (cap : Nat) (xs : List (Int × Int)) (w : World) (hp : PtsAt w a xs) (hl : xs.length ≤ 1048576) :
    Calls Tryz.prog 75 #[.slice a xs.length cap] w (CloneP w xs) := by
  have HP := Lib.hid hp
  clear hp
  obtain ⟨i0, hi, hz0, hz1, hz2⟩ := info_parts infoPt
  have HI := Lib.hid hi
  have HZ0 := Lib.hid hz0
  have HZ1 := Lib.hid hz1
  have HZ2 := Lib.hid hz2
  clear hi hz0 hz1 hz2
  have heq := fun w => Lib.run_eql_slice_nil (P := Tryz.prog) w 52 105 a xs.length cap 0 0 Tryz.underlying52
  by_cases h0 : 0 < xs.length
  · obtain ⟨b, off, rfl, _⟩ := HP.out 0 h0
    go_enter Tryz.func75, Tryz.ntmps75
    go_wp2_with (at_builtin; refine wpList_append_lies _ (by rfl) _ _ _ (by rfl) w.heap.size 105 i0 _ 2 16 Tryz.underlying52 HI.out HZ0.out HZ1.out HZ2.out rfl (by omega) (.slice (some ⟨w.heap.size, 0, none⟩) 0 0) 0 [] (by rfl) (World.ownsRow_made w #[] 0 (Nat.le_refl _) (by unfold maxLen; omega) rfl) ⟨b, off, none⟩ xs.length cap (flat xs) (by rfl) (flat_len xs) (news_pts (HP.out.below ((Below.refl _ _).alloc (Nat.le_refl _) _))) (flat_one xs) h0 (by unfold maxLen; omega) (by omega) (by simp) (w.heap.size + 1) (by simp) ?_; intro gg cap' wa hown1 hgrow hat hlt')
    go_ret
    rw [Nat.zero_add, List.nil_append] at hown1
    obtain ⟨a2, cap2, e2, hpt, hso, hnew⟩ := owned_pts hown1 rfl
    obtain ⟨rfl, rfl⟩ : some ⟨gg, 0, none⟩ = a2 ∧ cap' = cap2 := by simpa using e2
    refine ⟨_, cap', rfl, hpt, hso, fun x hx => ⟨(hnew x hx).1, (hnew x hx).2⟩, ((Below.refl _ _).alloc (Nat.le_refl _) _).grown hgrow (by simp) (fun j e => by simp [Value.ownBlock] at e; omega)⟩
  · obtain rfl : xs = [] := List.eq_nil_of_length_eq_zero (by omega)
    clear h0 hl HP HZ0 HZ1 HZ2
    rw [show ([] : List (Int × Int)).length = 0 from rfl] at *
    cases a with
    | none =>
      go_enter Tryz.func75, Tryz.ntmps75
      go_wp2
      go_ret
      exact ⟨none, 0, rfl, PtsAt.nil _ _, fun i hi => absurd hi (Nat.not_lt_zero _), fun x hx => by simp [blk] at hx, Below.refl _ _⟩
    | some ad =>
      go_enter Tryz.func75, Tryz.ntmps75
      go_wp2_with (at_builtin; refine wpList_append0 (by rfl) _ _ _ (by rfl) 105 i0 Tryz.underlying52 HI.out w.heap.size cap (some ad) (by rfl) (by rfl) ?_)
      go_ret
      refine ⟨some ⟨w.heap.size, 0, none⟩, 0, rfl, PtsAt.nil _ _, fun i hi => absurd hi (Nat.not_lt_zero _), fun x hx => ?_, (Below.refl _ _).alloc (Nat.le_refl _) _⟩
      obtain rfl : w.heap.size = x := by simpa [blk] using hx
      exact ⟨Nat.le_refl _, by simp⟩

/-- what a copy of tags answers -/
def CloneT (w : World) (xs : List Tg) (e : Ending) (w' : World) : Prop :=
  ∃ g c, e = .returned (.slice g xs.length c) ∧ TagsAt w' g xs ∧ Soft w' g xs.length ∧ Fresh w w' g ∧ Below w.heap.size w w'

set_option maxRecDepth 100000 in
set_option maxHeartbeats 2000000 in
theorem cloneT_any (a : Option Addr) (cap : Nat) (xs : List Tg) (w : World) (hp : TagsAt w a xs) (hl : xs.length ≤ 1048576) :
    Calls Tryz.prog 76 #[.slice a xs.length cap] w (CloneT w xs) := by
  have HP := Lib.hid hp
  clear hp
  obtain ⟨i0, hi, hz0, hz1, hz2⟩ := info_parts infoT
  have HI := Lib.hid hi
  have HZ0 := Lib.hid hz0
  have HZ1 := Lib.hid hz1
  have HZ2 := Lib.hid hz2
  clear hi hz0 hz1 hz2
  have heq := fun w => Lib.run_eql_slice_nil (P := Tryz.prog) w 55 107 a xs.length cap 0 0 Tryz.underlying55
  by_cases h0 : 0 < xs.length
  · obtain ⟨b, off, rfl, _⟩ := HP.out 0 h0
    go_enter Tryz.func76, Tryz.ntmps76
    go_wp2_with (at_builtin; refine wpList_append_lies _ (by rfl) _ _ _ (by rfl) w.heap.size 107 i0 _ 2 32 Tryz.underlying55 HI.out HZ0.out HZ1.out HZ2.out rfl (by omega) (.slice (some ⟨w.heap.size, 0, none⟩) 0 0) 0 [] (by rfl) (World.ownsRow_made w #[] 0 (Nat.le_refl _) (by unfold maxLen; omega) rfl) ⟨b, off, none⟩ xs.length cap (flatT xs) (by rfl) (flatT_len xs) (news_tags (HP.out.below ((Below.refl _ _).alloc (Nat.le_refl _) _))) (flatT_one xs) h0 (by unfold maxLen; omega) (by omega) (by simp) (w.heap.size + 1) (by simp) ?_; intro gg cap' wa hown1 hgrow hat hlt')
    go_ret
    rw [Nat.zero_add, List.nil_append] at hown1
    obtain ⟨a2, cap2, e2, hpt, hso, hnew⟩ := owned_tags hown1 rfl
    obtain ⟨rfl, rfl⟩ : some ⟨gg, 0, none⟩ = a2 ∧ cap' = cap2 := by simpa using e2
    refine ⟨_, cap', rfl, hpt, hso, fun x hx => ⟨(hnew x hx).1, (hnew x hx).2⟩, ((Below.refl _ _).alloc (Nat.le_refl _) _).grown hgrow (by simp) (fun j e => by simp [Value.ownBlock] at e; omega)⟩
  · obtain rfl : xs = [] := List.eq_nil_of_length_eq_zero (by omega)
    clear h0 hl HP HZ0 HZ1 HZ2
    rw [show ([] : List Tg).length = 0 from rfl] at *
    cases a with
    | none =>
      go_enter Tryz.func76, Tryz.ntmps76
      go_wp2
      go_ret
      exact ⟨none, 0, rfl, TagsAt.nil _ _, fun i hi => absurd hi (Nat.not_lt_zero _), fun x hx => by simp [blk] at hx, Below.refl _ _⟩
    | some ad =>
      go_enter Tryz.func76, Tryz.ntmps76
      go_wp2_with (at_builtin; refine wpList_append0 (by rfl) _ _ _ (by rfl) 107 i0 Tryz.underlying55 HI.out w.heap.size cap (some ad) (by rfl) (by rfl) ?_)
      go_ret
      refine ⟨some ⟨w.heap.size, 0, none⟩, 0, rfl, TagsAt.nil _ _, fun i hi => absurd hi (Nat.not_lt_zero _), fun x hx => ?_, (Below.refl _ _).alloc (Nat.le_refl _) _⟩
      obtain rfl : w.heap.size = x := by simpa [blk] using hx
      exact ⟨Nat.le_refl _, by simp⟩
end Go.Proofs.YtelimcknhaflfaaGreat
