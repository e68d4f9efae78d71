/- Proved here: the marks of a room that lies part by part are few, with a bound; rooms of at most 1,048,576 parts together. -/
import Derived.Test.YtdfadpejddhbkaaGreatG4
namespace Go.Proofs.YtdfadpejddhbkaaGreat
set_option linter.unusedVariables false
open Go.ChangeShapes Go.WideShapes Go.ChangeAt Go.RowKit

set_option maxRecDepth 100000 in
set_option maxHeartbeats 4000000 in
theorem markRepo_layU (b q : Nat) (ad : Nat → PlM) (cut : Nat → Nat) (cs : List Cm) (hs : List Hd) (k : Int) (w : World) (h : RepoLay w b ad cut q cs hs) (hL : RpLen cs hs 1048576) (hW : wC cs cs.length ≤ 1048576) (h0 : 0 ≤ k) (h4 : k ≤ 1000) :
    Calls Tryz.prog 46 #[.agg #[.slice (some ⟨b, 0, none⟩) cs.length cs.length, .slice (some ⟨q, 0, none⟩) hs.length hs.length], .int .i64 k] w fun e w' => (∃ k', e = .returned (.int .i64 k') ∧ 0 ≤ k' ∧ k' ≤ 100000000) ∧ Turned w w' (fun x => b ≤ x ∧ x ≤ q) := by
  have hq := h.hds.lt
  have hcq := h.cq
  have hc0 := h.c0
  have hcn := h.lay.cut cs.length (Nat.le_refl _)
  have hb0 : Below w.heap.size w (w.alloc (.cells #[.slice (some ⟨b, 0, none⟩) cs.length cs.length, .slice (some ⟨q, 0, none⟩) hs.length hs.length] 46)) := (Below.refl _ _).alloc (Nat.le_refl _) _
  have H := Lib.hid (h.below hb0)
  have X0 : Hid (Box2 (w.alloc (.cells #[.slice (some ⟨b, 0, none⟩) cs.length cs.length, .slice (some ⟨q, 0, none⟩) hs.length hs.length] 46)) w.heap.size (.slice (some ⟨b, 0, none⟩) cs.length cs.length) (.slice (some ⟨q, 0, none⟩) hs.length hs.length)) := Box2.new w _ _ _
  have T0 := Lib.hid (Turned.of_below (S := fun x => b ≤ x ∧ x ≤ q) hb0)
  obtain ⟨l1, l2, l3, l4⟩ := hL
  have L3 := Lib.hid l3
  clear h hb0 l3 l4
  go_enter Tryz.func46, Tryz.ntmps46
  go_wp2_with fail
  refine (markCommitS_lay b cs ad cut k _ H.out.row H.out.lay hc0 (by simp; omega) (by omega) L3.out hW h0 h4).mono ?_
  rintro e w1 ⟨k', rfl, hk0, hk1, ht1⟩
  have c1 := ht1.cell X0.out.c1 (show ¬ _ by show ¬ (w.heap.size = b ∨ (cut 0 ≤ w.heap.size ∧ w.heap.size < cut cs.length)); omega)
  have R1 := Lib.hid (rowIs_turned H.out.hds ht1 (by omega))
  have T1 : Hid (Turned w w1 (fun x => b ≤ x ∧ x ≤ q)) := T0.out.trans (ht1.wide fun x hx => by omega)
  clear ht1
  go_wp2_with fail
  refine (markHeadS_row q hs.length _ k' _ R1.out (by omega) hk0 (by omega)).mono ?_
  rintro e w2 ⟨rfl, ht2⟩
  have T2 : Hid (Turned w w2 (fun x => b ≤ x ∧ x ≤ q)) := T1.out.trans (ht2.wide fun x hx => by omega)
  clear ht2 c1
  go_wp2
  go_ret
  exact ⟨⟨_, rfl, by omega, by omega⟩, T2.out⟩
end Go.Proofs.YtdfadpejddhbkaaGreat
