/- Proved here: the model's copy of a thing without points and tags ends, and is one; no condition. Proved here: the model's copy of a change lies in memory of its own; at most 1,048,576 points and tags, none without points that has tags. Proved here: a list of changes that is built by appending copies lies in memory made since; and what turns changes back; no condition. Proved here: what a list of things is turned into by changes, told in plain definitions, and that changes of other names leave a name's thing alone; look-ups in a map that tells a list; no condition. Proved here: the model's map without a name holds copies of the other things; lists of at most 1,048,576 things, points and tags, texts of at most 1,048,576 bytes. Proved here: the model's map with a thing holds copies of the things; lists of at most 1,048,576 things, points and tags, texts of at most 1,048,576 bytes. Proved here: the model turns a map by changes as the plain definition says, in memory made since; lists of at most 1,048,576 things, changes, points and tags. Proved here: the model lists the names of two maps together, in memory made since; lists of at most 1,024 things. Proved here: the program's walk of two maps at once begins with the names of both, in a map of its own; maps of at most 1,048,576 things. Proved here: the model's list of what is turned from one map to another one is the plain one, in memory made since; lists of at most 1,024 things. -/
import Derived.Test.YtccgbengfmlgbaaGreatMDf1
import Derived.Test.YtccgbengfmlgbaaGreatWListC
import Derived.Test.YtccgbengfmlgbaaGreatMDf2
import Derived.Test.YtccgbengfmlgbaaGreatWCopyMap
import Derived.Deep.RegionHeld3
import Derived.Deep.DeepCutAuto
namespace Go.Proofs.YtccgbengfmlgbaaGreat
set_option linter.unusedVariables false
open Go.ChangeShapes Go.WideShapes Go.ChangeAt Go.RowKit Go.Deep

set_option maxRecDepth 100000 in
set_option maxHeartbeats 2000000 in
theorem l2Copy_00 (id : ByteArray) (k : Int) (a : Option Addr) (cap : Nat) (c : Option Addr) (ca : Nat) (w : World) :
    Calls Tryz.prog 73 #[.agg #[.string id, .int .i64 k, .slice a 0 cap, .slice c 0 ca]] w fun e w' => ∃ ax cx ay cy, e = .returned (.agg #[.string id, .int .i64 k, .slice ax 0 cx, .slice ay 0 cy]) ∧ Below w.heap.size w w' := by
  obtain ⟨i0, hi, hz0, hz1, hz2⟩ := info_parts infoT
  have HI := Lib.hid hi
  have HZ0 := Lib.hid hz0
  have HZ1 := Lib.hid hz1
  have HZ2 := Lib.hid hz2
  clear hi hz0 hz1 hz2
  go_enter Tryz.func73, Tryz.ntmps73
  go_upto_region 1 with (fail)
  obtain ⟨W, hW⟩ : ∃ W, W = ((w.alloc (.cells #[.string id, .int .i64 k, .slice a 0 cap, .slice c 0 ca] 34)).alloc (.cells #[.string ⟨#[]⟩, .int .i64 0, .slice none 0 0, .slice none 0 0] 34)) := ⟨_, rfl⟩
  have B0 : Hid (Below w.heap.size w W) := by rw [hW]; exact ((Below.refl _ _).alloc (Nat.le_refl _) _).alloc (by simp) _
  have hz : Hid (W.heap.size = w.heap.size + 1 + 1) := by show _ = _; rw [hW]; simp
  have SOF : Hid (∀ wy, Kept1 W (w.heap.size + 1) wy → wy.cell? ⟨w.heap.size, 0, none⟩ = some (.string id) ∧ wy.cell? ⟨w.heap.size, 1, none⟩ = some (.int .i64 k) ∧ wy.cell? ⟨w.heap.size, 2, none⟩ = some (.slice a 0 cap) ∧ wy.cell? ⟨w.heap.size, 3, none⟩ = some (.slice c 0 ca) ∧ wy.cell? ⟨(w.heap.size + 1), 0, none⟩ = some (cellOf wy (w.heap.size + 1) 0) ∧ wy.cell? ⟨(w.heap.size + 1), 1, none⟩ = some (cellOf wy (w.heap.size + 1) 1) ∧ wy.cell? ⟨(w.heap.size + 1), 2, none⟩ = some (cellOf wy (w.heap.size + 1) 2) ∧ wy.cell? ⟨(w.heap.size + 1), 3, none⟩ = some (cellOf wy (w.heap.size + 1) 3) ∧ wy.frozen? ⟨(w.heap.size + 1), 0, none⟩ = false ∧ wy.frozen? ⟨(w.heap.size + 1), 1, none⟩ = false ∧ wy.frozen? ⟨(w.heap.size + 1), 2, none⟩ = false ∧ wy.frozen? ⟨(w.heap.size + 1), 3, none⟩ = false ∧ Kept1 W (w.heap.size + 1) wy) := by
    intro wy hb
    have hz := hz.out
    have hc : ∀ o, wy.cell? ⟨w.heap.size, o, none⟩ = W.cell? ⟨w.heap.size, o, none⟩ := fun o => hb.grown.cell_far ⟨w.heap.size, o, none⟩ (by show w.heap.size < _; omega) (by simp)
    have hf : ∀ o, wy.frozen? ⟨w.heap.size + 1, o, none⟩ = W.frozen? ⟨w.heap.size + 1, o, none⟩ := fun o => hb.soft _ (by show w.heap.size + 1 < _; omega)
    refine ⟨?_, ?_, ?_, ?_, cellOf_some (hb.some _ ?_), cellOf_some (hb.some _ ?_), cellOf_some (hb.some _ ?_), cellOf_some (hb.some _ ?_), ?_, ?_, ?_, ?_, hb⟩
    all_goals first | rw [hc, hW] | rw [hf, hW] | rw [hW]
    all_goals simp [go_sem]
  have zR : Hid (w.heap.size + 1 < W.heap.size) := by have := hz.out; show _ < _; omega
  have H4 : Hid (∀ i, i < 4 → (W.cell? ⟨w.heap.size + 1, i, none⟩).isSome = true) := by
    intro i hi
    rw [hW]
    rcases (show i = 0 ∨ i = 1 ∨ i = 2 ∨ i = 3 by omega) with rfl | rfl | rfl | rfl <;> simp [go_sem]
  rw [← hW]
  have m1 : ¬ w.heap.size = W.heap.size := by have := hz.out; omega
  have m2 : ¬ w.heap.size + 1 = W.heap.size := by have := hz.out; omega
  clear hW
  go_cut [12] (fun s12 wx => ∃ ax cx ay cy, Box4 wx (w.heap.size + 1) (.string id) (.int .i64 k) (.slice ax 0 cx) (.slice ay 0 cy) ∧ Below w.heap.size w wx)
  case first =>
    go_region_held3 (fun wy => wy.cell? ⟨w.heap.size, 0, none⟩ = some (.string id) ∧ wy.cell? ⟨w.heap.size, 1, none⟩ = some (.int .i64 k) ∧ wy.cell? ⟨w.heap.size, 2, none⟩ = some (.slice a 0 cap) ∧ wy.cell? ⟨w.heap.size, 3, none⟩ = some (.slice c 0 ca) ∧ wy.cell? ⟨(w.heap.size + 1), 0, none⟩ = some (cellOf wy (w.heap.size + 1) 0) ∧ wy.cell? ⟨(w.heap.size + 1), 1, none⟩ = some (cellOf wy (w.heap.size + 1) 1) ∧ wy.cell? ⟨(w.heap.size + 1), 2, none⟩ = some (cellOf wy (w.heap.size + 1) 2) ∧ wy.cell? ⟨(w.heap.size + 1), 3, none⟩ = some (cellOf wy (w.heap.size + 1) 3) ∧ wy.frozen? ⟨(w.heap.size + 1), 0, none⟩ = false ∧ wy.frozen? ⟨(w.heap.size + 1), 1, none⟩ = false ∧ wy.frozen? ⟨(w.heap.size + 1), 2, none⟩ = false ∧ wy.frozen? ⟨(w.heap.size + 1), 3, none⟩ = false ∧ Kept1 W (w.heap.size + 1) wy)
      (first
        | assumption
        | with_reducible exact SOF.out _ (Kept1.refl zR.out).drew
        | (go_split_ands
           rename_i hS
           with_reducible exact SOF.out _ (hS.below hbn))
        | (go_split_ands
           rename_i hS
           first | with_reducible exact SOF.out _ ((Kept1.refl zR.out).alloc _).drew | exact SOF.out _ (hS.alloc _))
        | (go_split_ands
           rename_i hS
           with_reducible exact SOF.out _ ((((hS.set _ _).set _ _).set _ _).set _ _)))
      (first
        | (go_at_call 86
           refine (l1Copy_nil k a cap _).mono ?_
           rintro e wn ⟨g, rfl, hbn⟩
           first | have hk := keptA hbn zR.out | have hk := keptB hbn zR.out | skip)
        | (refine step_append0 _ (by rfl) _ _ _ (by rfl) 78 i0 Tryz.underlying32 HI.out _ _ _ (by rfl) (by rfl) ?_))
    all_goals (go_wp2_with fail; go_meet; first | ((with_reducible refine ⟨_, _, _, _, hk.box H4.out, ?_⟩); exact ((((hk.set _ _).set _ _).set _ _).set _ _).under B0.out) | ((with_reducible refine ⟨_, _, _, _, (hk.alloc _).box H4.out, ?_⟩); exact (((((hk.alloc _).set _ _).set _ _).set _ _).set _ _).under B0.out))
  case rest =>
    obtain ⟨ax, cx, ay, cy, ⟨r0, r1, r2, r3⟩, hB⟩ := hcut
    have B := Lib.hid hB
    clear hB
    go_wp2
    refine bodyPost_ret (v := .agg #[.string id, .int .i64 k, .slice ax 0 cx, .slice ay 0 cy]) (by simp [results, Tryz.results73, go_sem, r0, r1, r2, r3]) rfl ?_
    exact ⟨ax, cx, ay, cy, rfl, B.out⟩
end Go.Proofs.YtccgbengfmlgbaaGreat

namespace Go.Proofs.YtccgbengfmlgbaaGreat
set_option linter.unusedVariables false
open Go.ChangeShapes Go.WideShapes Go.ChangeAt Go.RowKit

/-- a thing whose parts lie in blocks from this one on -/
def GotF (lo : Nat) (w : World) (f : Ft) (xa ya : Option Addr) : Prop :=
  PtsAt w xa f.2.2.1 ∧ TagsAt w ya f.2.2.2 ∧ (f.2.2.1.length = 0 ∨ ∀ x, blk xa = some x → lo ≤ x ∧ x < w.heap.size) ∧ (f.2.2.2.length = 0 ∨ ∀ x, blk ya = some x → lo ≤ x ∧ x < w.heap.size)

theorem GotF.mono {lo lo' : Nat} {w : World} {f : Ft} {xa ya : Option Addr} (h : GotF lo w f xa ya) (hl : lo' ≤ lo) : GotF lo' w f xa ya :=
  ⟨h.1, h.2.1, h.2.2.1.imp id fun q x hx => ⟨Nat.le_trans hl (q x hx).1, (q x hx).2⟩, h.2.2.2.imp id fun q x hx => ⟨Nat.le_trans hl (q x hx).1, (q x hx).2⟩⟩
theorem GotF.turned {lo : Nat} {w w' : World} {f : Ft} {xa ya : Option Addr} {S : Nat → Prop} (h : GotF lo w f xa ya) (ht : Turned w w' S) (hn : ∀ x, lo ≤ x → x < w.heap.size → ¬ S x) : GotF lo w' f xa ya := by
  obtain ⟨h1, h2, h3, h4⟩ := h
  refine ⟨?_, ?_, h3.imp id fun q x hx => ⟨(q x hx).1, Nat.lt_of_lt_of_le (q x hx).2 ht.size⟩, h4.imp id fun q x hx => ⟨(q x hx).1, Nat.lt_of_lt_of_le (q x hx).2 ht.size⟩⟩
  · rcases h3 with e | q
    · intro i hi
      omega
    · exact h1.turned ht fun x hx => hn x (q x hx).1 (q x hx).2
  · rcases h4 with e | q
    · intro i hi
      omega
    · exact h2.turned ht fun x hx => hn x (q x hx).1 (q x hx).2
theorem GotF.below {lo : Nat} {w w' : World} {f : Ft} {xa ya : Option Addr} (h : GotF lo w f xa ya) (hb : Below w.heap.size w w') : GotF lo w' f xa ya :=
  h.turned (S := fun _ => False) (Turned.of_below hb) fun _ _ _ h => h

theorem l2Copy_side (f : Ft) (pa : Option Addr) (pc : Nat) (ta : Option Addr) (tc : Nat) (w : World) (hp : PtsAt w pa f.2.2.1) (ht : TagsAt w ta f.2.2.2) (hl : f.2.2.1.length ≤ 1048576) (hm : f.2.2.2.length ≤ 1048576) (hz : f.2.2.1.length = 0 → f.2.2.2.length = 0) :
    Calls Tryz.prog 73 #[.agg #[.string f.1, .int .i64 f.2.1, .slice pa f.2.2.1.length pc, .slice ta f.2.2.2.length tc]] w fun e w' => ∃ xa xc ya yc, e = .returned (.agg #[.string f.1, .int .i64 f.2.1, .slice xa f.2.2.1.length xc, .slice ya f.2.2.2.length yc]) ∧ GotF w.heap.size w' f xa ya ∧ Below w.heap.size w w' := by
  by_cases h0 : 0 < f.2.2.1.length
  · refine (l2Copy_got f.1 f.2.1 pa pc f.2.2.1 ta tc f.2.2.2 w hp ht hl h0 hm).mono ?_
    rintro e w' ⟨⟨v, rfl, ax, cx, ay, cy, rfl, h1, h2, h3, h4⟩, hb⟩
    exact ⟨ax, cx, ay, cy, rfl, ⟨h1, h2, h3, h4⟩, hb⟩
  · have e0 : f.2.2.1.length = 0 := by omega
    have e1 := hz e0
    rw [e0, e1]
    refine (l2Copy_00 f.1 f.2.1 pa pc ta tc w).mono ?_
    rintro e w' ⟨ax, cx, ay, cy, rfl, hb⟩
    exact ⟨ax, cx, ay, cy, rfl, ⟨fun i hi => by omega, fun i hi => by omega, .inl e0, .inl e1⟩, hb⟩

theorem far11 (w : World) (r o o' : Nat) (v : Value) (h : o ≠ o') : (w.setCell ⟨r, o, none⟩ v).cell? ⟨r, o', none⟩ = w.cell? ⟨r, o', none⟩ := World.cell?_setCell_other w ⟨r, o, none⟩ ⟨r, o', none⟩ v (fun e => h (congrArg Addr.off e))

/-- a box of eleven cells -/
def Box11 (w : World) (r : Nat) (v0 v1 v2 v3 v4 v5 v6 v7 v8 v9 v10 : Value) : Prop := w.cell? ⟨r, 0, none⟩ = some v0 ∧ w.cell? ⟨r, 1, none⟩ = some v1 ∧ w.cell? ⟨r, 2, none⟩ = some v2 ∧ w.cell? ⟨r, 3, none⟩ = some v3 ∧ w.cell? ⟨r, 4, none⟩ = some v4 ∧ w.cell? ⟨r, 5, none⟩ = some v5 ∧ w.cell? ⟨r, 6, none⟩ = some v6 ∧ w.cell? ⟨r, 7, none⟩ = some v7 ∧ w.cell? ⟨r, 8, none⟩ = some v8 ∧ w.cell? ⟨r, 9, none⟩ = some v9 ∧ w.cell? ⟨r, 10, none⟩ = some v10

theorem box11 {w : World} {r : Nat} (v0 v1 v2 v3 v4 v5 v6 v7 v8 v9 v10 : Value) (h : ∀ i, i < 11 → (w.cell? ⟨r, i, none⟩).isSome = true) : Box11 (((((((((((w.setCell ⟨r, 0, none⟩ (v0)).setCell ⟨r, 1, none⟩ (v1)).setCell ⟨r, 2, none⟩ (v2)).setCell ⟨r, 3, none⟩ (v3)).setCell ⟨r, 4, none⟩ (v4)).setCell ⟨r, 5, none⟩ (v5)).setCell ⟨r, 6, none⟩ (v6)).setCell ⟨r, 7, none⟩ (v7)).setCell ⟨r, 8, none⟩ (v8)).setCell ⟨r, 9, none⟩ (v9)).setCell ⟨r, 10, none⟩ (v10)) r v0 v1 v2 v3 v4 v5 v6 v7 v8 v9 v10 := by
  have ex : ∀ i, i < 11 → ∃ u, w.cell? ⟨r, i, none⟩ = some u := fun i hi => Option.isSome_iff_exists.1 (h i hi)
  obtain ⟨u0, s0⟩ := ex 0 (by omega)
  obtain ⟨u1, s1⟩ := ex 1 (by omega)
  obtain ⟨u2, s2⟩ := ex 2 (by omega)
  obtain ⟨u3, s3⟩ := ex 3 (by omega)
  obtain ⟨u4, s4⟩ := ex 4 (by omega)
  obtain ⟨u5, s5⟩ := ex 5 (by omega)
  obtain ⟨u6, s6⟩ := ex 6 (by omega)
  obtain ⟨u7, s7⟩ := ex 7 (by omega)
  obtain ⟨u8, s8⟩ := ex 8 (by omega)
  obtain ⟨u9, s9⟩ := ex 9 (by omega)
  obtain ⟨u10, s10⟩ := ex 10 (by omega)
  refine ⟨?_, ?_, ?_, ?_, ?_, ?_, ?_, ?_, ?_, ?_, ?_⟩
  · rw [far11 _ _ _ _ _ (by omega), far11 _ _ _ _ _ (by omega), far11 _ _ _ _ _ (by omega), far11 _ _ _ _ _ (by omega), far11 _ _ _ _ _ (by omega), far11 _ _ _ _ _ (by omega), far11 _ _ _ _ _ (by omega), far11 _ _ _ _ _ (by omega), far11 _ _ _ _ _ (by omega), far11 _ _ _ _ _ (by omega)]
    exact World.cell?_setCell_same _ _ _ s0
  · rw [far11 _ _ _ _ _ (by omega), far11 _ _ _ _ _ (by omega), far11 _ _ _ _ _ (by omega), far11 _ _ _ _ _ (by omega), far11 _ _ _ _ _ (by omega), far11 _ _ _ _ _ (by omega), far11 _ _ _ _ _ (by omega), far11 _ _ _ _ _ (by omega), far11 _ _ _ _ _ (by omega)]
    exact World.cell?_setCell_same _ _ _ ((far11 _ _ _ _ _ (by omega)).trans s1)
  · rw [far11 _ _ _ _ _ (by omega), far11 _ _ _ _ _ (by omega), far11 _ _ _ _ _ (by omega), far11 _ _ _ _ _ (by omega), far11 _ _ _ _ _ (by omega), far11 _ _ _ _ _ (by omega), far11 _ _ _ _ _ (by omega), far11 _ _ _ _ _ (by omega)]
    exact World.cell?_setCell_same _ _ _ ((far11 _ _ _ _ _ (by omega)).trans ((far11 _ _ _ _ _ (by omega)).trans s2))
  · rw [far11 _ _ _ _ _ (by omega), far11 _ _ _ _ _ (by omega), far11 _ _ _ _ _ (by omega), far11 _ _ _ _ _ (by omega), far11 _ _ _ _ _ (by omega), far11 _ _ _ _ _ (by omega), far11 _ _ _ _ _ (by omega)]
    exact World.cell?_setCell_same _ _ _ ((far11 _ _ _ _ _ (by omega)).trans ((far11 _ _ _ _ _ (by omega)).trans ((far11 _ _ _ _ _ (by omega)).trans s3)))
  · rw [far11 _ _ _ _ _ (by omega), far11 _ _ _ _ _ (by omega), far11 _ _ _ _ _ (by omega), far11 _ _ _ _ _ (by omega), far11 _ _ _ _ _ (by omega), far11 _ _ _ _ _ (by omega)]
    exact World.cell?_setCell_same _ _ _ ((far11 _ _ _ _ _ (by omega)).trans ((far11 _ _ _ _ _ (by omega)).trans ((far11 _ _ _ _ _ (by omega)).trans ((far11 _ _ _ _ _ (by omega)).trans s4))))
  · rw [far11 _ _ _ _ _ (by omega), far11 _ _ _ _ _ (by omega), far11 _ _ _ _ _ (by omega), far11 _ _ _ _ _ (by omega), far11 _ _ _ _ _ (by omega)]
    exact World.cell?_setCell_same _ _ _ ((far11 _ _ _ _ _ (by omega)).trans ((far11 _ _ _ _ _ (by omega)).trans ((far11 _ _ _ _ _ (by omega)).trans ((far11 _ _ _ _ _ (by omega)).trans ((far11 _ _ _ _ _ (by omega)).trans s5)))))
  · rw [far11 _ _ _ _ _ (by omega), far11 _ _ _ _ _ (by omega), far11 _ _ _ _ _ (by omega), far11 _ _ _ _ _ (by omega)]
    exact World.cell?_setCell_same _ _ _ ((far11 _ _ _ _ _ (by omega)).trans ((far11 _ _ _ _ _ (by omega)).trans ((far11 _ _ _ _ _ (by omega)).trans ((far11 _ _ _ _ _ (by omega)).trans ((far11 _ _ _ _ _ (by omega)).trans ((far11 _ _ _ _ _ (by omega)).trans s6))))))
  · rw [far11 _ _ _ _ _ (by omega), far11 _ _ _ _ _ (by omega), far11 _ _ _ _ _ (by omega)]
    exact World.cell?_setCell_same _ _ _ ((far11 _ _ _ _ _ (by omega)).trans ((far11 _ _ _ _ _ (by omega)).trans ((far11 _ _ _ _ _ (by omega)).trans ((far11 _ _ _ _ _ (by omega)).trans ((far11 _ _ _ _ _ (by omega)).trans ((far11 _ _ _ _ _ (by omega)).trans ((far11 _ _ _ _ _ (by omega)).trans s7)))))))
  · rw [far11 _ _ _ _ _ (by omega), far11 _ _ _ _ _ (by omega)]
    exact World.cell?_setCell_same _ _ _ ((far11 _ _ _ _ _ (by omega)).trans ((far11 _ _ _ _ _ (by omega)).trans ((far11 _ _ _ _ _ (by omega)).trans ((far11 _ _ _ _ _ (by omega)).trans ((far11 _ _ _ _ _ (by omega)).trans ((far11 _ _ _ _ _ (by omega)).trans ((far11 _ _ _ _ _ (by omega)).trans ((far11 _ _ _ _ _ (by omega)).trans s8))))))))
  · rw [far11 _ _ _ _ _ (by omega)]
    exact World.cell?_setCell_same _ _ _ ((far11 _ _ _ _ _ (by omega)).trans ((far11 _ _ _ _ _ (by omega)).trans ((far11 _ _ _ _ _ (by omega)).trans ((far11 _ _ _ _ _ (by omega)).trans ((far11 _ _ _ _ _ (by omega)).trans ((far11 _ _ _ _ _ (by omega)).trans ((far11 _ _ _ _ _ (by omega)).trans ((far11 _ _ _ _ _ (by omega)).trans ((far11 _ _ _ _ _ (by omega)).trans s9)))))))))
  · exact World.cell?_setCell_same _ _ _ ((far11 _ _ _ _ _ (by omega)).trans ((far11 _ _ _ _ _ (by omega)).trans ((far11 _ _ _ _ _ (by omega)).trans ((far11 _ _ _ _ _ (by omega)).trans ((far11 _ _ _ _ _ (by omega)).trans ((far11 _ _ _ _ _ (by omega)).trans ((far11 _ _ _ _ _ (by omega)).trans ((far11 _ _ _ _ _ (by omega)).trans ((far11 _ _ _ _ _ (by omega)).trans ((far11 _ _ _ _ _ (by omega)).trans s10))))))))))

/-- what lies in the answer's box, and where its parts lie -/
def CutC (w : World) (i : ByteArray) (h : Bool) (f : Ft) (s : Bool) (g : Ft) (wx : World) : Prop := ∃ xa xc ya yc za zc va vc, Box11 wx (w.heap.size + 1) (.string i) (.bool h) (.string f.1) (.int .i64 f.2.1) (.slice xa f.2.2.1.length xc) (.slice ya f.2.2.2.length yc) (.bool s) (.string g.1) (.int .i64 g.2.1) (.slice za g.2.2.1.length zc) (.slice va g.2.2.2.length vc) ∧ GotF (w.heap.size + 1 + 1) wx f xa ya ∧ GotF (w.heap.size + 1 + 1) wx g za va ∧ Below w.heap.size w wx

theorem turned11 (wy : World) (r : Nat) (v0 v1 v2 v3 v4 v5 v6 v7 v8 v9 v10 : Value) : Turned wy (((((((((((wy.setCell ⟨r, 0, none⟩ (v0)).setCell ⟨r, 1, none⟩ (v1)).setCell ⟨r, 2, none⟩ (v2)).setCell ⟨r, 3, none⟩ (v3)).setCell ⟨r, 4, none⟩ (v4)).setCell ⟨r, 5, none⟩ (v5)).setCell ⟨r, 6, none⟩ (v6)).setCell ⟨r, 7, none⟩ (v7)).setCell ⟨r, 8, none⟩ (v8)).setCell ⟨r, 9, none⟩ (v9)).setCell ⟨r, 10, none⟩ (v10)) (fun x => x = r) :=
  (((((((((((Turned.of_set (S := fun x => x = r) wy _ _ rfl).trans (Turned.of_set _ _ _ rfl)).trans (Turned.of_set _ _ _ rfl)).trans (Turned.of_set _ _ _ rfl)).trans (Turned.of_set _ _ _ rfl)).trans (Turned.of_set _ _ _ rfl)).trans (Turned.of_set _ _ _ rfl)).trans (Turned.of_set _ _ _ rfl)).trans (Turned.of_set _ _ _ rfl)).trans (Turned.of_set _ _ _ rfl)).trans (Turned.of_set _ _ _ rfl))

theorem l4End {w W wy : World} {i : ByteArray} {h : Bool} {f : Ft} {s : Bool} {g : Ft} {xa : Option Addr} {xc : Nat} {ya : Option Addr} {yc : Nat} {za : Option Addr} {zc : Nat} {va : Option Addr} {vc : Nat} (B0 : Below w.heap.size w W) (hz : W.heap.size = w.heap.size + 1 + 1) (hk : Kept1 W (w.heap.size + 1) wy) (h11 : ∀ i, i < 11 → (W.cell? ⟨w.heap.size + 1, i, none⟩).isSome = true)
    (g1 : GotF W.heap.size wy f xa ya) (g2 : GotF W.heap.size wy g za va) : CutC w i h f s g (((((((((((wy.setCell ⟨w.heap.size + 1, 0, none⟩ (.string i)).setCell ⟨w.heap.size + 1, 1, none⟩ (.bool h)).setCell ⟨w.heap.size + 1, 2, none⟩ (.string f.1)).setCell ⟨w.heap.size + 1, 3, none⟩ (.int .i64 f.2.1)).setCell ⟨w.heap.size + 1, 4, none⟩ (.slice xa f.2.2.1.length xc)).setCell ⟨w.heap.size + 1, 5, none⟩ (.slice ya f.2.2.2.length yc)).setCell ⟨w.heap.size + 1, 6, none⟩ (.bool s)).setCell ⟨w.heap.size + 1, 7, none⟩ (.string g.1)).setCell ⟨w.heap.size + 1, 8, none⟩ (.int .i64 g.2.1)).setCell ⟨w.heap.size + 1, 9, none⟩ (.slice za g.2.2.1.length zc)).setCell ⟨w.heap.size + 1, 10, none⟩ (.slice va g.2.2.2.length vc)) := by
  rw [hz] at g1 g2
  have ht := turned11 wy (w.heap.size + 1) (.string i) (.bool h) (.string f.1) (.int .i64 f.2.1) (.slice xa f.2.2.1.length xc) (.slice ya f.2.2.2.length yc) (.bool s) (.string g.1) (.int .i64 g.2.1) (.slice za g.2.2.1.length zc) (.slice va g.2.2.2.length vc)
  exact ⟨xa, xc, ya, yc, za, zc, va, vc, box11 _ _ _ _ _ _ _ _ _ _ _ (fun i hi => hk.some i (h11 i hi)), g1.turned ht fun x h1 _ e => by omega, g2.turned ht fun x h1 _ e => by omega, (hk.under B0).trans (ht.below (hk.under B0).size fun x e => by omega)⟩

set_option maxRecDepth 100000 in
set_option maxHeartbeats 16000000 in
theorem l4Copy_any (i : ByteArray) (h : Bool) (f : Ft) (s : Bool) (g : Ft) (pa : Option Addr) (pc : Nat) (ta : Option Addr) (tc : Nat) (qa : Option Addr) (qc : Nat) (ua : Option Addr) (uc : Nat) (w : World) (hp : PtsAt w pa f.2.2.1) (ht : TagsAt w ta f.2.2.2) (hq : PtsAt w qa g.2.2.1) (hu : TagsAt w ua g.2.2.2) (m1 : f.2.2.1.length ≤ 1048576) (m2 : f.2.2.2.length ≤ 1048576) (m3 : g.2.2.1.length ≤ 1048576) (m4 : g.2.2.2.length ≤ 1048576) (z1 : f.2.2.1.length = 0 → f.2.2.2.length = 0) (z2 : g.2.2.1.length = 0 → g.2.2.2.length = 0) :
    Calls Tryz.prog 71 #[.agg #[.string i, .bool h, .string f.1, .int .i64 f.2.1, .slice pa f.2.2.1.length pc, .slice ta f.2.2.2.length tc, .bool s, .string g.1, .int .i64 g.2.1, .slice qa g.2.2.1.length qc, .slice ua g.2.2.2.length uc]] w fun e w' => ∃ xa xc ya yc za zc va vc, e = .returned (.agg #[.string i, .bool h, .string f.1, .int .i64 f.2.1, .slice xa f.2.2.1.length xc, .slice ya f.2.2.2.length yc, .bool s, .string g.1, .int .i64 g.2.1, .slice za g.2.2.1.length zc, .slice va g.2.2.2.length vc]) ∧ GotF w.heap.size w' f xa ya ∧ GotF w.heap.size w' g za va ∧ Below w.heap.size w w' := by
  have KW : Hid (∀ u, Below w.heap.size w u → Calls Tryz.prog 73 #[.agg #[.string f.1, .int .i64 f.2.1, .slice pa f.2.2.1.length pc, .slice ta f.2.2.2.length tc]] u fun e w' => ∃ xa xc ya yc, e = .returned (.agg #[.string f.1, .int .i64 f.2.1, .slice xa f.2.2.1.length xc, .slice ya f.2.2.2.length yc]) ∧ GotF u.heap.size w' f xa ya ∧ Below u.heap.size u w') := fun u hb => l2Copy_side f pa pc ta tc u (hp.below hb) (ht.below hb) m1 m2 z1
  have KN : Hid (∀ u, Below w.heap.size w u → Calls Tryz.prog 73 #[.agg #[.string g.1, .int .i64 g.2.1, .slice qa g.2.2.1.length qc, .slice ua g.2.2.2.length uc]] u fun e w' => ∃ xa xc ya yc, e = .returned (.agg #[.string g.1, .int .i64 g.2.1, .slice xa g.2.2.1.length xc, .slice ya g.2.2.2.length yc]) ∧ GotF u.heap.size w' g xa ya ∧ Below u.heap.size u w') := fun u hb => l2Copy_side g qa qc ua uc u (hq.below hb) (hu.below hb) m3 m4 z2
  clear hp ht hq hu m1 m2 m3 m4 z1 z2
  go_enter Tryz.func71, Tryz.ntmps71
  go_upto_region 1 with (fail)
  obtain ⟨W, hW⟩ : ∃ W, W = ((w.alloc (.cells #[.string i, .bool h, .string f.1, .int .i64 f.2.1, .slice pa f.2.2.1.length pc, .slice ta f.2.2.2.length tc, .bool s, .string g.1, .int .i64 g.2.1, .slice qa g.2.2.1.length qc, .slice ua g.2.2.2.length uc] 102)).alloc (.cells #[.string ⟨#[]⟩, .bool false, .string ⟨#[]⟩, .int .i64 0, .slice none 0 0, .slice none 0 0, .bool false, .string ⟨#[]⟩, .int .i64 0, .slice none 0 0, .slice none 0 0] 102)) := ⟨_, rfl⟩
  have B0 : Hid (Below w.heap.size w W) := by rw [hW]; exact ((Below.refl _ _).alloc (Nat.le_refl _) _).alloc (by simp) _
  have hz : Hid (W.heap.size = w.heap.size + 1 + 1) := by show _ = _; rw [hW]; simp
  have SOF : Hid (∀ wy, Kept1 W (w.heap.size + 1) wy → wy.cell? ⟨w.heap.size, 0, none⟩ = some (.string i) ∧ wy.cell? ⟨w.heap.size, 1, none⟩ = some (.bool h) ∧ wy.cell? ⟨w.heap.size, 2, none⟩ = some (.string f.1) ∧ wy.cell? ⟨w.heap.size, 3, none⟩ = some (.int .i64 f.2.1) ∧ wy.cell? ⟨w.heap.size, 4, none⟩ = some (.slice pa f.2.2.1.length pc) ∧ wy.cell? ⟨w.heap.size, 5, none⟩ = some (.slice ta f.2.2.2.length tc) ∧ wy.cell? ⟨w.heap.size, 6, none⟩ = some (.bool s) ∧ wy.cell? ⟨w.heap.size, 7, none⟩ = some (.string g.1) ∧ wy.cell? ⟨w.heap.size, 8, none⟩ = some (.int .i64 g.2.1) ∧ wy.cell? ⟨w.heap.size, 9, none⟩ = some (.slice qa g.2.2.1.length qc) ∧ wy.cell? ⟨w.heap.size, 10, none⟩ = some (.slice ua g.2.2.2.length uc) ∧ wy.cell? ⟨(w.heap.size + 1), 0, none⟩ = some (cellOf wy (w.heap.size + 1) 0) ∧ wy.cell? ⟨(w.heap.size + 1), 1, none⟩ = some (cellOf wy (w.heap.size + 1) 1) ∧ wy.cell? ⟨(w.heap.size + 1), 2, none⟩ = some (cellOf wy (w.heap.size + 1) 2) ∧ wy.cell? ⟨(w.heap.size + 1), 3, none⟩ = some (cellOf wy (w.heap.size + 1) 3) ∧ wy.cell? ⟨(w.heap.size + 1), 4, none⟩ = some (cellOf wy (w.heap.size + 1) 4) ∧ wy.cell? ⟨(w.heap.size + 1), 5, none⟩ = some (cellOf wy (w.heap.size + 1) 5) ∧ wy.cell? ⟨(w.heap.size + 1), 6, none⟩ = some (cellOf wy (w.heap.size + 1) 6) ∧ wy.cell? ⟨(w.heap.size + 1), 7, none⟩ = some (cellOf wy (w.heap.size + 1) 7) ∧ wy.cell? ⟨(w.heap.size + 1), 8, none⟩ = some (cellOf wy (w.heap.size + 1) 8) ∧ wy.cell? ⟨(w.heap.size + 1), 9, none⟩ = some (cellOf wy (w.heap.size + 1) 9) ∧ wy.cell? ⟨(w.heap.size + 1), 10, none⟩ = some (cellOf wy (w.heap.size + 1) 10) ∧ wy.frozen? ⟨(w.heap.size + 1), 0, none⟩ = false ∧ wy.frozen? ⟨(w.heap.size + 1), 1, none⟩ = false ∧ wy.frozen? ⟨(w.heap.size + 1), 2, none⟩ = false ∧ wy.frozen? ⟨(w.heap.size + 1), 3, none⟩ = false ∧ wy.frozen? ⟨(w.heap.size + 1), 4, none⟩ = false ∧ wy.frozen? ⟨(w.heap.size + 1), 5, none⟩ = false ∧ wy.frozen? ⟨(w.heap.size + 1), 6, none⟩ = false ∧ wy.frozen? ⟨(w.heap.size + 1), 7, none⟩ = false ∧ wy.frozen? ⟨(w.heap.size + 1), 8, none⟩ = false ∧ wy.frozen? ⟨(w.heap.size + 1), 9, none⟩ = false ∧ wy.frozen? ⟨(w.heap.size + 1), 10, none⟩ = false ∧ Kept1 W (w.heap.size + 1) wy) := by
    intro wy hb
    have hz := hz.out
    have hc : ∀ o, wy.cell? ⟨w.heap.size, o, none⟩ = W.cell? ⟨w.heap.size, o, none⟩ := fun o => hb.grown.cell_far ⟨w.heap.size, o, none⟩ (by show w.heap.size < _; omega) (by simp)
    have hf : ∀ o, wy.frozen? ⟨w.heap.size + 1, o, none⟩ = W.frozen? ⟨w.heap.size + 1, o, none⟩ := fun o => hb.soft _ (by show w.heap.size + 1 < _; omega)
    refine ⟨?_, ?_, ?_, ?_, ?_, ?_, ?_, ?_, ?_, ?_, ?_, cellOf_some (hb.some _ ?_), cellOf_some (hb.some _ ?_), cellOf_some (hb.some _ ?_), cellOf_some (hb.some _ ?_), cellOf_some (hb.some _ ?_), cellOf_some (hb.some _ ?_), cellOf_some (hb.some _ ?_), cellOf_some (hb.some _ ?_), cellOf_some (hb.some _ ?_), cellOf_some (hb.some _ ?_), cellOf_some (hb.some _ ?_), ?_, ?_, ?_, ?_, ?_, ?_, ?_, ?_, ?_, ?_, ?_, hb⟩
    all_goals first | rw [hc, hW] | rw [hf, hW] | rw [hW]
    all_goals simp [go_sem]
  have zR : Hid (w.heap.size + 1 < W.heap.size) := by have := hz.out; show _ < _; omega
  have H11 : Hid (∀ i, i < 11 → (W.cell? ⟨w.heap.size + 1, i, none⟩).isSome = true) := by
    intro i hi
    rw [hW]
    rcases i with _ | _ | _ | _ | _ | _ | _ | _ | _ | _ | _ | i <;> first | (simp [go_sem]; done) | omega
  rw [← hW]
  have m1 : ¬ w.heap.size = W.heap.size := by have := hz.out; omega
  have m2 : ¬ w.heap.size + 1 = W.heap.size := by have := hz.out; omega
  clear hW
  go_cut [15] (fun s15 wx => CutC w i h f s g wx)
  case first =>
    go_region_held3 (fun wy => wy.cell? ⟨w.heap.size, 0, none⟩ = some (.string i) ∧ wy.cell? ⟨w.heap.size, 1, none⟩ = some (.bool h) ∧ wy.cell? ⟨w.heap.size, 2, none⟩ = some (.string f.1) ∧ wy.cell? ⟨w.heap.size, 3, none⟩ = some (.int .i64 f.2.1) ∧ wy.cell? ⟨w.heap.size, 4, none⟩ = some (.slice pa f.2.2.1.length pc) ∧ wy.cell? ⟨w.heap.size, 5, none⟩ = some (.slice ta f.2.2.2.length tc) ∧ wy.cell? ⟨w.heap.size, 6, none⟩ = some (.bool s) ∧ wy.cell? ⟨w.heap.size, 7, none⟩ = some (.string g.1) ∧ wy.cell? ⟨w.heap.size, 8, none⟩ = some (.int .i64 g.2.1) ∧ wy.cell? ⟨w.heap.size, 9, none⟩ = some (.slice qa g.2.2.1.length qc) ∧ wy.cell? ⟨w.heap.size, 10, none⟩ = some (.slice ua g.2.2.2.length uc) ∧ wy.cell? ⟨(w.heap.size + 1), 0, none⟩ = some (cellOf wy (w.heap.size + 1) 0) ∧ wy.cell? ⟨(w.heap.size + 1), 1, none⟩ = some (cellOf wy (w.heap.size + 1) 1) ∧ wy.cell? ⟨(w.heap.size + 1), 2, none⟩ = some (cellOf wy (w.heap.size + 1) 2) ∧ wy.cell? ⟨(w.heap.size + 1), 3, none⟩ = some (cellOf wy (w.heap.size + 1) 3) ∧ wy.cell? ⟨(w.heap.size + 1), 4, none⟩ = some (cellOf wy (w.heap.size + 1) 4) ∧ wy.cell? ⟨(w.heap.size + 1), 5, none⟩ = some (cellOf wy (w.heap.size + 1) 5) ∧ wy.cell? ⟨(w.heap.size + 1), 6, none⟩ = some (cellOf wy (w.heap.size + 1) 6) ∧ wy.cell? ⟨(w.heap.size + 1), 7, none⟩ = some (cellOf wy (w.heap.size + 1) 7) ∧ wy.cell? ⟨(w.heap.size + 1), 8, none⟩ = some (cellOf wy (w.heap.size + 1) 8) ∧ wy.cell? ⟨(w.heap.size + 1), 9, none⟩ = some (cellOf wy (w.heap.size + 1) 9) ∧ wy.cell? ⟨(w.heap.size + 1), 10, none⟩ = some (cellOf wy (w.heap.size + 1) 10) ∧ wy.frozen? ⟨(w.heap.size + 1), 0, none⟩ = false ∧ wy.frozen? ⟨(w.heap.size + 1), 1, none⟩ = false ∧ wy.frozen? ⟨(w.heap.size + 1), 2, none⟩ = false ∧ wy.frozen? ⟨(w.heap.size + 1), 3, none⟩ = false ∧ wy.frozen? ⟨(w.heap.size + 1), 4, none⟩ = false ∧ wy.frozen? ⟨(w.heap.size + 1), 5, none⟩ = false ∧ wy.frozen? ⟨(w.heap.size + 1), 6, none⟩ = false ∧ wy.frozen? ⟨(w.heap.size + 1), 7, none⟩ = false ∧ wy.frozen? ⟨(w.heap.size + 1), 8, none⟩ = false ∧ wy.frozen? ⟨(w.heap.size + 1), 9, none⟩ = false ∧ wy.frozen? ⟨(w.heap.size + 1), 10, none⟩ = false ∧ Kept1 W (w.heap.size + 1) wy)
      (first
        | with_reducible assumption
        | with_reducible exact SOF.out _ (Kept1.refl zR.out).drew
        | (go_split_ands
           rename_i hS
           with_reducible exact SOF.out _ (hS.below hbW))
        | (go_split_ands
           rename_i hS
           with_reducible exact SOF.out _ (hS.below hbN))
        | (go_split_ands
           rename_i hS
           with_reducible exact SOF.out _ (((((((((((hS.set _ _).set _ _).set _ _).set _ _).set _ _).set _ _).set _ _).set _ _).set _ _).set _ _).set _ _)))
      (first
        | (go_at_call 73
           with_reducible refine (KW.out _ ?_).mono ?_
           · (go_split_ands; rename_i hS; exact hS.under B0.out)
           rintro e wW ⟨xa, xc, ya, yc, rfl, gW, hbW⟩)
        | (go_at_call 73
           with_reducible refine (KN.out _ ?_).mono ?_
           · (go_split_ands; rename_i hS; exact hS.under B0.out)
           rintro e wN ⟨za, zc, va, vc, rfl, gN, hbN⟩))
    all_goals (go_wp2_with fail; go_meet; first | exact l4End B0.out hz.out ((keptA hbW zR.out).below hbN) H11.out ((gW.mono (Nat.le_refl W.heap.size)).below hbN) (gN.mono hbW.size) | exact l4End B0.out hz.out ((keptA hbN zR.out).below hbW) H11.out (gW.mono hbN.size) ((gN.mono (Nat.le_refl W.heap.size)).below hbW))
  case rest =>
    obtain ⟨xa, xc, ya, yc, za, zc, va, vc, ⟨r0, r1, r2, r3, r4, r5, r6, r7, r8, r9, r10⟩, hQ1, hQ2, hB⟩ := hcut
    have B := Lib.hid hB
    have Q1 := Lib.hid hQ1
    have Q2 := Lib.hid hQ2
    clear hQ1 hQ2 hB
    go_wp2
    refine bodyPost_ret (v := .agg #[.string i, .bool h, .string f.1, .int .i64 f.2.1, .slice xa f.2.2.1.length xc, .slice ya f.2.2.2.length yc, .bool s, .string g.1, .int .i64 g.2.1, .slice za g.2.2.1.length zc, .slice va g.2.2.2.length vc]) (by simp [results, Tryz.results71, go_sem, r0, r1, r2, r3, r4, r5, r6, r7, r8, r9, r10]) rfl ?_
    exact ⟨xa, xc, ya, yc, za, zc, va, vc, rfl, Q1.out.mono (by omega), Q2.out.mono (by omega), B.out⟩
end Go.Proofs.YtccgbengfmlgbaaGreat

namespace Go.Proofs.YtccgbengfmlgbaaGreat
set_option linter.unusedVariables false
open Go.ChangeShapes Go.WideShapes Go.ChangeAt Go.RowKit

theorem side_pos {i : ByteArray} {h : Bool} {f : Ft} (hs : sideGood i h f = true) : f.2.2.1.length = 0 → f.2.2.2.length = 0 := by
  intro h0
  unfold sideGood at hs
  cases h
  · simp only [ftEq, decide_eq_true_eq, Bool.false_eq_true, if_false] at hs
    rw [hs]
    rfl
  · simp only [ftGood, featOk, shapeOk, kindHolds, h0, if_true, Bool.and_eq_true] at hs
    obtain ⟨⟨⟨_, ⟨_, hk⟩, _⟩, _⟩, _⟩ := hs
    split at hk
    · simp at hk
    · split at hk
      · simp at hk
      · split at hk <;> simp at hk

theorem good_sides {ds : List Ch} (h : diffOk ds = true) {j : Nat} (hj : j < ds.length) : sideGood (cid ds j) (chd ds j) (cwf ds j) = true ∧ sideGood (cid ds j) (chs ds j) (cnf ds j) = true := by
  have h1 : chsGood ds = true := by
    unfold diffOk at h
    rw [Bool.and_eq_true] at h
    exact h.1
  have h2 := chsGood_at h1 hj
  unfold chGood chOkAt chOk at h2
  simp only [Bool.and_eq_true] at h2
  exact ⟨h2.1.2.1, h2.1.2.2.1⟩

/-- one part's length -/
def plen (c : Ch) : Nat → Nat
  | 0 => c.2.2.1.2.2.1.length
  | 1 => c.2.2.1.2.2.2.length
  | 2 => c.2.2.2.2.2.2.1.length
  | _ => c.2.2.2.2.2.2.2.length

theorem GotF.turned2 {lo : Nat} {w w' : World} {f : Ft} {xa ya : Option Addr} {S : Nat → Prop} (h : GotF lo w f xa ya) (ht : Turned w w' S) (h1 : f.2.2.1.length = 0 ∨ ∀ x, blk xa = some x → ¬ S x) (h2 : f.2.2.2.length = 0 ∨ ∀ x, blk ya = some x → ¬ S x) : GotF lo w' f xa ya := by
  obtain ⟨q1, q2, q3, q4⟩ := h
  refine ⟨?_, ?_, q3.imp id fun q x hx => ⟨(q x hx).1, Nat.lt_of_lt_of_le (q x hx).2 ht.size⟩, q4.imp id fun q x hx => ⟨(q x hx).1, Nat.lt_of_lt_of_le (q x hx).2 ht.size⟩⟩
  · rcases h1 with e | q
    · intro i hi
      omega
    · exact q1.turned ht q
  · rcases h2 with e | q
    · intro i hi
      omega
    · exact q2.turned ht q

/-- a list of changes that the model builds -/
structure RowC (w : World) (lo : Nat) (v : Value) (k : Nat) (ds : List Ch) (ad : Nat → PlC) : Prop where
  row : w.ownsRow lo 102 11 v k (flatC ds ad k)
  was : ∀ i, i < k → GotF lo w (cwf ds i) (ad i 0).1 (ad i 1).1
  now : ∀ i, i < k → GotF lo w (cnf ds i) (ad i 2).1 (ad i 3).1
  off : ∀ i, i < k → ∀ r, r < 4 → plen (cg ds i) r = 0 ∨ ∀ x, blk (ad i r).1 = some x → v.ownBlock ≠ some x

theorem rowC_none {w : World} {lo : Nat} {v : Value} {ds : List Ch} (ad : Nat → PlC) (h : w.ownsRow lo 102 11 v 0 []) : RowC w lo v 0 ds ad :=
  ⟨h, fun _ h => absurd h (Nat.not_lt_zero _), fun _ h => absurd h (Nat.not_lt_zero _), fun _ h => absurd h (Nat.not_lt_zero _)⟩

theorem RowC.below {w w' : World} {lo : Nat} {v : Value} {k : Nat} {ds : List Ch} {ad : Nat → PlC} (h : RowC w lo v k ds ad) (hb : Below w.heap.size w w') : RowC w' lo v k ds ad :=
  ⟨ownsRow_below h.row hb, fun i hi => (h.was i hi).below hb, fun i hi => (h.now i hi).below hb, h.off⟩

theorem gotF_off {lo : Nat} {w : World} {f : Ft} {xa ya : Option Addr} {N : Nat → Prop} (h : GotF lo w f xa ya) (hn : ∀ x, lo ≤ x → x < w.heap.size → ¬ N x) : (f.2.2.1.length = 0 ∨ ∀ x, blk xa = some x → ¬ N x) ∧ (f.2.2.2.length = 0 ∨ ∀ x, blk ya = some x → ¬ N x) :=
  ⟨h.2.2.1.imp id fun q x hx => hn x (q x hx).1 (q x hx).2, h.2.2.2.imp id fun q x hx => hn x (q x hx).1 (q x hx).2⟩

/-- one more change, appended -/
theorem RowC.step {wr w3 wb wa : World} {lo : Nat} {v : Value} {k : Nat} {ds : List Ch} {ad : Nat → PlC} {p : PlC} {gg cap' : Nat} (h : RowC wr lo v k ds ad) (hlo : lo ≤ wr.heap.size) (hb : Below wr.heap.size wr w3) (h3 : Below w3.heap.size w3 wb)
    (g1 : GotF wr.heap.size w3 (cwf ds k) (p 0).1 (p 1).1) (g2 : GotF wr.heap.size w3 (cnf ds k) (p 2).1 (p 3).1)
    (hrow : wa.ownsRow lo 102 11 (.slice (some ⟨gg, 0, none⟩) (k + 1) cap') (k + 1) (flatC ds ad k ++ cellsC (cg ds k) p)) (hg : wb.grownBy wa v.ownBlock) (hat : v.ownBlock = some gg ∨ w3.heap.size ≤ gg) :
    RowC wa lo (.slice (some ⟨gg, 0, none⟩) (k + 1) cap') (k + 1) ds (plSetC ad k p) := by
  have hbb : Below wr.heap.size wr wb := hb.trans (h3.mono hb.size)
  have hB := h.below hbb
  have hvl : ∀ x, v.ownBlock = some x → x < wr.heap.size := fun x hx => (h.row.lt x hx).2
  have ht' : Turned wb wa (fun x => v.ownBlock = some x) := Turned.of_grown hg fun x hx => hx
  have h3z := h3.size
  have hs3 := hb.size
  have gne : ∀ x, x < w3.heap.size → ¬ v.ownBlock = some x → ¬ gg = x := fun x hx hn e => by
    rcases hat with h1 | h1
    · exact hn (by rw [h1, e])
    · omega
  have own' : ∀ x, (Value.slice (some ⟨gg, 0, none⟩) (k + 1) cap').ownBlock = some x → gg = x := fun x hx => by simpa [Value.ownBlock] using hx
  have o1 := gotF_off (N := fun x => v.ownBlock = some x) g1 fun x hx _ e => by have := hvl x e; omega
  have o2 := gotF_off (N := fun x => v.ownBlock = some x) g2 fun x hx _ e => by have := hvl x e; omega
  have n1 := gotF_off (N := fun x => gg = x) g1 fun x hx hx2 => gne x hx2 fun e => by have := hvl x e; omega
  have n2 := gotF_off (N := fun x => gg = x) g2 fun x hx hx2 => gne x hx2 fun e => by have := hvl x e; omega
  refine ⟨?_, fun i hi => ?_, fun i hi => ?_, fun i hi r hr => ?_⟩
  · rw [flatC_succ, flatC_set _ _ _ _ _ (Nat.le_refl _), plSetC_at]
    exact hrow
  · by_cases e : i = k
    · subst e
      rw [plSetC_at]
      exact ((g1.below h3).turned2 ht' o1.1 o1.2).mono hlo
    · rw [plSetC_lt (by omega)]
      exact (hB.was i (by omega)).turned2 ht' (h.off i (by omega) 0 (by omega)) (h.off i (by omega) 1 (by omega))
  · by_cases e : i = k
    · subst e
      rw [plSetC_at]
      exact ((g2.below h3).turned2 ht' o2.1 o2.2).mono hlo
    · rw [plSetC_lt (by omega)]
      exact (hB.now i (by omega)).turned2 ht' (h.off i (by omega) 2 (by omega)) (h.off i (by omega) 3 (by omega))
  · by_cases e : i = k
    · subst e
      rw [plSetC_at]
      rcases r with _ | _ | _ | _ | r
      · exact n1.1.imp id fun q x hx e => q x hx (own' x e)
      · exact n1.2.imp id fun q x hx e => q x hx (own' x e)
      · exact n2.1.imp id fun q x hx e => q x hx (own' x e)
      · exact n2.2.imp id fun q x hx e => q x hx (own' x e)
      · omega
    · rw [plSetC_lt (by omega)]
      have q := h.off i (by omega) r hr
      have q2 : plen (cg ds i) r = 0 ∨ ∀ x, blk (ad i r).1 = some x → x < w3.heap.size := by
        have w1 := (h.was i (by omega)).2.2
        have w2 := (h.now i (by omega)).2.2
        rcases r with _ | _ | _ | _ | r
        · exact w1.1.imp id fun q x hx => Nat.lt_of_lt_of_le (q x hx).2 hs3
        · exact w1.2.imp id fun q x hx => Nat.lt_of_lt_of_le (q x hx).2 hs3
        · exact w2.1.imp id fun q x hx => Nat.lt_of_lt_of_le (q x hx).2 hs3
        · exact w2.2.imp id fun q x hx => Nat.lt_of_lt_of_le (q x hx).2 hs3
        · omega
      rcases q with q | q
      · exact .inl q
      · rcases q2 with q2 | q2
        · exact .inl q2
        · exact .inr fun x hx e => gne x (q2 x hx) (q x hx) (own' x e)

/-- a list of changes that lies in these blocks -/
def GotC (lo hi : Nat) (w : World) (a : Option Addr) (ds : List Ch) : Prop :=
  ChangesAt w a ds ∧ ∀ i, i < ds.length → ∃ b off pa pc ta tc qa qc ua uc, a = some ⟨b, off, none⟩ ∧ lo ≤ b ∧ b < hi ∧ ChAt w b (off + i * 11) (cid ds i) (chd ds i) (cwf ds i) (chs ds i) (cnf ds i) pa pc ta tc qa qc ua uc ∧
    (plen (cg ds i) 0 = 0 ∨ ∀ x, blk pa = some x → lo ≤ x ∧ x < hi) ∧ (plen (cg ds i) 1 = 0 ∨ ∀ x, blk ta = some x → lo ≤ x ∧ x < hi) ∧ (plen (cg ds i) 2 = 0 ∨ ∀ x, blk qa = some x → lo ≤ x ∧ x < hi) ∧ (plen (cg ds i) 3 = 0 ∨ ∀ x, blk ua = some x → lo ≤ x ∧ x < hi)

theorem gotC_nil (lo hi : Nat) (w : World) (a : Option Addr) : GotC lo hi w a [] := ⟨ChangesAt.nil _ _, fun _ h => absurd h (Nat.not_lt_zero _)⟩

theorem GotC.turned {lo hi : Nat} {w w' : World} {a : Option Addr} {ds : List Ch} {S : Nat → Prop} (h : GotC lo hi w a ds) (ht : Turned w w' S) (hS : ∀ x, lo ≤ x → x < hi → ¬ S x) : GotC lo hi w' a ds := by
  have key : ∀ i, i < ds.length → ∃ b off pa pc ta tc qa qc ua uc, a = some ⟨b, off, none⟩ ∧ lo ≤ b ∧ b < hi ∧ ChAt w' b (off + i * 11) (cid ds i) (chd ds i) (cwf ds i) (chs ds i) (cnf ds i) pa pc ta tc qa qc ua uc ∧
    (plen (cg ds i) 0 = 0 ∨ ∀ x, blk pa = some x → lo ≤ x ∧ x < hi) ∧ (plen (cg ds i) 1 = 0 ∨ ∀ x, blk ta = some x → lo ≤ x ∧ x < hi) ∧ (plen (cg ds i) 2 = 0 ∨ ∀ x, blk qa = some x → lo ≤ x ∧ x < hi) ∧ (plen (cg ds i) 3 = 0 ∨ ∀ x, blk ua = some x → lo ≤ x ∧ x < hi) := by
    intro i hlt
    obtain ⟨b, off, pa, pc, ta, tc, qa, qc, ua, uc, rfl, h1, h2, x, r1, r2, r3, r4⟩ := h.2 i hlt
    have nb := hS b h1 h2
    have pp : ∀ {q : Option Addr} {ps : List (Int × Int)}, PtsAt w q ps → (ps.length = 0 ∨ ∀ x, blk q = some x → lo ≤ x ∧ x < hi) → PtsAt w' q ps := fun hp hr => by
      rcases hr with e | e
      · intro i hi
        omega
      · exact hp.turned ht fun x hx => hS x (e x hx).1 (e x hx).2
    have tt : ∀ {q : Option Addr} {ts : List Tg}, TagsAt w q ts → (ts.length = 0 ∨ ∀ x, blk q = some x → lo ≤ x ∧ x < hi) → TagsAt w' q ts := fun hp hr => by
      rcases hr with e | e
      · intro i hi
        omega
      · exact hp.turned ht fun x hx => hS x (e x hx).1 (e x hx).2
    exact ⟨b, off, pa, pc, ta, tc, qa, qc, ua, uc, rfl, h1, h2, ⟨Nat.lt_of_lt_of_le x.lt ht.size, ht.cell x.c0 nb, ht.cell x.c1 nb, ht.cell x.c2 nb, ht.cell x.c3 nb, ht.cell x.c4 nb, ht.cell x.c5 nb, ht.cell x.c6 nb, ht.cell x.c7 nb, ht.cell x.c8 nb, ht.cell x.c9 nb, ht.cell x.c10 nb, pp x.pts r1, tt x.tags r2, pp x.qts r3, tt x.uags r4⟩, r1, r2, r3, r4⟩
  refine ⟨fun i hi => ?_, key⟩
  obtain ⟨b, off, pa, pc, ta, tc, qa, qc, ua, uc, e, _, _, x, _⟩ := key i hi
  exact ⟨b, off, pa, pc, ta, tc, qa, qc, ua, uc, e, x⟩

theorem GotC.below {lo hi : Nat} {w w' : World} {a : Option Addr} {ds : List Ch} (h : GotC lo hi w a ds) (hb : Below w.heap.size w w') : GotC lo hi w' a ds := h.turned (S := fun _ => False) (Turned.of_below hb) fun _ _ _ h => h

theorem RowC.got {w : World} {lo : Nat} {v : Value} {ds : List Ch} {ad : Nat → PlC} (h : RowC w lo v ds.length ds ad) : ∃ a cap, v = .slice a ds.length cap ∧ GotC lo w.heap.size w a ds := by
  obtain ⟨h1, ⟨h2, h3⟩ | ⟨b, cap2, cur, rfl, hb, hg, hc, hm, hs, hx⟩⟩ := h.row
  · obtain rfl := List.eq_nil_of_length_eq_zero h3
    exact ⟨none, 0, h2, gotC_nil _ _ _ _⟩
  · have hlt : b < w.heap.size := (Array.getElem?_eq_some_iff.1 hg).1
    have cell : ∀ j v, j < ds.length * 11 → (flatC ds ad ds.length)[j]? = some v → w.cell? ⟨b, 0 + j, none⟩ = some v := by
      intro j v hj hv
      rw [← hx, List.getElem?_take, if_pos hj] at hv
      simp only [World.cell?, hg, Option.isSome_none, Bool.false_eq_true, if_false, Nat.zero_add]
      simpa using hv
    have key : ∀ i, i < ds.length → ChAt w b (0 + i * 11) (cid ds i) (chd ds i) (cwf ds i) (chs ds i) (cnf ds i) (ad i 0).1 (ad i 0).2 (ad i 1).1 (ad i 1).2 (ad i 2).1 (ad i 2).2 (ad i 3).1 (ad i 3).2 := fun i hi => by
      have f : ∀ r, r < 11 → w.cell? ⟨b, 0 + i * 11 + r, none⟩ = some (chv (cg ds i) (ad i) r) := fun r hr => by
        have := cell (i * 11 + r) _ (by omega) (flatC_at ds ad ds.length i r hi hr)
        rwa [← Nat.add_assoc] at this
      exact ⟨hlt, f 0 (by omega), f 1 (by omega), f 2 (by omega), f 3 (by omega), f 4 (by omega), f 5 (by omega), f 6 (by omega), f 7 (by omega), f 8 (by omega), f 9 (by omega), f 10 (by omega), (h.was i hi).1, (h.was i hi).2.1, (h.now i hi).1, (h.now i hi).2.1⟩
    exact ⟨some ⟨b, 0, none⟩, cap2, rfl, fun i hi => ⟨b, 0, _, _, _, _, _, _, _, _, rfl, key i hi⟩, fun i hi => ⟨b, 0, _, _, _, _, _, _, _, _, rfl, hb, hlt, key i hi, (h.was i hi).2.2.1, (h.was i hi).2.2.2, (h.now i hi).2.2.1, (h.now i hi).2.2.2⟩⟩

/-- what turns a change back -/
def backC (c : Ch) : Ch := (c.1, c.2.2.2.1, c.2.2.2.2, c.2.1, c.2.2.1)
/-- what turns changes back -/
def backL (ds : List Ch) : List Ch := ds.map backC
def backR (ds : List Ch) : List Ch := if diffOk ds then backL ds else []

theorem backL_len (ds : List Ch) : (backL ds).length = ds.length := by simp [backL]
theorem cg_backL {ds : List Ch} {i : Nat} (h : i < ds.length) : cg (backL ds) i = backC (cg ds i) := by simp [cg, backL, h]
theorem backR_len (ds : List Ch) : (backR ds).length ≤ ds.length := by
  unfold backR
  split
  · rw [backL_len]
    omega
  · exact Nat.zero_le _
theorem backR_lens {ds : List Ch} {m : Int} (h : ChLen ds m) : ChLen (backR ds) m := by
  unfold backR
  split
  · intro j hj
    rw [backL_len] at hj
    have := h j hj
    unfold cid cwf cnf at this ⊢
    rw [cg_backL hj]
    exact ⟨this.1, this.2.2, this.2.1⟩
  · exact fun j hj => absurd hj (Nat.not_lt_zero _)
end Go.Proofs.YtccgbengfmlgbaaGreat

namespace Go.Proofs.YtccgbengfmlgbaaGreat
set_option linter.unusedVariables false
open Go.ChangeShapes Go.WideShapes Go.ChangeAt Go.RowKit Go.Maps

/-- the thing of a name, if there is one -/
def sideOf (t : List Ft) (id : ByteArray) : Bool × Ft := match t.find? (fun x => decide (x.1 = id)) with | some f => (true, f) | none => (false, zft)
/-- a change turns a list -/
def oneT (t : List Ft) (c : Ch) : List Ft := if c.2.2.2.1 then putL t c.2.2.2.2 else cutL t c.1
/-- the first changes turn a list -/
def turnTo (fs : List Ft) (ds : List Ch) : Nat → List Ft
  | 0 => fs
  | k + 1 => oneT (turnTo fs ds k) (cg ds k)
/-- what was is there -/
def fits (t : List Ft) (c : Ch) : Bool := (sideOf t c.1).1 == c.2.1 && ftEq (sideOf t c.1).2 c.2.2.1

theorem sideOf_nil (id : ByteArray) : sideOf [] id = (false, zft) := rfl
theorem sideOf_cons (u : Ft) (us : List Ft) (id : ByteArray) : sideOf (u :: us) id = if u.1 = id then (true, u) else sideOf us id := by
  unfold sideOf
  rw [List.find?_cons]
  by_cases h : u.1 = id <;> simp [h]

theorem sideOf_cut {id id' : ByteArray} (h : id' ≠ id) : ∀ t : List Ft, sideOf (cutL t id') id = sideOf t id
  | [] => rfl
  | u :: us => by
    have ih := sideOf_cut h us
    unfold cutL at ih ⊢
    rw [List.filter_cons]
    by_cases e : u.1 = id'
    · rw [if_neg (by simp [e]), ih, sideOf_cons, if_neg (by rw [e]; exact h)]
    · rw [if_pos (by simp [e]), sideOf_cons, sideOf_cons, ih]

theorem filter_cut (t : Ft) (us : List Ft) : us.filter (fun s => decide (kf s ≠ kf t)) = cutL us t.1 := by
  unfold cutL
  refine List.filter_congr fun x _ => ?_
  have : (kf x ≠ kf t) ↔ (x.1 ≠ t.1) := by
    constructor
    · intro h e
      exact h (by unfold kf; rw [e])
    · intro h e
      refine h ?_
      rw [← toList_inj, ByteArray.toList_eq, ByteArray.toList_eq]
      exact e
  exact decide_eq_decide.2 this

theorem sideOf_put {f : Ft} {id : ByteArray} (h : f.1 ≠ id) : ∀ t : List Ft, sideOf (putL t f) id = sideOf t id
  | [] => by
    unfold putL
    rw [sideOf_cons, if_neg h]
  | u :: us => by
    unfold putL
    split
    · rw [filter_cut, sideOf_cons, if_neg h, sideOf_cut h]
    · rw [sideOf_cons, sideOf_cons, sideOf_put h us]

theorem sideOf_first {fs : List Ft} {id : ByteArray} : sideOf fs id = if firstF fs id < fs.length then (true, fg fs (firstF fs id)) else (false, zft) := by
  induction fs with
  | nil => rfl
  | cons u us ih =>
    rw [sideOf_cons, ih]
    unfold firstF
    rw [List.findIdx_cons]
    by_cases e : u.1 = id
    · rw [if_pos e, if_pos (by simp [e])]
      simp [e, fg]
    · rw [if_neg e]
      simp only [e, decide_false, cond_false, List.length_cons, Nat.add_lt_add_iff_right]
      split
      · rename_i h
        simp [fg, h]
      · rfl

theorem oneT_other {t : List Ft} {c : Ch} {id : ByteArray} (h : c.1 ≠ id) (hc : sideGood c.1 c.2.2.2.1 c.2.2.2.2 = true) : sideOf (oneT t c) id = sideOf t id := by
  unfold oneT
  by_cases hs : c.2.2.2.1 = true
  · rw [if_pos hs]
    unfold sideGood at hs hc
    rw [if_pos hs, Bool.and_eq_true, decide_eq_true_eq] at hc
    exact sideOf_put (by rw [hc.2]; exact h) t
  · rw [if_neg hs]
    exact sideOf_cut h t

theorem cb_lt {ds : List Ch} (h : diffOk ds = true) {i j : Nat} (hij : i < j) (hj : j < ds.length) : cid ds i ≠ cid ds j := by
  have h1 : chsGood ds = true := by
    unfold diffOk at h
    rw [Bool.and_eq_true] at h
    exact h.1
  have step : ∀ j, j + 1 < ds.length → cb ds j < cb ds (j + 1) := fun j hj => by
    have := chsGood_at h1 hj
    simp [chGood] at this
    exact this.2
  have all : ∀ d i, i + d + 1 < ds.length → cb ds i < cb ds (i + d + 1) := by
    intro d
    induction d with
    | zero => exact fun i hi => step i hi
    | succ d ih => exact fun i hi => List.lt_trans (ih i (by omega)) (step _ hi)
  have := all (j - i - 1) i (by omega)
  rw [show i + (j - i - 1) + 1 = j by omega] at this
  intro e
  unfold cb at this
  rw [e] at this
  exact absurd this (List.lt_irrefl _)

theorem turnTo_side {fs : List Ft} {ds : List Ch} (h : diffOk ds = true) {j : Nat} (hj : j < ds.length) : ∀ k, k ≤ j → sideOf (turnTo fs ds k) (cid ds j) = sideOf fs (cid ds j)
  | 0, _ => rfl
  | k + 1, hk => by
    show sideOf (oneT (turnTo fs ds k) (cg ds k)) (cid ds j) = _
    rw [oneT_other (cb_lt h (by omega) hj) (good_sides h (by omega)).2]
    exact turnTo_side h hj k (by omega)

theorem fits_turn {fs : List Ft} {ds : List Ch} (h : diffOk ds = true) {j : Nat} (hj : j < ds.length) : fits (turnTo fs ds j) (cg ds j) = fits fs (cg ds j) := by
  have := turnTo_side (fs := fs) h hj j (Nat.le_refl _)
  unfold fits
  unfold cid at this
  rw [this]

/-- all changes fit -/
def fitsAll (fs : List Ft) (ds : List Ch) : Bool := (List.range ds.length).all fun k => fits fs (cg ds k)
theorem fitsAll_of {fs : List Ft} {ds : List Ch} (h : ∀ j, j < ds.length → fits fs (cg ds j) = true) : fitsAll fs ds = true := by
  unfold fitsAll
  rw [List.all_eq_true]
  exact fun j hj => h j (by simpa using hj)
theorem fitsAll_not {fs : List Ft} {ds : List Ch} {j : Nat} (hj : j < ds.length) (h : fits fs (cg ds j) = false) : fitsAll fs ds = false := by
  unfold fitsAll
  rw [List.all_eq_false]
  exact ⟨j, by simpa using hj, by simp [h]⟩

/-- what a map is turned into, and whether it can be -/
def doOk (fs : List Ft) (ds : List Ch) : Bool := sheetOk fs && (diffOk ds && (fitsAll fs ds && sheetOk (turnTo fs ds ds.length)))
def doR (fs : List Ft) (ds : List Ch) : List Ft := if doOk fs ds then turnTo fs ds ds.length else []

theorem cutL_len' (t : List Ft) (id : ByteArray) : (cutL t id).length ≤ t.length := List.length_filter_le _ _
theorem turnTo_len (fs : List Ft) (ds : List Ch) : ∀ k, (turnTo fs ds k).length ≤ fs.length + k
  | 0 => Nat.le_refl _
  | k + 1 => by
    have ih := turnTo_len fs ds k
    show (oneT (turnTo fs ds k) (cg ds k)).length ≤ _
    unfold oneT
    split
    · have := putL_len (cg ds k).2.2.2.2 (turnTo fs ds k)
      omega
    · have := cutL_len' (turnTo fs ds k) (cg ds k).1
      omega
theorem turnTo_lens {fs : List Ft} {ds : List Ch} {m : Int} (h : FeatsLen fs m) (hd : ChLen ds m) : ∀ k, k ≤ ds.length → FeatsLen (turnTo fs ds k) m
  | 0, _ => h
  | k + 1, hk => by
    have ih := turnTo_lens h hd k (by omega)
    show FeatsLen (oneT (turnTo fs ds k) (cg ds k)) m
    unfold oneT
    split
    · exact putL_lens ih (hd k (by omega)).2.2
    · exact cutL_lens _ ih

theorem sideOf_len {t : List Ft} {m : Int} (hm : 0 ≤ m) (h : FeatsLen t m) (id : ByteArray) : FtLen (sideOf t id).2 m := by
  rw [sideOf_first]
  split
  · rename_i hlt
    exact h _ hlt
  · exact ⟨by simpa [zft] using hm, by simpa [zft] using hm, by simpa [zft] using hm, fun j hj => absurd hj (Nat.not_lt_zero _)⟩

theorem look_hit2 {w : World} {b n : Nat} {D : DataW Value} {us : List En} (hown : w.ownsMap Tryz.prog 9 heldElem b n D) (ht : TellsF D us) {i : Nat} (hi : i < us.length) (hl : (ek us i).size ≤ maxLen) :
    (Instr.lookup 92 (.map (some b)) (.string (ek us i)) true).run Tryz.prog w = .ok (.tuple #[ev us i, .bool true]) w := by
  have hz : (zeroValue 34).run Tryz.prog w = .ok (.agg #[.string .empty, .int .i64 0, .slice none 0 0, .slice none 0 0]) w := by kernel_rfl
  obtain ⟨v, ps, hrun, hv⟩ := hown.look_ok keyT Tryz.underlying92 hz (zd := .held (.agg #[.string .empty, .int .i64 0, .slice none 0 0, .slice none 0 0])) (zp := []) rfl (Go.WideMaps.keyOf_string_mk Tryz.underlying9 hl)
  simp only [heldElem, Option.some.injEq, Prod.mk.injEq] at hv
  have hm : us[i] ∈ us := List.getElem_mem hi
  have e : (ek us i) = us[i].1 := by simp [ek, hi]
  have e2 : (ev us i) = us[i].2 := by simp [ev, hi]
  have h1 := ht.at_ us[i] hm
  rw [e] at hrun hv ⊢
  have hh : Maps.has D (.string us[i].1.data.toList) = true := has_true_of_atKey h1
  have h3 := hv.1
  rw [show D.atKey (.string us[i].1.data.toList) _ = .held (entV us[i]) from h1 _] at h3
  rw [hrun, DataW.held.inj h3, hh, e2]
  rfl

theorem look_miss2 {w0 w : World} {b n : Nat} {D : DataW Value} {us : List En} {fs : List Ft} {id : ByteArray} (hown : w.ownsMap Tryz.prog 9 heldElem b n D) (ht : TellsF D us) (he : Ents w0 us fs) (hno : ∀ j, j < fs.length → fid fs j ≠ id) (hl : id.size ≤ maxLen) :
    (Instr.lookup 92 (.map (some b)) (.string id) true).run Tryz.prog w = .ok (.tuple #[.agg #[.string .empty, .int .i64 0, .slice none 0 0, .slice none 0 0], .bool false]) w := by
  have hz : (zeroValue 34).run Tryz.prog w = .ok (.agg #[.string .empty, .int .i64 0, .slice none 0 0, .slice none 0 0]) w := by kernel_rfl
  obtain ⟨v, ps, hrun, hv⟩ := hown.look_ok keyT Tryz.underlying92 hz (zd := .held (.agg #[.string .empty, .int .i64 0, .slice none 0 0, .slice none 0 0])) (zp := []) rfl (Go.WideMaps.keyOf_string_mk Tryz.underlying9 hl)
  simp only [heldElem, Option.some.injEq, Prod.mk.injEq] at hv
  have hn : Maps.has D (.string id.data.toList) = false := by
    cases hh : Maps.has D (.string id.data.toList)
    · rfl
    · obtain ⟨t, h1, h2⟩ := ht.has _ hh
      obtain ⟨j, hj, e⟩ := List.getElem_of_mem h1
      have hj' : j < fs.length := by rw [← he.1]; exact hj
      rw [ent_get he hj'] at e
      refine absurd ?_ (hno j hj')
      rw [← toList_inj, ByteArray.toList_eq, ByteArray.toList_eq, ← h2, ← e]
      rfl
  have h3 := hv.1
  rw [atKey_of_not_has hn] at h3
  rw [hrun, DataW.held.inj h3, hn]
end Go.Proofs.YtccgbengfmlgbaaGreat

namespace Go.Proofs.YtccgbengfmlgbaaGreat
set_option linter.unusedVariables false
open Go.ChangeShapes Go.WideShapes Go.ChangeAt Go.RowKit Go.Deep

set_option maxRecDepth 100000 in
set_option maxHeartbeats 4000000 in
theorem l3Copy_any (a : Option Addr) (cap : Nat) (fs : List Ft) (w : World) (hp : FeatsAt w a fs) (hl : fs.length ≤ 1048576) (hL : FeatsLen fs 1048576) (hpos : ∀ i, i < fs.length → 0 < (fps fs i).length) :
    Calls Tryz.prog 108 #[.slice a fs.length cap] w fun e w' => (∃ v, e = .returned v ∧ GotL w.heap.size w'.heap.size w' v fs) ∧ Below w.heap.size w w' := by
  obtain ⟨i0, hi, hz0, hz1, hz2⟩ := info_parts infoF
  have HI := Lib.hid hi
  have HZ0 := Lib.hid hz0
  have HZ1 := Lib.hid hz1
  have HZ2 := Lib.hid hz2
  have HP := Lib.hid hp
  have HL := Lib.hid hL
  have HQ := Lib.hid hpos
  clear hi hz0 hz1 hz2 hp hL hpos
  go_enter Tryz.func108, Tryz.ntmps108
  go_wp2
  go_loopw [3, 4] (fun s i wr => ∃ (k : Nat) (v : Value) (ad : Nat → Pl), k ≤ fs.length ∧ i = .int .i64 k ∧ v = s ∧ Row wr (fun x => w.heap.size ≤ x) w.heap.size v k fs ad ∧ Below w.heap.size w wr) (fun _ i _ => fs.length - (intOf i).toNat)
  case atStart => exact ⟨0, _, fun _ => ((none, 0), (none, 0)), Nat.zero_le _, rfl, rfl, ⟨World.ownsRow_made w #[] 0 (Nat.le_refl _) (by unfold maxLen; omega) rfl, fun _ h => absurd h (Nat.not_lt_zero _), fun _ h => absurd h (Nat.not_lt_zero _), fun _ h => absurd h (Nat.not_lt_zero _), fun _ h => absurd h (Nat.not_lt_zero _)⟩, (Below.refl _ _).alloc (Nat.le_refl _) _⟩
  case round =>
    obtain ⟨k, v, ad, hk, rfl, rfl, hro, hbel⟩ := hrel
    have hsz := hbel.size
    have HR := Lib.hid hro
    have HB := Lib.hid hbel
    by_cases hlt : k < fs.length
    · obtain ⟨b, off, pa, pc, ta, tc, rfl, hb, hc1, hc2, hc3, hc4, hpp, htt⟩ := HP.out k hlt
      rw [← hbel.cell (p := ⟨b, _, none⟩) hb] at hc1 hc2 hc3 hc4
      obtain ⟨l1, l2, l3, _⟩ := HL.out k hlt
      have h0 := HQ.out k hlt
      have D1 := Lib.hid (hpp.below hbel)
      have D2 := Lib.hid (htt.below hbel)
      have HV : Hid (∀ x, v.ownBlock = some x → w.heap.size ≤ x ∧ x < wr.heap.size) := fun x hx => hro.row.lt x hx
      clear hro hbel hpp htt
      go_wp2_with fail
      refine (l2Copy_got _ _ _ _ _ _ _ _ _ D1.out D2.out (by omega) h0 (by omega)).mono ?_
      rintro e w3 ⟨⟨v3, rfl, hg3⟩, hb3⟩
      obtain ⟨qa, qc, sa, sc, rfl, q1, q2, q3, q4⟩ := hg3
      have E1 := Lib.hid q1
      have E2 := Lib.hid q2
      have E3 := Lib.hid q3
      have E4 := Lib.hid q4
      have B3 := Lib.hid hb3
      have R3 : Hid (w3.ownsRow w.heap.size 34 4 v k (flatF fs ad k)) := ownsRow_below HR.out.row hb3
      have hz3 := hb3.size
      have A3 : Hid (∀ o, Below w3.heap.size w3 (w3.alloc o)) := fun o => (Below.refl _ _).alloc (Nat.le_refl _) _
      clear hb3 q1 q2 q3 q4 hc1 hc2 hc3 hc4
      go_wp2_with (at_builtin; refine wpList_append_lies _ (by rfl) _ _ _ (by rfl) w.heap.size 34 i0 _ 4 72 Tryz.underlying46 HI.out HZ0.out HZ1.out HZ2.out rfl (by omega) v k (flatF fs ad k) (by rfl) (R3.out.alloc _) ⟨w3.heap.size, 0, none⟩ 1 1 (cellsF (fg fs k) ((qa, qc), (sa, sc))) (by rfl) (by rfl) (World.news_of_block (cs := #[.string (fid fs k), .int .i64 (fkd fs k), .slice qa (fps fs k).length qc, .slice sa (fts fs k).length sc]) (t := 34) (fr := (0, 0)) (heap_alloc_new w3 _)) (by simp [Value.oneCell', cellsF]) (by omega) (by unfold maxLen; omega) (by omega) (by simp; omega) (w3.heap.size + 1) (by simp) ?_; intro gg cap' wa hown1 hgrow hat hlt')
      have HS : Hid (Row wa (fun x => w.heap.size ≤ x) w.heap.size (.slice (some ⟨gg, 0, none⟩) (k + 1) cap') (k + 1) fs (plSet ad k ((qa, qc), (sa, sc)))) := by
        refine HR.out.step B3.out (A3.out _) (by simp) E1.out ?_ E2.out ?_ hown1 hgrow hat
        · exact E3.out.imp (fun h => h) fun q x hx => ⟨by have := (q x hx).1; omega, (q x hx).2, fun e => by have h1 := (HV.out x e).2; have h2 := (q x hx).1; omega⟩
        · exact E4.out.imp (fun h => h) fun q x hx => ⟨by have := (q x hx).1; omega, (q x hx).2, fun e => by have h1 := (HV.out x e).2; have h2 := (q x hx).1; omega⟩
      have HG := Lib.hid hgrow
      clear hown1 hgrow hat
      go_roundw
      case rel => exact ⟨k + 1, _, _, by omega, by go_num, rfl, HS.out, ((HB.out.trans (B3.out.mono hsz)).alloc (by omega) _).grown HG.out (by simp; omega) (fun x hx => (HV.out x hx).1)⟩
      case measure => simp [intOf]; omega
    · obtain rfl : k = fs.length := by omega
      have HG := Lib.hid HR.out.got
      clear hro hbel
      go_wp2
      go_ret
      exact ⟨⟨v, rfl, HG.out⟩, HB.out⟩

theorem cutL_pos {fs : List Ft} (id : ByteArray) (hok : sheetOk fs = true) : ∀ i, i < (cutL fs id).length → 0 < (fps (cutL fs id) i).length := by
  intro i hi
  have hm : (cutL fs id)[i] ∈ fs := (List.mem_filter.1 (List.getElem_mem hi)).1
  obtain ⟨j, hj, e⟩ := List.getElem_of_mem hm
  have := ftOk_pts (good_ok hok hj)
  unfold fps at this ⊢
  rwa [fg_get hi, ← e, ← fg_get hj]

end Go.Proofs.YtccgbengfmlgbaaGreat

namespace Go.Proofs.YtccgbengfmlgbaaGreat
set_option linter.unusedVariables false
open Go.ChangeShapes Go.WideShapes Go.ChangeAt Go.RowKit Go.Deep

set_option maxRecDepth 100000 in
set_option maxHeartbeats 8000000 in
theorem l3Put_any (a : Option Addr) (cap : Nat) (fs : List Ft) (f : Ft) (pf tf : Option Addr) (pfc tfc : Nat) (w : World) (hp : FeatsAt w a fs) (hl : fs.length ≤ 1048576) (hpf : PtsAt w pf f.2.2.1) (htf : TagsAt w tf f.2.2.2) :
    Calls Tryz.prog 142 #[.slice a fs.length cap, .agg #[.string f.1, .int .i64 f.2.1, .slice pf f.2.2.1.length pfc, .slice tf f.2.2.2.length tfc]] w fun e w' => (∃ a' cap', e = .returned (.slice a' (putL fs f).length cap') ∧ FeatsAt w' a' (putL fs f)) ∧ Below w.heap.size w w' := by
  obtain ⟨i0, hi, hz0, hz1, hz2⟩ := info_parts infoF
  have HI := Lib.hid hi
  have HZ0 := Lib.hid hz0
  have HZ1 := Lib.hid hz1
  have HZ2 := Lib.hid hz2
  have HP := Lib.hid hp
  have FP := Lib.hid hpf
  have FT := Lib.hid htf
  have PF := Lib.hid (pts_low hpf)
  have TF := Lib.hid (tags_low htf)
  clear hi hz0 hz1 hz2 hp hpf htf
  go_enter Tryz.func142, Tryz.ntmps142
  go_wp2
  go_loopw [5, 6, 7] (fun s d i wr => ∃ (j : Nat) (v : Value) (o : List Ft) (q : Bool) (ad : Nat → Pl), j ≤ fs.length ∧ i = .int .i64 j ∧ d = .bool q ∧ v = s ∧ PutsL fs f j o q ∧ o.length ≤ j + q.toNat ∧ Row wr (fun x => x < w.heap.size) (w.heap.size + 1) v o.length o ad ∧ Box4 wr w.heap.size (.string f.1) (.int .i64 f.2.1) (.slice pf f.2.2.1.length pfc) (.slice tf f.2.2.2.length tfc) ∧ Below w.heap.size w wr) (fun _ _ i _ => fs.length - (intOf i).toNat)
  case atStart =>
    have hro := World.ownsRow_made (w.alloc (.cells #[.string f.1, .int .i64 f.2.1, .slice pf f.2.2.1.length pfc, .slice tf f.2.2.2.length tfc] 34)) #[] 0 (base := w.heap.size + 1) (by simp) (by unfold maxLen; omega) (e := 34) (size := 4) (by simp)
    refine ⟨0, _, [], false, fun _ => ((none, 0), (none, 0)), Nat.zero_le _, rfl, rfl, rfl, PutsL.start _ _, by simp, ⟨by simpa [flatF] using hro, fun _ h => absurd h (Nat.not_lt_zero _), fun _ h => absurd h (Nat.not_lt_zero _), fun _ h => absurd h (Nat.not_lt_zero _), fun _ h => absurd h (Nat.not_lt_zero _)⟩, (Box4.new w _ _ _ _ _).alloc _, ((Below.refl _ _).alloc (Nat.le_refl _) _).alloc (by simp) _⟩
  case round =>
    obtain ⟨j, v, o, q, ad, hj, rfl, rfl, rfl, hP, hol, hro, hbox, hbel⟩ := hrel
    have HR := Lib.hid hro
    have HBX := Lib.hid hbox
    have HB := Lib.hid hbel
    have hsz : w.heap.size < wr.heap.size := hbox.lt
    have HV : Hid (∀ x, v.ownBlock = some x → w.heap.size + 1 ≤ x) := fun x hx => (hro.row.lt x hx).1
    have hol' : o.length ≤ j + 1 := by cases q <;> simp at hol <;> omega
    have FPr := Lib.hid (FP.out.below hbel)
    have FTr := Lib.hid (FT.out.below hbel)
    obtain ⟨x0, x1, x2, x3⟩ := hbox
    by_cases hlt : j < fs.length
    · obtain ⟨b, off, pa, pc, ta, tc, rfl, hb, hc1, hc2, hc3, hc4, hpp, htt⟩ := HP.out j hlt
      rw [← hbel.cell (p := ⟨b, _, none⟩) hb] at hc1 hc2 hc3 hc4
      have hst := hP.step hlt
      have PL := Lib.hid (pts_low hpp)
      have TL := Lib.hid (tags_low htt)
      have D1 := Lib.hid (hpp.below hbel)
      have D2 := Lib.hid (htt.below hbel)
      clear hro hbel hP hpp htt
      have hblt : b < wr.heap.size := by omega
      have nbw : ¬ b = w.heap.size := by omega
      by_cases he : fid fs j = f.1
      · have hk : kf (fg fs j) = kf f := kf_eq.2 he
        have e2 := bytes_beq (fid fs j) f.1
        rw [decide_eq_true he] at e2
        have e1 : Op.bytesLess (fid fs j).toList f.1.toList = false := less_not (by show ¬ kf (fg fs j) < kf f; rw [hk]; exact List.lt_irrefl _)
        have hle : kf f ≤ kf (fg fs j) := by rw [hk]; exact List.le_refl _
        cases q
        · replace hol : o.length ≤ j := hol
          have HS : Hid (PutsL fs f (j + 1) (o ++ [f]) true) := by simpa [Hid, hle, hk] using hst
          clear hst he hle hk
          go_wp2
          go_quiet (fail)
          have Bq : Below wr.heap.size wr (wr.drewN nq) := below_drewN (Below.refl _ _) nq
          have zq : (wr.drewN nq).heap.size = wr.heap.size := rfl
          generalize wr.drewN nq = W1 at *
          replace HR := Lib.hid (HR.out.below Bq)
          replace HBX := Lib.hid (HBX.out.later Bq)
          replace HB := Lib.hid (HB.out.trans (Bq.mono HB.out.size))
          replace FPr := Lib.hid (FPr.out.below Bq)
          replace FTr := Lib.hid (FTr.out.below Bq)
          replace D1 := Lib.hid (D1.out.below Bq)
          replace D2 := Lib.hid (D2.out.below Bq)
          replace hc1 := cell_later Bq hc1
          replace hc2 := cell_later Bq hc2
          replace hc3 := cell_later Bq hc3
          replace hc4 := cell_later Bq hc4
          replace x0 := cell_later Bq x0
          replace x1 := cell_later Bq x1
          replace x2 := cell_later Bq x2
          replace x3 := cell_later Bq x3
          replace hsz : w.heap.size < W1.heap.size := by omega
          replace hblt : b < W1.heap.size := by omega
          clear Bq zq
          have ROW := Lib.hid HR.out.row
          go_wp2_with (at_builtin; refine wpList_append_lies _ (by rfl) _ _ _ (by rfl) (w.heap.size + 1) 34 i0 _ 4 72 Tryz.underlying46 HI.out HZ0.out HZ1.out HZ2.out rfl (by omega) (v) (o.length) (flatF (o) ad (o.length)) (by rfl) (ROW.out.alloc _) ⟨W1.heap.size, 0, none⟩ 1 1 (cellsF f ((pf, pfc), (tf, tfc))) (by rfl) (by rfl) (World.news_of_block (cs := #[.string f.1, .int .i64 f.2.1, .slice pf f.2.2.1.length pfc, .slice tf f.2.2.2.length tfc]) (t := 34) (fr := (0, 0)) (heap_alloc_new W1 _)) (by simp [Value.oneCell', cellsF]) (by omega) (by unfold maxLen; omega) (by omega) (by simp; omega) (W1.heap.size + 1) (by simp) ?_; intro gg1 cap1 wa1 hown1 hgrow1 hat1 hlt1; clear ROW; have vw : (v).ownBlock ≠ some w.heap.size := (fun e => by have := HV.out _ e; omega); replace HR : Hid (Row wa1 (fun x => x < w.heap.size) (w.heap.size + 1) (Value.slice (some ⟨gg1, 0, none⟩) (o.length + 1) cap1) (o ++ [f]).length (o ++ [f]) (plSet ad (o.length) ((pf, pfc), (tf, tfc)))) := HR.out.snoc FPr.out (PF.out.imp (fun h => h) fun q x hx => ⟨q x hx, by have := q x hx; omega, fun e => by have h1 := HV.out x e; have h2 := q x hx; omega⟩) FTr.out (TF.out.imp (fun h => h) fun q x hx => ⟨q x hx, by have := q x hx; omega, fun e => by have h1 := HV.out x e; have h2 := q x hx; omega⟩) (by simpa using hown1) hgrow1 hat1; replace HBX := Lib.hid (BoxF.grown HBX.out hgrow1 vw); replace HB : Hid (Below w.heap.size w wa1) := (HB.out.alloc HB.out.size _).grown hgrow1 (by simp; omega) (fun x hx => by have := HV.out x hx; omega); have vb : (v).ownBlock ≠ some b := (fun e => by have := HV.out b e; omega); replace hc1 := HGF_cell hgrow1 hblt hc1 vb; replace hc2 := HGF_cell hgrow1 hblt hc2 vb; replace hc3 := HGF_cell hgrow1 hblt hc3 vb; replace hc4 := HGF_cell hgrow1 hblt hc4 vb; replace x0 := HGF_cell hgrow1 hsz x0 vw; replace x1 := HGF_cell hgrow1 hsz x1 vw; replace x2 := HGF_cell hgrow1 hsz x2 vw; replace x3 := HGF_cell hgrow1 hsz x3 vw; replace D1 := Lib.hid (PtsKeep D1.out hgrow1 (PL.out.imp (fun h => h) fun q x hx e => by have h1 := q x hx; have h2 := HV.out x e; omega)); replace D2 := Lib.hid (TagsKeep D2.out hgrow1 (TL.out.imp (fun h => h) fun q x hx e => by have h1 := q x hx; have h2 := HV.out x e; omega)); replace FPr := Lib.hid (PtsKeep FPr.out hgrow1 (PF.out.imp (fun h => h) fun q x hx e => by have h1 := q x hx; have h2 := HV.out x e; omega)); replace FTr := Lib.hid (TagsKeep FTr.out hgrow1 (TF.out.imp (fun h => h) fun q x hx e => by have h1 := q x hx; have h2 := HV.out x e; omega)); have hszA : W1.heap.size < wa1.heap.size := (by have h := hgrow1.size; simp at h; omega); replace hsz : w.heap.size < wa1.heap.size := (by omega); replace hblt : b < wa1.heap.size := (by omega); replace HV : Hid (∀ x, (Value.slice (some ⟨gg1, 0, none⟩) (o.length + 1) cap1).ownBlock = some x → w.heap.size + 1 ≤ x) := (fun x e => (hown1.lt x e).1); clear vb; clear hown1 hgrow1 hat1 vw)
          go_wp2
          go_quiet (fail)
          have Bq : Below wa1.heap.size wa1 (wa1.drewN nq) := below_drewN (Below.refl _ _) nq
          have zq : (wa1.drewN nq).heap.size = wa1.heap.size := rfl
          generalize wa1.drewN nq = W2 at *
          replace HR := Lib.hid (HR.out.below Bq)
          replace HBX := Lib.hid (HBX.out.later Bq)
          replace HB := Lib.hid (HB.out.trans (Bq.mono HB.out.size))
          replace FPr := Lib.hid (FPr.out.below Bq)
          replace FTr := Lib.hid (FTr.out.below Bq)
          replace D1 := Lib.hid (D1.out.below Bq)
          replace D2 := Lib.hid (D2.out.below Bq)
          replace hc1 := cell_later Bq hc1
          replace hc2 := cell_later Bq hc2
          replace hc3 := cell_later Bq hc3
          replace hc4 := cell_later Bq hc4
          replace x0 := cell_later Bq x0
          replace x1 := cell_later Bq x1
          replace x2 := cell_later Bq x2
          replace x3 := cell_later Bq x3
          replace hsz : w.heap.size < W2.heap.size := by omega
          replace hblt : b < W2.heap.size := by omega
          clear Bq zq
          go_wp2
          go_roundw
          case rel => exact ⟨j + 1, _, o ++ [f], _, _, by omega, by go_num, rfl, rfl, HS.out, by simp; omega, HR.out, HBX.out, HB.out⟩
          case measure => simp [intOf]; omega
        · have HS : Hid (PutsL fs f (j + 1) o true) := by simpa [Hid, hk] using hst
          clear hst he hle hk
          go_wp2
          go_quiet (fail)
          have Bq : Below wr.heap.size wr (wr.drewN nq) := below_drewN (Below.refl _ _) nq
          have zq : (wr.drewN nq).heap.size = wr.heap.size := rfl
          generalize wr.drewN nq = W1 at *
          replace HR := Lib.hid (HR.out.below Bq)
          replace HBX := Lib.hid (HBX.out.later Bq)
          replace HB := Lib.hid (HB.out.trans (Bq.mono HB.out.size))
          replace FPr := Lib.hid (FPr.out.below Bq)
          replace FTr := Lib.hid (FTr.out.below Bq)
          replace D1 := Lib.hid (D1.out.below Bq)
          replace D2 := Lib.hid (D2.out.below Bq)
          replace hc1 := cell_later Bq hc1
          replace hc2 := cell_later Bq hc2
          replace hc3 := cell_later Bq hc3
          replace hc4 := cell_later Bq hc4
          replace x0 := cell_later Bq x0
          replace x1 := cell_later Bq x1
          replace x2 := cell_later Bq x2
          replace x3 := cell_later Bq x3
          replace hsz : w.heap.size < W1.heap.size := by omega
          replace hblt : b < W1.heap.size := by omega
          clear Bq zq
          go_wp2
          go_quiet (fail)
          have Bq : Below W1.heap.size W1 (W1.drewN nq) := below_drewN (Below.refl _ _) nq
          have zq : (W1.drewN nq).heap.size = W1.heap.size := rfl
          generalize W1.drewN nq = W2 at *
          replace HR := Lib.hid (HR.out.below Bq)
          replace HBX := Lib.hid (HBX.out.later Bq)
          replace HB := Lib.hid (HB.out.trans (Bq.mono HB.out.size))
          replace FPr := Lib.hid (FPr.out.below Bq)
          replace FTr := Lib.hid (FTr.out.below Bq)
          replace D1 := Lib.hid (D1.out.below Bq)
          replace D2 := Lib.hid (D2.out.below Bq)
          replace hc1 := cell_later Bq hc1
          replace hc2 := cell_later Bq hc2
          replace hc3 := cell_later Bq hc3
          replace hc4 := cell_later Bq hc4
          replace x0 := cell_later Bq x0
          replace x1 := cell_later Bq x1
          replace x2 := cell_later Bq x2
          replace x3 := cell_later Bq x3
          replace hsz : w.heap.size < W2.heap.size := by omega
          replace hblt : b < W2.heap.size := by omega
          clear Bq zq
          go_wp2
          go_roundw
          case rel => exact ⟨j + 1, _, o, _, _, by omega, by go_num, rfl, rfl, HS.out, by simp at hol ⊢; omega, HR.out, HBX.out, HB.out⟩
          case measure => simp [intOf]; omega
      · have hk : ¬ kf (fg fs j) = kf f := fun h => he (kf_eq.1 h)
        have e2 := bytes_beq (fid fs j) f.1
        rw [decide_eq_false he] at e2
        by_cases hq : kf (fg fs j) < kf f
        · have e1 : Op.bytesLess (fid fs j).toList f.1.toList = true := less_of hq
          have hle : ¬ kf f ≤ kf (fg fs j) := fun h => h hq
          have HS : Hid (PutsL fs f (j + 1) (o ++ [fg fs j]) q) := by simpa [Hid, hle, hk] using hst
          clear hst he hle hq hk
          cases q
          · replace hol : o.length ≤ j := hol
            go_wp2
            go_quiet (fail)
            have Bq : Below wr.heap.size wr (wr.drewN nq) := below_drewN (Below.refl _ _) nq
            have zq : (wr.drewN nq).heap.size = wr.heap.size := rfl
            generalize wr.drewN nq = W1 at *
            replace HR := Lib.hid (HR.out.below Bq)
            replace HBX := Lib.hid (HBX.out.later Bq)
            replace HB := Lib.hid (HB.out.trans (Bq.mono HB.out.size))
            replace FPr := Lib.hid (FPr.out.below Bq)
            replace FTr := Lib.hid (FTr.out.below Bq)
            replace D1 := Lib.hid (D1.out.below Bq)
            replace D2 := Lib.hid (D2.out.below Bq)
            replace hc1 := cell_later Bq hc1
            replace hc2 := cell_later Bq hc2
            replace hc3 := cell_later Bq hc3
            replace hc4 := cell_later Bq hc4
            replace x0 := cell_later Bq x0
            replace x1 := cell_later Bq x1
            replace x2 := cell_later Bq x2
            replace x3 := cell_later Bq x3
            replace hsz : w.heap.size < W1.heap.size := by omega
            replace hblt : b < W1.heap.size := by omega
            clear Bq zq
            go_wp2
            go_quiet (fail)
            have Bq : Below W1.heap.size W1 (W1.drewN nq) := below_drewN (Below.refl _ _) nq
            have zq : (W1.drewN nq).heap.size = W1.heap.size := rfl
            generalize W1.drewN nq = W2 at *
            replace HR := Lib.hid (HR.out.below Bq)
            replace HBX := Lib.hid (HBX.out.later Bq)
            replace HB := Lib.hid (HB.out.trans (Bq.mono HB.out.size))
            replace FPr := Lib.hid (FPr.out.below Bq)
            replace FTr := Lib.hid (FTr.out.below Bq)
            replace D1 := Lib.hid (D1.out.below Bq)
            replace D2 := Lib.hid (D2.out.below Bq)
            replace hc1 := cell_later Bq hc1
            replace hc2 := cell_later Bq hc2
            replace hc3 := cell_later Bq hc3
            replace hc4 := cell_later Bq hc4
            replace x0 := cell_later Bq x0
            replace x1 := cell_later Bq x1
            replace x2 := cell_later Bq x2
            replace x3 := cell_later Bq x3
            replace hsz : w.heap.size < W2.heap.size := by omega
            replace hblt : b < W2.heap.size := by omega
            clear Bq zq
            have ROW := Lib.hid HR.out.row
            go_wp2_with (at_builtin; refine wpList_append_lies _ (by rfl) _ _ _ (by rfl) (w.heap.size + 1) 34 i0 _ 4 72 Tryz.underlying46 HI.out HZ0.out HZ1.out HZ2.out rfl (by omega) (v) (o.length) (flatF (o) ad (o.length)) (by rfl) (ROW.out.alloc _) ⟨W2.heap.size, 0, none⟩ 1 1 (cellsF (fg fs j) ((pa, pc), (ta, tc))) (by rfl) (by rfl) (World.news_of_block (cs := #[.string (fid fs j), .int .i64 (fkd fs j), .slice pa (fps fs j).length pc, .slice ta (fts fs j).length tc]) (t := 34) (fr := (0, 0)) (heap_alloc_new W2 _)) (by simp [Value.oneCell', cellsF]) (by omega) (by unfold maxLen; omega) (by omega) (by simp; omega) (W2.heap.size + 1) (by simp) ?_; intro gg2 cap2 wa2 hown2 hgrow2 hat2 hlt2; clear ROW; have vw : (v).ownBlock ≠ some w.heap.size := (fun e => by have := HV.out _ e; omega); replace HR : Hid (Row wa2 (fun x => x < w.heap.size) (w.heap.size + 1) (Value.slice (some ⟨gg2, 0, none⟩) (o.length + 1) cap2) (o ++ [(fg fs j)]).length (o ++ [(fg fs j)]) (plSet ad (o.length) ((pa, pc), (ta, tc)))) := HR.out.snoc D1.out (PL.out.imp (fun h => h) fun q x hx => ⟨q x hx, by have := q x hx; omega, fun e => by have h1 := HV.out x e; have h2 := q x hx; omega⟩) D2.out (TL.out.imp (fun h => h) fun q x hx => ⟨q x hx, by have := q x hx; omega, fun e => by have h1 := HV.out x e; have h2 := q x hx; omega⟩) (by simpa using hown2) hgrow2 hat2; replace HBX := Lib.hid (BoxF.grown HBX.out hgrow2 vw); replace HB : Hid (Below w.heap.size w wa2) := (HB.out.alloc HB.out.size _).grown hgrow2 (by simp; omega) (fun x hx => by have := HV.out x hx; omega); clear hown2 hgrow2 hat2 vw)
            go_roundw
            case rel => exact ⟨j + 1, _, o ++ [fg fs j], _, _, by omega, by go_num, rfl, rfl, HS.out, by simp; omega, HR.out, HBX.out, HB.out⟩
            case measure => simp [intOf]; omega
          · replace hol : o.length ≤ j + 1 := hol
            go_wp2
            go_quiet (fail)
            have Bq : Below wr.heap.size wr (wr.drewN nq) := below_drewN (Below.refl _ _) nq
            have zq : (wr.drewN nq).heap.size = wr.heap.size := rfl
            generalize wr.drewN nq = W1 at *
            replace HR := Lib.hid (HR.out.below Bq)
            replace HBX := Lib.hid (HBX.out.later Bq)
            replace HB := Lib.hid (HB.out.trans (Bq.mono HB.out.size))
            replace FPr := Lib.hid (FPr.out.below Bq)
            replace FTr := Lib.hid (FTr.out.below Bq)
            replace D1 := Lib.hid (D1.out.below Bq)
            replace D2 := Lib.hid (D2.out.below Bq)
            replace hc1 := cell_later Bq hc1
            replace hc2 := cell_later Bq hc2
            replace hc3 := cell_later Bq hc3
            replace hc4 := cell_later Bq hc4
            replace x0 := cell_later Bq x0
            replace x1 := cell_later Bq x1
            replace x2 := cell_later Bq x2
            replace x3 := cell_later Bq x3
            replace hsz : w.heap.size < W1.heap.size := by omega
            replace hblt : b < W1.heap.size := by omega
            clear Bq zq
            go_wp2
            go_quiet (fail)
            have Bq : Below W1.heap.size W1 (W1.drewN nq) := below_drewN (Below.refl _ _) nq
            have zq : (W1.drewN nq).heap.size = W1.heap.size := rfl
            generalize W1.drewN nq = W2 at *
            replace HR := Lib.hid (HR.out.below Bq)
            replace HBX := Lib.hid (HBX.out.later Bq)
            replace HB := Lib.hid (HB.out.trans (Bq.mono HB.out.size))
            replace FPr := Lib.hid (FPr.out.below Bq)
            replace FTr := Lib.hid (FTr.out.below Bq)
            replace D1 := Lib.hid (D1.out.below Bq)
            replace D2 := Lib.hid (D2.out.below Bq)
            replace hc1 := cell_later Bq hc1
            replace hc2 := cell_later Bq hc2
            replace hc3 := cell_later Bq hc3
            replace hc4 := cell_later Bq hc4
            replace x0 := cell_later Bq x0
            replace x1 := cell_later Bq x1
            replace x2 := cell_later Bq x2
            replace x3 := cell_later Bq x3
            replace hsz : w.heap.size < W2.heap.size := by omega
            replace hblt : b < W2.heap.size := by omega
            clear Bq zq
            have ROW := Lib.hid HR.out.row
            go_wp2_with (at_builtin; refine wpList_append_lies _ (by rfl) _ _ _ (by rfl) (w.heap.size + 1) 34 i0 _ 4 72 Tryz.underlying46 HI.out HZ0.out HZ1.out HZ2.out rfl (by omega) (v) (o.length) (flatF (o) ad (o.length)) (by rfl) (ROW.out.alloc _) ⟨W2.heap.size, 0, none⟩ 1 1 (cellsF (fg fs j) ((pa, pc), (ta, tc))) (by rfl) (by rfl) (World.news_of_block (cs := #[.string (fid fs j), .int .i64 (fkd fs j), .slice pa (fps fs j).length pc, .slice ta (fts fs j).length tc]) (t := 34) (fr := (0, 0)) (heap_alloc_new W2 _)) (by simp [Value.oneCell', cellsF]) (by omega) (by unfold maxLen; omega) (by omega) (by simp; omega) (W2.heap.size + 1) (by simp) ?_; intro gg2 cap2 wa2 hown2 hgrow2 hat2 hlt2; clear ROW; have vw : (v).ownBlock ≠ some w.heap.size := (fun e => by have := HV.out _ e; omega); replace HR : Hid (Row wa2 (fun x => x < w.heap.size) (w.heap.size + 1) (Value.slice (some ⟨gg2, 0, none⟩) (o.length + 1) cap2) (o ++ [(fg fs j)]).length (o ++ [(fg fs j)]) (plSet ad (o.length) ((pa, pc), (ta, tc)))) := HR.out.snoc D1.out (PL.out.imp (fun h => h) fun q x hx => ⟨q x hx, by have := q x hx; omega, fun e => by have h1 := HV.out x e; have h2 := q x hx; omega⟩) D2.out (TL.out.imp (fun h => h) fun q x hx => ⟨q x hx, by have := q x hx; omega, fun e => by have h1 := HV.out x e; have h2 := q x hx; omega⟩) (by simpa using hown2) hgrow2 hat2; replace HBX := Lib.hid (BoxF.grown HBX.out hgrow2 vw); replace HB : Hid (Below w.heap.size w wa2) := (HB.out.alloc HB.out.size _).grown hgrow2 (by simp; omega) (fun x hx => by have := HV.out x hx; omega); clear hown2 hgrow2 hat2 vw)
            go_roundw
            case rel => exact ⟨j + 1, _, o ++ [fg fs j], _, _, by omega, by go_num, rfl, rfl, HS.out, by simp; omega, HR.out, HBX.out, HB.out⟩
            case measure => simp [intOf]; omega
        · have e1 : Op.bytesLess (fid fs j).toList f.1.toList = false := less_not hq
          have hle : kf f ≤ kf (fg fs j) := hq
          cases q
          · replace hol : o.length ≤ j := hol
            have HS : Hid (PutsL fs f (j + 1) (o ++ [f] ++ [fg fs j]) true) := by simpa [Hid, hle, hk] using hst
            clear hst he hle hq hk
            go_wp2
            go_quiet (fail)
            have Bq : Below wr.heap.size wr (wr.drewN nq) := below_drewN (Below.refl _ _) nq
            have zq : (wr.drewN nq).heap.size = wr.heap.size := rfl
            generalize wr.drewN nq = W1 at *
            replace HR := Lib.hid (HR.out.below Bq)
            replace HBX := Lib.hid (HBX.out.later Bq)
            replace HB := Lib.hid (HB.out.trans (Bq.mono HB.out.size))
            replace FPr := Lib.hid (FPr.out.below Bq)
            replace FTr := Lib.hid (FTr.out.below Bq)
            replace D1 := Lib.hid (D1.out.below Bq)
            replace D2 := Lib.hid (D2.out.below Bq)
            replace hc1 := cell_later Bq hc1
            replace hc2 := cell_later Bq hc2
            replace hc3 := cell_later Bq hc3
            replace hc4 := cell_later Bq hc4
            replace x0 := cell_later Bq x0
            replace x1 := cell_later Bq x1
            replace x2 := cell_later Bq x2
            replace x3 := cell_later Bq x3
            replace hsz : w.heap.size < W1.heap.size := by omega
            replace hblt : b < W1.heap.size := by omega
            clear Bq zq
            have ROW := Lib.hid HR.out.row
            go_wp2_with (at_builtin; refine wpList_append_lies _ (by rfl) _ _ _ (by rfl) (w.heap.size + 1) 34 i0 _ 4 72 Tryz.underlying46 HI.out HZ0.out HZ1.out HZ2.out rfl (by omega) (v) (o.length) (flatF (o) ad (o.length)) (by rfl) (ROW.out.alloc _) ⟨W1.heap.size, 0, none⟩ 1 1 (cellsF f ((pf, pfc), (tf, tfc))) (by rfl) (by rfl) (World.news_of_block (cs := #[.string f.1, .int .i64 f.2.1, .slice pf f.2.2.1.length pfc, .slice tf f.2.2.2.length tfc]) (t := 34) (fr := (0, 0)) (heap_alloc_new W1 _)) (by simp [Value.oneCell', cellsF]) (by omega) (by unfold maxLen; omega) (by omega) (by simp; omega) (W1.heap.size + 1) (by simp) ?_; intro gg1 cap1 wa1 hown1 hgrow1 hat1 hlt1; clear ROW; have vw : (v).ownBlock ≠ some w.heap.size := (fun e => by have := HV.out _ e; omega); replace HR : Hid (Row wa1 (fun x => x < w.heap.size) (w.heap.size + 1) (Value.slice (some ⟨gg1, 0, none⟩) (o.length + 1) cap1) (o ++ [f]).length (o ++ [f]) (plSet ad (o.length) ((pf, pfc), (tf, tfc)))) := HR.out.snoc FPr.out (PF.out.imp (fun h => h) fun q x hx => ⟨q x hx, by have := q x hx; omega, fun e => by have h1 := HV.out x e; have h2 := q x hx; omega⟩) FTr.out (TF.out.imp (fun h => h) fun q x hx => ⟨q x hx, by have := q x hx; omega, fun e => by have h1 := HV.out x e; have h2 := q x hx; omega⟩) (by simpa using hown1) hgrow1 hat1; replace HBX := Lib.hid (BoxF.grown HBX.out hgrow1 vw); replace HB : Hid (Below w.heap.size w wa1) := (HB.out.alloc HB.out.size _).grown hgrow1 (by simp; omega) (fun x hx => by have := HV.out x hx; omega); have vb : (v).ownBlock ≠ some b := (fun e => by have := HV.out b e; omega); replace hc1 := HGF_cell hgrow1 hblt hc1 vb; replace hc2 := HGF_cell hgrow1 hblt hc2 vb; replace hc3 := HGF_cell hgrow1 hblt hc3 vb; replace hc4 := HGF_cell hgrow1 hblt hc4 vb; replace x0 := HGF_cell hgrow1 hsz x0 vw; replace x1 := HGF_cell hgrow1 hsz x1 vw; replace x2 := HGF_cell hgrow1 hsz x2 vw; replace x3 := HGF_cell hgrow1 hsz x3 vw; replace D1 := Lib.hid (PtsKeep D1.out hgrow1 (PL.out.imp (fun h => h) fun q x hx e => by have h1 := q x hx; have h2 := HV.out x e; omega)); replace D2 := Lib.hid (TagsKeep D2.out hgrow1 (TL.out.imp (fun h => h) fun q x hx e => by have h1 := q x hx; have h2 := HV.out x e; omega)); replace FPr := Lib.hid (PtsKeep FPr.out hgrow1 (PF.out.imp (fun h => h) fun q x hx e => by have h1 := q x hx; have h2 := HV.out x e; omega)); replace FTr := Lib.hid (TagsKeep FTr.out hgrow1 (TF.out.imp (fun h => h) fun q x hx e => by have h1 := q x hx; have h2 := HV.out x e; omega)); have hszA : W1.heap.size < wa1.heap.size := (by have h := hgrow1.size; simp at h; omega); replace hsz : w.heap.size < wa1.heap.size := (by omega); replace hblt : b < wa1.heap.size := (by omega); replace HV : Hid (∀ x, (Value.slice (some ⟨gg1, 0, none⟩) (o.length + 1) cap1).ownBlock = some x → w.heap.size + 1 ≤ x) := (fun x e => (hown1.lt x e).1); clear vb; clear hown1 hgrow1 hat1 vw)
            go_wp2
            go_quiet (fail)
            have Bq : Below wa1.heap.size wa1 (wa1.drewN nq) := below_drewN (Below.refl _ _) nq
            have zq : (wa1.drewN nq).heap.size = wa1.heap.size := rfl
            generalize wa1.drewN nq = W2 at *
            replace HR := Lib.hid (HR.out.below Bq)
            replace HBX := Lib.hid (HBX.out.later Bq)
            replace HB := Lib.hid (HB.out.trans (Bq.mono HB.out.size))
            replace FPr := Lib.hid (FPr.out.below Bq)
            replace FTr := Lib.hid (FTr.out.below Bq)
            replace D1 := Lib.hid (D1.out.below Bq)
            replace D2 := Lib.hid (D2.out.below Bq)
            replace hc1 := cell_later Bq hc1
            replace hc2 := cell_later Bq hc2
            replace hc3 := cell_later Bq hc3
            replace hc4 := cell_later Bq hc4
            replace x0 := cell_later Bq x0
            replace x1 := cell_later Bq x1
            replace x2 := cell_later Bq x2
            replace x3 := cell_later Bq x3
            replace hsz : w.heap.size < W2.heap.size := by omega
            replace hblt : b < W2.heap.size := by omega
            clear Bq zq
            have hROW := HR.out.row
            rw [show (o ++ [f]).length = o.length + 1 by simp] at hROW
            have ROW := Lib.hid hROW
            clear hROW
            go_wp2_with (at_builtin; refine wpList_append_lies _ (by rfl) _ _ _ (by rfl) (w.heap.size + 1) 34 i0 _ 4 72 Tryz.underlying46 HI.out HZ0.out HZ1.out HZ2.out rfl (by omega) (Value.slice (some ⟨gg1, 0, none⟩) (o.length + 1) cap1) (o.length + 1) (flatF ((o ++ [f])) (plSet ad (o.length) ((pf, pfc), (tf, tfc))) (o.length + 1)) (by rfl) (ROW.out.alloc _) ⟨W2.heap.size, 0, none⟩ 1 1 (cellsF (fg fs j) ((pa, pc), (ta, tc))) (by rfl) (by rfl) (World.news_of_block (cs := #[.string (fid fs j), .int .i64 (fkd fs j), .slice pa (fps fs j).length pc, .slice ta (fts fs j).length tc]) (t := 34) (fr := (0, 0)) (heap_alloc_new W2 _)) (by simp [Value.oneCell', cellsF]) (by omega) (by unfold maxLen; omega) (by omega) (by simp; omega) (W2.heap.size + 1) (by simp) ?_; intro gg2 cap2 wa2 hown2 hgrow2 hat2 hlt2; clear ROW; have vw : (Value.slice (some ⟨gg1, 0, none⟩) (o.length + 1) cap1).ownBlock ≠ some w.heap.size := (fun e => by have := HV.out _ e; omega); replace HR : Hid (Row wa2 (fun x => x < w.heap.size) (w.heap.size + 1) (Value.slice (some ⟨gg2, 0, none⟩) ((o ++ [f]).length + 1) cap2) ((o ++ [f]) ++ [(fg fs j)]).length ((o ++ [f]) ++ [(fg fs j)]) (plSet (plSet ad (o.length) ((pf, pfc), (tf, tfc))) ((o ++ [f]).length) ((pa, pc), (ta, tc)))) := HR.out.snoc D1.out (PL.out.imp (fun h => h) fun q x hx => ⟨q x hx, by have := q x hx; omega, fun e => by have h1 := HV.out x e; have h2 := q x hx; omega⟩) D2.out (TL.out.imp (fun h => h) fun q x hx => ⟨q x hx, by have := q x hx; omega, fun e => by have h1 := HV.out x e; have h2 := q x hx; omega⟩) (by simpa using hown2) hgrow2 hat2; replace HBX := Lib.hid (BoxF.grown HBX.out hgrow2 vw); replace HB : Hid (Below w.heap.size w wa2) := (HB.out.alloc HB.out.size _).grown hgrow2 (by simp; omega) (fun x hx => by have := HV.out x hx; omega); clear hown2 hgrow2 hat2 vw)
            go_roundw
            case rel => exact ⟨j + 1, _, o ++ [f] ++ [fg fs j], _, _, by omega, by go_num, rfl, by simp, HS.out, by simp; omega, HR.out, HBX.out, HB.out⟩
            case measure => simp [intOf]; omega
          · replace hol : o.length ≤ j + 1 := hol
            have HS : Hid (PutsL fs f (j + 1) (o ++ [fg fs j]) true) := by simpa [Hid, hk] using hst
            clear hst he hle hq hk
            go_wp2
            go_quiet (fail)
            have Bq : Below wr.heap.size wr (wr.drewN nq) := below_drewN (Below.refl _ _) nq
            have zq : (wr.drewN nq).heap.size = wr.heap.size := rfl
            generalize wr.drewN nq = W1 at *
            replace HR := Lib.hid (HR.out.below Bq)
            replace HBX := Lib.hid (HBX.out.later Bq)
            replace HB := Lib.hid (HB.out.trans (Bq.mono HB.out.size))
            replace FPr := Lib.hid (FPr.out.below Bq)
            replace FTr := Lib.hid (FTr.out.below Bq)
            replace D1 := Lib.hid (D1.out.below Bq)
            replace D2 := Lib.hid (D2.out.below Bq)
            replace hc1 := cell_later Bq hc1
            replace hc2 := cell_later Bq hc2
            replace hc3 := cell_later Bq hc3
            replace hc4 := cell_later Bq hc4
            replace x0 := cell_later Bq x0
            replace x1 := cell_later Bq x1
            replace x2 := cell_later Bq x2
            replace x3 := cell_later Bq x3
            replace hsz : w.heap.size < W1.heap.size := by omega
            replace hblt : b < W1.heap.size := by omega
            clear Bq zq
            go_wp2
            go_quiet (fail)
            have Bq : Below W1.heap.size W1 (W1.drewN nq) := below_drewN (Below.refl _ _) nq
            have zq : (W1.drewN nq).heap.size = W1.heap.size := rfl
            generalize W1.drewN nq = W2 at *
            replace HR := Lib.hid (HR.out.below Bq)
            replace HBX := Lib.hid (HBX.out.later Bq)
            replace HB := Lib.hid (HB.out.trans (Bq.mono HB.out.size))
            replace FPr := Lib.hid (FPr.out.below Bq)
            replace FTr := Lib.hid (FTr.out.below Bq)
            replace D1 := Lib.hid (D1.out.below Bq)
            replace D2 := Lib.hid (D2.out.below Bq)
            replace hc1 := cell_later Bq hc1
            replace hc2 := cell_later Bq hc2
            replace hc3 := cell_later Bq hc3
            replace hc4 := cell_later Bq hc4
            replace x0 := cell_later Bq x0
            replace x1 := cell_later Bq x1
            replace x2 := cell_later Bq x2
            replace x3 := cell_later Bq x3
            replace hsz : w.heap.size < W2.heap.size := by omega
            replace hblt : b < W2.heap.size := by omega
            clear Bq zq
            have ROW := Lib.hid HR.out.row
            go_wp2_with (at_builtin; refine wpList_append_lies _ (by rfl) _ _ _ (by rfl) (w.heap.size + 1) 34 i0 _ 4 72 Tryz.underlying46 HI.out HZ0.out HZ1.out HZ2.out rfl (by omega) (v) (o.length) (flatF (o) ad (o.length)) (by rfl) (ROW.out.alloc _) ⟨W2.heap.size, 0, none⟩ 1 1 (cellsF (fg fs j) ((pa, pc), (ta, tc))) (by rfl) (by rfl) (World.news_of_block (cs := #[.string (fid fs j), .int .i64 (fkd fs j), .slice pa (fps fs j).length pc, .slice ta (fts fs j).length tc]) (t := 34) (fr := (0, 0)) (heap_alloc_new W2 _)) (by simp [Value.oneCell', cellsF]) (by omega) (by unfold maxLen; omega) (by omega) (by simp; omega) (W2.heap.size + 1) (by simp) ?_; intro gg2 cap2 wa2 hown2 hgrow2 hat2 hlt2; clear ROW; have vw : (v).ownBlock ≠ some w.heap.size := (fun e => by have := HV.out _ e; omega); replace HR : Hid (Row wa2 (fun x => x < w.heap.size) (w.heap.size + 1) (Value.slice (some ⟨gg2, 0, none⟩) (o.length + 1) cap2) (o ++ [(fg fs j)]).length (o ++ [(fg fs j)]) (plSet ad (o.length) ((pa, pc), (ta, tc)))) := HR.out.snoc D1.out (PL.out.imp (fun h => h) fun q x hx => ⟨q x hx, by have := q x hx; omega, fun e => by have h1 := HV.out x e; have h2 := q x hx; omega⟩) D2.out (TL.out.imp (fun h => h) fun q x hx => ⟨q x hx, by have := q x hx; omega, fun e => by have h1 := HV.out x e; have h2 := q x hx; omega⟩) (by simpa using hown2) hgrow2 hat2; replace HBX := Lib.hid (BoxF.grown HBX.out hgrow2 vw); replace HB : Hid (Below w.heap.size w wa2) := (HB.out.alloc HB.out.size _).grown hgrow2 (by simp; omega) (fun x hx => by have := HV.out x hx; omega); clear hown2 hgrow2 hat2 vw)
            go_roundw
            case rel => exact ⟨j + 1, _, o ++ [fg fs j], _, _, by omega, by go_num, rfl, rfl, HS.out, by simp; omega, HR.out, HBX.out, HB.out⟩
            case measure => simp [intOf]; omega
    · obtain rfl : j = fs.length := by omega
      have HD := Lib.hid hP.done
      clear hro hbel hP
      cases q
      · replace hol : o.length ≤ fs.length := hol
        have ROW := Lib.hid HR.out.row
        go_wp2_with (at_builtin; refine wpList_append_lies _ (by rfl) _ _ _ (by rfl) (w.heap.size + 1) 34 i0 _ 4 72 Tryz.underlying46 HI.out HZ0.out HZ1.out HZ2.out rfl (by omega) (v) (o.length) (flatF (o) ad (o.length)) (by rfl) (ROW.out.alloc _) ⟨wr.heap.size, 0, none⟩ 1 1 (cellsF f ((pf, pfc), (tf, tfc))) (by rfl) (by rfl) (World.news_of_block (cs := #[.string f.1, .int .i64 f.2.1, .slice pf f.2.2.1.length pfc, .slice tf f.2.2.2.length tfc]) (t := 34) (fr := (0, 0)) (heap_alloc_new wr _)) (by simp [Value.oneCell', cellsF]) (by omega) (by unfold maxLen; omega) (by omega) (by simp; omega) (wr.heap.size + 1) (by simp) ?_; intro gg1 cap1 wa1 hown1 hgrow1 hat1 hlt1; clear ROW; have vw : (v).ownBlock ≠ some w.heap.size := (fun e => by have := HV.out _ e; omega); replace HR : Hid (Row wa1 (fun x => x < w.heap.size) (w.heap.size + 1) (Value.slice (some ⟨gg1, 0, none⟩) (o.length + 1) cap1) (o ++ [f]).length (o ++ [f]) (plSet ad (o.length) ((pf, pfc), (tf, tfc)))) := HR.out.snoc FPr.out (PF.out.imp (fun h => h) fun q x hx => ⟨q x hx, by have := q x hx; omega, fun e => by have h1 := HV.out x e; have h2 := q x hx; omega⟩) FTr.out (TF.out.imp (fun h => h) fun q x hx => ⟨q x hx, by have := q x hx; omega, fun e => by have h1 := HV.out x e; have h2 := q x hx; omega⟩) (by simpa using hown1) hgrow1 hat1; replace HBX := Lib.hid (BoxF.grown HBX.out hgrow1 vw); replace HB : Hid (Below w.heap.size w wa1) := (HB.out.alloc HB.out.size _).grown hgrow1 (by simp; omega) (fun x hx => by have := HV.out x hx; omega); clear hown1 hgrow1 hat1 vw)
        go_wp2
        go_ret
        have e : o ++ [f] = putL fs f := by simpa using HD.out
        have hr := HR.out
        rw [e] at hr
        obtain ⟨a', cap', e', hF, _⟩ := hr.reads
        first | exact ⟨⟨a', cap', congrArg Ending.returned e', hF⟩, HB.out⟩ | exact ⟨⟨a', ⟨cap', congrArg Ending.returned e'⟩, hF⟩, HB.out⟩
      · have e : o = putL fs f := by simpa using HD.out
        have hr := HR.out
        rw [e] at hr
        obtain ⟨a', cap', rfl, hF, _⟩ := hr.reads
        have HF := Lib.hid hF
        clear hF hr HR HV
        go_wp2
        go_ret
        first | exact ⟨⟨a', cap', rfl, HF.out⟩, HB.out⟩ | exact ⟨⟨a', ⟨cap', rfl⟩, HF.out⟩, HB.out⟩

end Go.Proofs.YtccgbengfmlgbaaGreat

namespace Go.Proofs.YtccgbengfmlgbaaGreat
set_option linter.unusedVariables false
open Go.ChangeShapes Go.WideShapes Go.ChangeAt Go.RowKit

theorem sheet_pos {t : List Ft} (h : sheetOk t = true) {i : Nat} (hi : i < t.length) : 0 < (fps t i).length := ftOk_pts (by
  have h1 : featsGood t = true := by
    unfold sheetOk at h
    rw [Bool.and_eq_true] at h
    exact h.1
  have := featsGood_at h1 hi
  unfold featGood at this
  rw [Bool.and_eq_true] at this
  exact this.1)

set_option maxRecDepth 100000 in
set_option maxHeartbeats 4000000 in
theorem l4Side_any (a : Option Addr) (cap : Nat) (fs : List Ft) (id : ByteArray) (w : World) (hp : FeatsAt w a fs) (hl : fs.length ≤ 1048576) (hL : FeatsLen fs 1048576) (hpos : ∀ i, i < fs.length → 0 < (fps fs i).length) :
    Calls Tryz.prog 116 #[.slice a fs.length cap, .string id] w fun e w' => (∃ xa xc ya yc, e = .returned (.tuple #[.agg #[.string (sideOf fs id).2.1, .int .i64 (sideOf fs id).2.2.1, .slice xa (sideOf fs id).2.2.2.1.length xc, .slice ya (sideOf fs id).2.2.2.2.length yc], .bool (sideOf fs id).1]) ∧ PtsAt w' xa (sideOf fs id).2.2.2.1 ∧ TagsAt w' ya (sideOf fs id).2.2.2.2) ∧ Below w.heap.size w w' := by
  have HP := Lib.hid hp
  have HL := Lib.hid hL
  have HQ := Lib.hid hpos
  clear hp hL hpos
  have A0 : Hid (∀ o, Below w.heap.size w (w.alloc o)) := fun o => (Below.refl _ _).alloc (Nat.le_refl _) _
  have HS := Lib.hid (sideOf_first (fs := fs) (id := id))
  go_enter Tryz.func116, Tryz.ntmps116
  go_wp2_with fail
  refine (l3Find_any _ _ _ _ _ (HP.out.below (A0.out _)) hl).mono ?_
  rintro e w1 ⟨rfl, rfl⟩
  by_cases hlt : firstF fs id < fs.length
  · have hfv : findV fs id = (firstF fs id : Int) := by unfold findV; rw [if_pos hlt]
    have HG : Hid (sideOf fs id = (true, fg fs (firstF fs id))) := by show _ = _; rw [HS.out, if_pos hlt]
    rw [hfv]
    generalize firstF fs id = i at *
    obtain ⟨b, off, pa, pc, ta, tc, rfl, hb, d1, d2, d3, d4, hpp, htt⟩ := (HP.out.below (A0.out (.cells #[.string ⟨#[]⟩, .int .i64 0, .slice none 0 0, .slice none 0 0] 34))) i hlt
    obtain ⟨l1, l2, l3, _⟩ := HL.out i hlt
    have hq := HQ.out i hlt
    unfold fid at d1
    unfold fkd at d2
    unfold fps at d3 hpp l2 hq
    unfold fts at d4 htt l3
    have KC := Lib.hid (l2Copy_side (fg fs i) pa pc ta tc _ hpp htt (by omega) (by omega) (fun e => by omega))
    clear hpp htt hfv
    go_wp2_with fail
    refine KC.out.mono ?_
    rintro e w2 ⟨xa, xc, ya, yc, rfl, gx, hb2⟩
    obtain ⟨⟨r0, r1, r2, r3⟩, rf⟩ := (BoxS.new w (.string ⟨#[]⟩) (.int .i64 0) (.slice none 0 0) (.slice none 0 0) 34).later hb2
    have f0 := rf 0
    have f1 := rf 1
    have f2 := rf 2
    have f3 := rf 3
    have B2 : Hid (Below w.heap.size w w2) := (A0.out _).trans (hb2.mono (by simp))
    have G2 := Lib.hid gx
    clear rf hb2 gx KC d1 d2 d3 d4
    have TF := Lib.hid (turned4 w2 w.heap.size (.string (fg fs i).1) (.int .i64 (fg fs i).2.1) (.slice xa (fg fs i).2.2.1.length xc) (.slice ya (fg fs i).2.2.2.length yc))
    go_wp2
    refine bodyPost_ret (v := .tuple #[.agg #[.string (fg fs i).1, .int .i64 (fg fs i).2.1, .slice xa (fg fs i).2.2.1.length xc, .slice ya (fg fs i).2.2.2.length yc], .bool true]) (by simp [results, Tryz.results116, go_sem, r0, r1, r2, r3]) rfl ?_
    have G3 := G2.out.turned TF.out (fun x hx _ e => by simp at hx; omega)
    rw [HG.out]
    exact ⟨⟨xa, xc, ya, yc, rfl, G3.1, G3.2.1⟩, B2.out.trans (TF.out.below B2.out.size (fun x e => by omega))⟩
  · have hfv : findV fs id = -1 := by unfold findV; rw [if_neg hlt]
    have HG : Hid (sideOf fs id = (false, zft)) := by show _ = _; rw [HS.out, if_neg hlt]
    rw [hfv]
    have TF := Lib.hid (turned4 (w.alloc (.cells #[.string ⟨#[]⟩, .int .i64 0, .slice none 0 0, .slice none 0 0] 34)) w.heap.size (.string ⟨#[]⟩) (.int .i64 0) (.slice none 0 0) (.slice none 0 0))
    go_wp2
    refine bodyPost_ret (v := .tuple #[.agg #[.string ⟨#[]⟩, .int .i64 0, .slice none 0 0, .slice none 0 0], .bool false]) (by simp [results, Tryz.results116, go_sem]) rfl ?_
    rw [HG.out]
    first
      | exact ⟨⟨none, 0, none, 0, rfl, PtsAt.nil _ _, TagsAt.nil _ _⟩, A0.out _⟩
      | exact ⟨⟨none, 0, none, 0, rfl, PtsAt.nil _ _, TagsAt.nil _ _⟩, (A0.out _).trans (TF.out.below (by simp) (fun x e => by omega))⟩

end Go.Proofs.YtccgbengfmlgbaaGreat

namespace Go.Proofs.YtccgbengfmlgbaaGreat
set_option linter.unusedVariables false
open Go.ChangeShapes Go.WideShapes Go.ChangeAt Go.RowKit

/-- the first things of a list, put on another -/
def putTo (fs gs : List Ft) : Nat → List Ft
  | 0 => fs
  | k + 1 => putL (putTo fs gs k) (fg gs k)

theorem putTo_len (fs gs : List Ft) : ∀ k, (putTo fs gs k).length ≤ fs.length + k
  | 0 => Nat.le_refl _
  | k + 1 => by
    have ih := putTo_len fs gs k
    have := putL_len (fg gs k) (putTo fs gs k)
    show (putL (putTo fs gs k) (fg gs k)).length ≤ _
    omega

set_option maxRecDepth 100000 in
set_option maxHeartbeats 4000000 in
theorem l4Ids_any (a : Option Addr) (cap : Nat) (fs : List Ft) (a' : Option Addr) (cap' : Nat) (gs : List Ft) (w : World) (hp : FeatsAt w a fs) (hq : FeatsAt w a' gs) (hl : fs.length ≤ 1024) (hl' : gs.length ≤ 1024) :
    Calls Tryz.prog 115 #[.slice a fs.length cap, .slice a' gs.length cap'] w fun e w' => (∃ v, e = .returned v ∧ w'.ownsRow w.heap.size 9 1 v (putTo fs gs gs.length).length ((namesOf (putTo fs gs gs.length)).map Value.string)) ∧ Below w.heap.size w w' := by
  obtain ⟨i0, hi, hz0, hz1, hz2⟩ := info_parts infoStr
  have HI := Lib.hid hi
  have HZ0 := Lib.hid hz0
  have HZ1 := Lib.hid hz1
  have HZ2 := Lib.hid hz2
  have HP := Lib.hid hp
  have HQ := Lib.hid hq
  have TN := Lib.hid (putTo_len fs gs)
  clear hp hq hi hz0 hz1 hz2
  go_enter Tryz.func115, Tryz.ntmps115
  go_wp2
  go_loopw [5, 6] (fun q i wr => ∃ (k : Nat) (a2 : Option Addr) (cap2 : Nat), k ≤ gs.length ∧ q = .slice a2 (putTo fs gs k).length cap2 ∧ i = .int .i64 k ∧ FeatsAt wr a2 (putTo fs gs k) ∧ Below w.heap.size w wr) (fun _ i _ => gs.length - (intOf i).toNat)
  case atStart => exact ⟨0, a, cap, Nat.zero_le _, rfl, rfl, HP.out, Below.refl _ _⟩
  case round =>
    obtain ⟨k, a2, cap2, hk, rfl, rfl, hF, hbel⟩ := hrel
    have HF := Lib.hid hF
    have HB := Lib.hid hbel
    have hsz := hbel.size
    have tn := TN.out k
    clear hF
    by_cases hlt : k < gs.length
    · have HT : Hid (putTo fs gs (k + 1) = putL (putTo fs gs k) (fg gs k)) := rfl
      obtain ⟨b, off, pa, pc, ta, tc, rfl, hb, hc1, hc2, hc3, hc4, hpp, htt⟩ := (HQ.out.below hbel) k hlt
      unfold fid at hc1
      unfold fkd at hc2
      unfold fps at hc3 hpp
      unfold fts at hc4 htt
      have D1 := Lib.hid hpp
      have D2 := Lib.hid htt
      clear hpp htt hbel
      go_wp2_with fail
      refine (l3Put_any _ _ _ (fg gs k) pa ta pc tc _ HF.out (by omega) D1.out D2.out).mono ?_
      rintro e w4 ⟨⟨a4, cap4, rfl, hF4⟩, hb4⟩
      have F4 : Hid (FeatsAt w4 a4 (putTo fs gs (k + 1))) := by rw [HT.out]; exact hF4
      have B4 : Hid (Below w.heap.size w w4) := HB.out.trans (hb4.mono hsz)
      clear hF4 hb4 hc1 hc2 hc3 hc4
      go_wp2
      go_roundw
      case rel => exact ⟨k + 1, a4, cap4, by omega, by rw [HT.out], by go_num, F4.out, B4.out⟩
      case measure => simp [intOf]; omega
    · obtain rfl : k = gs.length := by omega
      clear hbel
      generalize hts : putTo fs gs gs.length = ts at *
      have HTS := Lib.hid hts
      clear hts
      obtain ⟨W0, rfl⟩ : ∃ W0, W0 = wr := ⟨wr, rfl⟩
      have A0 : Hid (∀ o, Below W0.heap.size W0 (W0.alloc o)) := fun o => (Below.refl _ _).alloc (Nat.le_refl _) _
      go_wp2
      go_loopw [7, 8] (fun q i wr => ∃ (j : Nat) (v : Value), j ≤ ts.length ∧ v = q ∧ i = .int .i64 j ∧ wr.ownsRow W0.heap.size 9 1 v j (((namesOf ts).take j).map Value.string) ∧ Below W0.heap.size W0 wr) (fun _ i _ => ts.length - (intOf i).toNat)
      case atStart => exact ⟨0, _, Nat.zero_le _, rfl, rfl, by simpa using World.ownsRow_made W0 #[] 0 (base := W0.heap.size) (Nat.le_refl _) (by unfold maxLen; omega) (e := 9) (size := 1) (by simp), A0.out _⟩
      case round =>
        obtain ⟨j, v, hj, rfl, rfl, hrow, hbel2⟩ := hrel
        have HR := Lib.hid hrow
        have HB2 := Lib.hid hbel2
        have hz := hbel2.size
        have HV : Hid (∀ x, v.ownBlock = some x → W0.heap.size ≤ x) := fun x hx => (hrow.lt x hx).1
        clear hrow
        by_cases hlt : j < ts.length
        · obtain ⟨b, off, pa, pc, ta, tc, rfl, hb, hc1, _⟩ := (HF.out.below hbel2) j hlt
          have zb : b < wr.heap.size := hb
          clear hbel2
          go_wp2_with (at_builtin; refine wpList_append_lies _ (by rfl) _ _ _ (by rfl) W0.heap.size 9 i0 _ 1 16 Tryz.underlying35 HI.out HZ0.out HZ1.out HZ2.out rfl (by omega) v j (((namesOf ts).take j).map Value.string) (by rfl) (HR.out.alloc _) ⟨wr.heap.size, 0, none⟩ 1 1 [.string (fid ts j)] (by rfl) (by rfl) (World.news_of_block (cs := #[.string (fid ts j)]) (t := 9) (fr := (0, 0)) (heap_alloc_new wr _)) (by simp [Value.oneCell']) (by omega) (by unfold maxLen; omega) (by omega) (by simp; omega) (wr.heap.size + 1) (by simp) ?_; intro gg cap3 wa hown1 hgrow hat hlt')
          rw [← names_step hlt] at hown1
          have HO := Lib.hid hown1
          have HG := Lib.hid hgrow
          clear hown1 hgrow hat hc1
          go_roundw
          case rel => exact ⟨j + 1, _, by omega, rfl, by go_num, HO.out, (HB2.out.alloc hz _).grown HG.out (by simp; omega) (fun j hj => HV.out j hj)⟩
          case measure => simp [intOf]; omega
        · obtain rfl : j = ts.length := by omega
          have HO : Hid (wr.ownsRow w.heap.size 9 1 v ts.length ((namesOf ts).map Value.string)) := by
            have := HR.out
            rw [List.take_of_length_le (by rw [namesOf_len]; omega)] at this
            exact ownsRow_base this hsz
          have BE : Hid (Below w.heap.size w wr) := HB.out.trans (HB2.out.mono hsz)
          clear hbel2 HR
          go_wp2
          go_ret
          rw [HTS.out]
          exact ⟨⟨v, rfl, HO.out⟩, BE.out⟩
end Go.Proofs.YtccgbengfmlgbaaGreat

namespace Go.Proofs.YtccgbengfmlgbaaGreat
set_option linter.unusedVariables false
open Go.ChangeShapes Go.WideShapes Go.ChangeAt Go.RowKit Go.Maps

theorem mem_foldF : ∀ (un uw : List En) (t : En), AscF un → (t ∈ un.foldl putF uw ↔ t ∈ un ∨ (t ∈ uw ∧ ∀ s ∈ un, klF s ≠ klF t))
  | [], uw, t, _ => by simp
  | s :: r, uw, t, h => by
    obtain ⟨h1, h2⟩ := List.pairwise_cons.1 h
    rw [List.foldl_cons, mem_foldF r (putF uw s) t h2, mem_putF, List.mem_cons]
    constructor
    · rintro (hr | ⟨rfl | ⟨h3, h4⟩, h5⟩)
      · exact .inl (.inr hr)
      · exact .inl (.inl rfl)
      · refine .inr ⟨h3, fun u hu => ?_⟩
        rcases List.mem_cons.1 hu with rfl | hu
        · exact fun e => h4 e.symm
        · exact h5 u hu
    · rintro ((rfl | hr) | ⟨h3, h4⟩)
      · exact .inr ⟨.inl rfl, fun u hu e => List.lt_irrefl (klF t) (by have := h1 u hu; rwa [e] at this)⟩
      · exact .inl hr
      · exact .inr ⟨.inr ⟨h3, fun e => h4 s List.mem_cons_self e.symm⟩, fun u hu => h4 u (List.mem_cons_of_mem _ hu)⟩

theorem asc_foldF : ∀ (un uw : List En), AscF uw → AscF (un.foldl putF uw)
  | [], _, h => h
  | s :: r, uw, h => asc_foldF r (putF uw s) (asc_putF s h)

theorem tells_merged {Dout Dd Ds : DataW Value} {uw un : List En} (hM : Merged Dout Dd Ds (fun _ => false)) (hd : TellsF Dd uw) (hs : TellsF Ds un) : TellsF Dout (un.foldl putF uw) := by
  refine ⟨asc_foldF un uw hd.asc, fun t ht z => ?_, fun x hx => ?_⟩
  · rw [hM.2]
    rcases (mem_foldF un uw t hs.asc).1 ht with h | ⟨h, hn⟩
    · have h1 := Maps.has_true_of_atKey (D := Ds) (fun z => hs.at_ t h z)
      rw [if_pos (by rw [h1]; rfl)]
      exact hs.at_ t h z
    · rw [if_neg]
      · exact hd.at_ t h z
      · intro h1
        simp only [Bool.not_false, Bool.and_true] at h1
        obtain ⟨s, hsm, hk⟩ := hs.has _ h1
        exact hn s hsm hk
  · rw [hM.1] at hx
    simp only [Bool.not_false, Bool.and_true, Bool.or_eq_true] at hx
    by_cases h1 : Maps.has Ds (.string x) = true
    · obtain ⟨s, hsm, hk⟩ := hs.has x h1
      exact ⟨s, (mem_foldF un uw s hs.asc).2 (.inl hsm), hk⟩
    · rcases hx with h2 | h2
      · obtain ⟨s, hsm, hk⟩ := hd.has x h2
        refine ⟨s, (mem_foldF un uw s hs.asc).2 (.inr ⟨hsm, fun u hu e => ?_⟩), hk⟩
        have h3 := Maps.has_true_of_atKey (D := Ds) (fun z => hs.at_ u hu z)
        rw [e, hk] at h3
        exact h1 h3
      · exact absurd h2 h1

theorem ents_fold {w : World} {es un : List En} {fs gs : List Ft} (h : Ents w es fs) (hu : Ents w un gs) : ∀ k, k ≤ gs.length → Ents w ((un.take k).foldl putF es) (putTo fs gs k)
  | 0, _ => h
  | k + 1, hk => by
    have ih := ents_fold h hu k (by omega)
    have hl : k < un.length := by rw [hu.1]; omega
    rw [List.take_succ_eq_append_getElem hl, List.foldl_append]
    obtain ⟨h1, h2⟩ := hu.2 k (by omega)
    have e1 : un[k].1 = (fg gs k).1 := by
      rw [← show ek un k = un[k].1 by simp [ek, hl]]
      exact h1
    have e2 : FeatV w un[k].2 (fg gs k) := by
      rw [← show ev un k = un[k].2 by simp [ev, hl]]
      exact h2
    exact ents_put e1 e2 ih

theorem ents_agg {w : World} {D : DataW Value} {us : List En} {fs : List Ft} (ht : TellsF D us) (he : Ents w us fs) : ∀ kl c, (∃ x, kl = .string x) → (∀ zd, D.atKey kl zd = .held c) → Agg4 c := by
  rintro kl c ⟨x, rfl⟩ hat
  obtain ⟨t, hm, hk⟩ := ht.has x (Maps.has_true_of_atKey hat)
  have h1 := ht.at_ t hm (.map [])
  rw [hk, hat] at h1
  obtain ⟨i, hi, e⟩ := List.getElem_of_mem hm
  obtain ⟨_, pa, pc, ta, tc, h2, _⟩ := he.2 i (by rw [← he.1]; exact hi)
  have h3 : ev us i = t.2 := by simp [ev, hi, e]
  rw [h3] at h2
  have h4 : c = entV t := by simpa using h1
  rw [h4]
  exact ⟨_, _, _, _, _, _, _, _, h2⟩

set_option maxRecDepth 100000 in
set_option maxHeartbeats 2000000 in
theorem changesBetween_any (bw bn nw nn : Nat) (Dw Dn : DataW Value) (uw un : List En) (fs gs : List Ft) (w0 w : World) (hw : w.ownsMap Tryz.prog 9 heldElem bw nw Dw) (hn : w.ownsMap Tryz.prog 9 heldElem bn nn Dn) (tw : TellsF Dw uw) (tn : TellsF Dn un) (ew : Ents w0 uw fs) (en : Ents w0 un gs) (hl : nw + Maps.size Dn ≤ 1048576) :
    Calls Tryz.prog 66 #[.map (some bw), .map (some bn)] w fun e w' => ∃ (E V N be : Nat) (De : DataW Value) (ue : List En), e = .returned (.func (.func 118) #[] #[.pointer (some ⟨E, 0, none⟩), .pointer (some ⟨V, 0, none⟩), .pointer (some ⟨N, 0, none⟩)]) ∧
      (w'.cell? ⟨E, 0, none⟩ = some (.map (some be)) ∧ w'.cell? ⟨V, 0, none⟩ = some (.map (some bw)) ∧ w'.cell? ⟨N, 0, none⟩ = some (.map (some bn))) ∧ (w'.ownsMap Tryz.prog 9 heldElem be (nw + Maps.size Dn) De ∧ w'.ownsMap Tryz.prog 9 heldElem bw nw Dw ∧ w'.ownsMap Tryz.prog 9 heldElem bn nn Dn) ∧
      TellsF De ue ∧ Ents w0 ue (putTo fs gs gs.length) ∧ (w.heap.size ≤ E ∧ w.heap.size ≤ V ∧ w.heap.size ≤ N ∧ w.heap.size ≤ be) ∧ Below w.heap.size w w' := by
  have HW := Lib.hid hw
  have HN := Lib.hid hn
  have zw := hw.lt
  have zn := hn.lt
  have HUE : Hid (Ents w0 (un.foldl putF uw) (putTo fs gs gs.length)) := by
    have := ents_fold ew en gs.length (Nat.le_refl _)
    rwa [List.take_of_length_le (by rw [en.1]; omega)] at this
  have TW := Lib.hid tw
  have TN := Lib.hid tn
  have HAG := Lib.hid (ents_agg tn en)
  have W2 := Lib.hid ((hw.alloc (.cells #[.map (some bw)] 92)).alloc (.cells #[.map (some bn)] 92))
  have N2 := Lib.hid ((hn.alloc (.cells #[.map (some bw)] 92)).alloc (.cells #[.map (some bn)] 92))
  have c1 := cell_later ((Below.refl _ _).alloc (Nat.le_refl _) (.cells #[.map (some bn)] 92)) (show (w.alloc (.cells #[.map (some bw)] 92)).cell? ⟨w.heap.size, 0, none⟩ = some (.map (some bw)) by simp [go_sem])
  have c2 : ((w.alloc (.cells #[.map (some bw)] 92)).alloc (.cells #[.map (some bn)] 92)).cell? ⟨w.heap.size + 1, 0, none⟩ = some (.map (some bn)) := by simp [go_sem]
  have B2 : Hid (Below w.heap.size w ((w.alloc (.cells #[.map (some bw)] 92)).alloc (.cells #[.map (some bn)] 92))) := ((Below.refl _ _).alloc (Nat.le_refl _) _).alloc (by simp) _
  have zV : w.heap.size + 1 < ((w.alloc (.cells #[.map (some bw)] 92)).alloc (.cells #[.map (some bn)] 92)).heap.size := by simp
  clear hw hn tw tn ew en
  go_enter Tryz.func66, Tryz.ntmps66
  go_upto_region 1 with (fail)
  generalize (w.alloc (.cells #[.map (some bw)] 92)).alloc (.cells #[.map (some bn)] 92) = w2 at *
  have hcon := AnyW.maps_Clone_owns Tryz.cloneF 9 heldElem bw nw Dw w2 W2.out
  change Calls Tryz.prog 78 _ _ _ at hcon
  have HC := Lib.hid hcon
  clear hcon
  go_wp2_with fail
  refine HC.out.mono ?_
  rintro e w3 ⟨rfl, h1, h2, hb3⟩
  have B3 : Hid (Below w.heap.size w w3) := B2.out.trans (hb3.mono B2.out.size)
  replace c1 := cell_later hb3 c1
  replace c2 := cell_later hb3 c2
  have N3 := Lib.hid (ownsMap_below N2.out hb3)
  have E3 := Lib.hid h1
  have W3 := Lib.hid h2
  have z2 := B2.out.size
  have z3 := hb3.size
  have zE := h1.lt
  clear h1 h2 hb3 HC W2 N2
  go_upto_region 2 with (fail)
  have ba : Below w3.heap.size w3 (w3.alloc (.cells #[.map (some w2.heap.size)] 92)) := (Below.refl _ _).alloc (Nat.le_refl _) _
  replace c1 := cell_later ba c1
  replace c2 := cell_later ba c2
  have c3 : (w3.alloc (.cells #[.map (some w2.heap.size)] 92)).cell? ⟨w3.heap.size, 0, none⟩ = some (.map (some w2.heap.size)) := by simp [go_sem]
  have B4 : Hid (Below w.heap.size w (w3.alloc (.cells #[.map (some w2.heap.size)] 92))) := B3.out.trans (ba.mono B3.out.size)
  have E4 := Lib.hid (ownsMap_below E3.out ba)
  have W4 := Lib.hid (ownsMap_below W3.out ba)
  have N4 := Lib.hid (ownsMap_below N3.out ba)
  clear ba E3 W3 N3
  generalize w3.alloc (.cells #[.map (some w2.heap.size)] 92) = w4 at *
  generalize w2.heap.size = be at *
  generalize w3.heap.size = E at *
  go_wp2_with fail
  refine (mapsCopy_any be bn nw nn Dw Dn w4 E4.out N4.out (by omega) (by unfold maxLen; omega) HAG.out).mono ?_
  rintro e w5 ⟨rfl, ⟨De, h1, hM⟩, h2, hg⟩
  have B5 : Hid (Below w.heap.size w w5) := B4.out.grown hg B4.out.size (fun j e => by obtain rfl : be = j := (by simpa using e); omega)
  have k1 := (hg.cell_far ⟨w.heap.size, 0, none⟩ (World.block_lt_of_cell? _ _ c1) (by simp; omega)).trans c1
  have k2 := (hg.cell_far ⟨w.heap.size + 1, 0, none⟩ (World.block_lt_of_cell? _ _ c2) (by simp; omega)).trans c2
  have k3 := (hg.cell_far ⟨E, 0, none⟩ (World.block_lt_of_cell? _ _ c3) (by simp; omega)).trans c3
  have W5 := Lib.hid (W4.out.kept hg (by simp; omega))
  have E5 := Lib.hid h1
  have N5 := Lib.hid h2
  have TE := Lib.hid (tells_merged hM TW.out TN.out)
  clear h1 h2 hM hg E4 W4 N4 c1 c2 c3
  go_wp2
  go_ret
  exact ⟨E, w.heap.size, w.heap.size + 1, be, De, _, rfl, ⟨k3, k1, k2⟩, ⟨E5.out, W5.out, N5.out⟩, TE.out, HUE.out, ⟨by omega, by omega, by omega, by omega⟩, B5.out⟩
end Go.Proofs.YtccgbengfmlgbaaGreat

namespace Go.Proofs.YtccgbengfmlgbaaGreat
set_option linter.unusedVariables false
open Go.ChangeShapes Go.WideShapes Go.ChangeAt Go.RowKit

set_option maxRecDepth 100000 in
set_option maxHeartbeats 4000000 in
theorem l4Side_got (a : Option Addr) (cap : Nat) (fs : List Ft) (id : ByteArray) (w : World) (hp : FeatsAt w a fs) (hl : fs.length ≤ 1048576) (hL : FeatsLen fs 1048576) (hpos : ∀ i, i < fs.length → 0 < (fps fs i).length) :
    Calls Tryz.prog 116 #[.slice a fs.length cap, .string id] w fun e w' => (∃ xa xc ya yc, e = .returned (.tuple #[.agg #[.string (sideOf fs id).2.1, .int .i64 (sideOf fs id).2.2.1, .slice xa (sideOf fs id).2.2.2.1.length xc, .slice ya (sideOf fs id).2.2.2.2.length yc], .bool (sideOf fs id).1]) ∧ GotF w.heap.size w' (sideOf fs id).2 xa ya) ∧ Below w.heap.size w w' := by
  have HP := Lib.hid hp
  have HL := Lib.hid hL
  have HQ := Lib.hid hpos
  clear hp hL hpos
  have A0 : Hid (∀ o, Below w.heap.size w (w.alloc o)) := fun o => (Below.refl _ _).alloc (Nat.le_refl _) _
  have HS := Lib.hid (sideOf_first (fs := fs) (id := id))
  go_enter Tryz.func116, Tryz.ntmps116
  go_wp2_with fail
  refine (l3Find_any _ _ _ _ _ (HP.out.below (A0.out _)) hl).mono ?_
  rintro e w1 ⟨rfl, rfl⟩
  by_cases hlt : firstF fs id < fs.length
  · have hfv : findV fs id = (firstF fs id : Int) := by unfold findV; rw [if_pos hlt]
    have HG : Hid (sideOf fs id = (true, fg fs (firstF fs id))) := by show _ = _; rw [HS.out, if_pos hlt]
    rw [hfv]
    generalize firstF fs id = i at *
    obtain ⟨b, off, pa, pc, ta, tc, rfl, hb, d1, d2, d3, d4, hpp, htt⟩ := (HP.out.below (A0.out (.cells #[.string ⟨#[]⟩, .int .i64 0, .slice none 0 0, .slice none 0 0] 34))) i hlt
    obtain ⟨l1, l2, l3, _⟩ := HL.out i hlt
    have hq := HQ.out i hlt
    unfold fid at d1
    unfold fkd at d2
    unfold fps at d3 hpp l2 hq
    unfold fts at d4 htt l3
    have KC := Lib.hid (l2Copy_side (fg fs i) pa pc ta tc _ hpp htt (by omega) (by omega) (fun e => by omega))
    clear hpp htt hfv
    go_wp2_with fail
    refine KC.out.mono ?_
    rintro e w2 ⟨xa, xc, ya, yc, rfl, gx, hb2⟩
    obtain ⟨⟨r0, r1, r2, r3⟩, rf⟩ := (BoxS.new w (.string ⟨#[]⟩) (.int .i64 0) (.slice none 0 0) (.slice none 0 0) 34).later hb2
    have f0 := rf 0
    have f1 := rf 1
    have f2 := rf 2
    have f3 := rf 3
    have B2 : Hid (Below w.heap.size w w2) := (A0.out _).trans (hb2.mono (by simp))
    have G2 := Lib.hid gx
    clear rf hb2 gx KC d1 d2 d3 d4
    have TF := Lib.hid (turned4 w2 w.heap.size (.string (fg fs i).1) (.int .i64 (fg fs i).2.1) (.slice xa (fg fs i).2.2.1.length xc) (.slice ya (fg fs i).2.2.2.length yc))
    go_wp2
    refine bodyPost_ret (v := .tuple #[.agg #[.string (fg fs i).1, .int .i64 (fg fs i).2.1, .slice xa (fg fs i).2.2.1.length xc, .slice ya (fg fs i).2.2.2.length yc], .bool true]) (by simp [results, Tryz.results116, go_sem, r0, r1, r2, r3]) rfl ?_
    have G3 := G2.out.turned TF.out (fun x hx _ e => by simp at hx; omega)
    rw [HG.out]
    exact ⟨⟨xa, xc, ya, yc, rfl, G3.mono (by simp)⟩, B2.out.trans (TF.out.below B2.out.size (fun x e => by omega))⟩
  · have hfv : findV fs id = -1 := by unfold findV; rw [if_neg hlt]
    have HG : Hid (sideOf fs id = (false, zft)) := by show _ = _; rw [HS.out, if_neg hlt]
    rw [hfv]
    have TF := Lib.hid (turned4 (w.alloc (.cells #[.string ⟨#[]⟩, .int .i64 0, .slice none 0 0, .slice none 0 0] 34)) w.heap.size (.string ⟨#[]⟩) (.int .i64 0) (.slice none 0 0) (.slice none 0 0))
    go_wp2
    refine bodyPost_ret (v := .tuple #[.agg #[.string ⟨#[]⟩, .int .i64 0, .slice none 0 0, .slice none 0 0], .bool false]) (by simp [results, Tryz.results116, go_sem]) rfl ?_
    rw [HG.out]
    first
      | exact ⟨⟨none, 0, none, 0, rfl, ⟨PtsAt.nil _ _, TagsAt.nil _ _, .inl rfl, .inl rfl⟩⟩, A0.out _⟩
      | exact ⟨⟨none, 0, none, 0, rfl, ⟨PtsAt.nil _ _, TagsAt.nil _ _, .inl rfl, .inl rfl⟩⟩, (A0.out _).trans (TF.out.below (by simp) (fun x e => by omega))⟩

/-- what is turned of one name -/
def chB (fs gs : List Ft) (n : ByteArray) : Ch := (n, (sideOf fs n).1, (sideOf fs n).2, (sideOf gs n).1, (sideOf gs n).2)
def turnsC (c : Ch) : Bool := (c.2.1 != c.2.2.2.1) || !ftEq c.2.2.1 c.2.2.2.2
/-- what is turned of some names -/
def ofN (fs gs : List Ft) (ns : List ByteArray) : List Ch := (ns.map (chB fs gs)).filter turnsC
/-- what is turned from one map to another one -/
def ofL (fs gs : List Ft) : List Ch := ofN fs gs (namesOf (putTo fs gs gs.length))

theorem ofN_app (fs gs : List Ft) (a b : List ByteArray) : ofN fs gs (a ++ b) = ofN fs gs a ++ ofN fs gs b := by
  unfold ofN
  rw [List.map_append, List.filter_append]

theorem ofN_one (fs gs : List Ft) (n : ByteArray) : ofN fs gs [n] = if turnsC (chB fs gs n) = true then [chB fs gs n] else [] := by
  unfold ofN
  rw [List.map_cons, List.map_nil, List.filter_cons]
  rfl

theorem take_sx (ns : List ByteArray) (j : Nat) (h : j < ns.length) : ns.take (j + 1) = ns.take j ++ [sx ns j] := by
  rw [List.take_succ_eq_append_getElem h]
  congr 2
  simp [sx, h]

theorem ofN_still {fs gs : List Ft} {ns : List ByteArray} {j : Nat} (h : j < ns.length) (ht : turnsC (chB fs gs (sx ns j)) = false) : (ofN fs gs (ns.take (j + 1))).length = (ofN fs gs (ns.take j)).length := by
  rw [take_sx ns j h, ofN_app, ofN_one, ht]
  simp

theorem ofN_turn {fs gs : List Ft} {ns : List ByteArray} {j : Nat} (h : j < ns.length) (ht : turnsC (chB fs gs (sx ns j)) = true) : (ofN fs gs (ns.take (j + 1))).length = (ofN fs gs (ns.take j)).length + 1 ∧ cg (ofN fs gs ns) (ofN fs gs (ns.take j)).length = chB fs gs (sx ns j) := by
  have e : ofN fs gs (ns.take (j + 1)) = ofN fs gs (ns.take j) ++ [chB fs gs (sx ns j)] := by
    rw [take_sx ns j h, ofN_app, ofN_one, if_pos ht]
  refine ⟨by rw [e, List.length_append]; rfl, ?_⟩
  conv => lhs; rw [← List.take_append_drop (j + 1) ns, ofN_app, e]
  simp [cg]

theorem ofN_le (fs gs : List Ft) (ns : List ByteArray) : (ofN fs gs ns).length ≤ ns.length := by
  unfold ofN
  exact Nat.le_trans (List.length_filter_le _ _) (by simp)

/-- nine cells that a region reads -/
theorem s9_grown {w w' : World} {r : Option Nat} {b o f g : Nat} {x0 x1 x2 x3 x4 x5 x6 x7 x8 : Value}
    (h : w.cell? ⟨b, o, none⟩ = some x0 ∧ (w.cell? ⟨f, 0, none⟩ = some x1 ∧ w.cell? ⟨f, 1, none⟩ = some x2 ∧ w.cell? ⟨f, 2, none⟩ = some x3 ∧ w.cell? ⟨f, 3, none⟩ = some x4) ∧ w.cell? ⟨g, 0, none⟩ = some x5 ∧ w.cell? ⟨g, 1, none⟩ = some x6 ∧ w.cell? ⟨g, 2, none⟩ = some x7 ∧ w.cell? ⟨g, 3, none⟩ = some x8)
    (hg : w.grownBy w' r) (h1 : some b ≠ r) (h2 : some f ≠ r) (h3 : some g ≠ r) :
    w'.cell? ⟨b, o, none⟩ = some x0 ∧ (w'.cell? ⟨f, 0, none⟩ = some x1 ∧ w'.cell? ⟨f, 1, none⟩ = some x2 ∧ w'.cell? ⟨f, 2, none⟩ = some x3 ∧ w'.cell? ⟨f, 3, none⟩ = some x4) ∧ w'.cell? ⟨g, 0, none⟩ = some x5 ∧ w'.cell? ⟨g, 1, none⟩ = some x6 ∧ w'.cell? ⟨g, 2, none⟩ = some x7 ∧ w'.cell? ⟨g, 3, none⟩ = some x8 := by
  obtain ⟨a0, ⟨a1, a2, a3, a4⟩, a5, a6, a7, a8⟩ := h
  have k : ∀ {x y : Nat} {v : Value}, some x ≠ r → w.cell? ⟨x, y, none⟩ = some v → w'.cell? ⟨x, y, none⟩ = some v := fun hn hc => (hg.cell_far ⟨_, _, none⟩ (World.block_lt_of_cell? _ _ hc) hn).trans hc
  exact ⟨k h1 a0, ⟨k h2 a1, k h2 a2, k h2 a3, k h2 a4⟩, k h3 a5, k h3 a6, k h3 a7, k h3 a8⟩

theorem grown_dr {w w' : World} {r : Option Nat} (h : w.grownBy w' r) : w.grownBy w'.drew r := ⟨h.os, h.tape, h.output, h.size, h.block⟩

theorem turned_grown {w w1 w2 : World} {S : Nat → Prop} {r : Option Nat} (h : Turned w w1 S) (hg : w1.grownBy w2 r) (hr : ∀ x, r = some x → S x ∨ w.heap.size ≤ x) : Turned w w2 S :=
  ⟨hg.os.trans h.os, hg.tape.trans h.tape, hg.output.trans h.output, Nat.le_trans h.size hg.size, fun k hk hn => (hg.block k (Nat.lt_of_lt_of_le hk h.size) (fun e => by
    rcases hr k e.symm with h1 | h1
    · exact hn h1
    · omega)).trans (h.block k hk hn)⟩

set_option maxRecDepth 100000 in
set_option maxHeartbeats 8000000 in
theorem l4Of_any (a : Option Addr) (cap : Nat) (fs : List Ft) (a' : Option Addr) (cap' : Nat) (gs : List Ft) (w : World) (hp : FeatsAt w a fs) (hq : FeatsAt w a' gs) (hl : fs.length ≤ 1024) (hl' : gs.length ≤ 1024) (hL : FeatsLen fs 1048576) (hL' : FeatsLen gs 1048576)
    (hpos : ∀ i, i < fs.length → 0 < (fps fs i).length) (hpos' : ∀ i, i < gs.length → 0 < (fps gs i).length) :
    Calls Tryz.prog 65 #[.slice a fs.length cap, .slice a' gs.length cap'] w fun e w' => (∃ a2 c2, e = .returned (.slice a2 (ofL fs gs).length c2) ∧ GotC w.heap.size w'.heap.size w' a2 (ofL fs gs)) ∧ Below w.heap.size w w' := by
  obtain ⟨i0, hi, hz0, hz1, hz2⟩ := info_parts infoChange
  have HI := Lib.hid hi
  have HZ0 := Lib.hid hz0
  have HZ1 := Lib.hid hz1
  have HZ2 := Lib.hid hz2
  have HP := Lib.hid hp
  have HQ := Lib.hid hq
  have SL := Lib.hid (fun n => sideOf_len (by omega) hL n)
  have SL' := Lib.hid (fun n => sideOf_len (by omega) hL' n)
  have K0 : Hid (∀ n u, Below w.heap.size w u → _) := fun n u hu => l4Side_got a cap fs n u (hp.below hu) (by omega) hL hpos
  have K1 : Hid (∀ n u, Below w.heap.size w u → _) := fun n u hu => l4Side_got a' cap' gs n u (hq.below hu) (by omega) hL' hpos'
  have A0 : Hid (∀ o, Below w.heap.size w (w.alloc o)) := fun o => (Below.refl _ _).alloc (Nat.le_refl _) _
  obtain ⟨ns, hns⟩ : ∃ ns, namesOf (putTo fs gs gs.length) = ns := ⟨_, rfl⟩
  have hnl : (putTo fs gs gs.length).length = ns.length := by rw [← hns, namesOf_len]
  have hn2 : ns.length ≤ 2048 := by have := putTo_len fs gs gs.length; omega
  have HOF : Hid (ofL fs gs = ofN fs gs ns) := by show _ = _; unfold ofL; rw [hns]
  have HNS := Lib.hid hns
  have HNL := Lib.hid hnl
  clear hp hq hi hz0 hz1 hz2 hns hnl hL hL' hpos hpos'
  go_enter Tryz.func65, Tryz.ntmps65
  go_wp2_with fail
  refine (l4Ids_any _ _ fs _ _ gs _ (HP.out.below (A0.out _)) (HQ.out.below (A0.out _)) hl hl').mono ?_
  rintro e w1 ⟨⟨v0, rfl, hrow⟩, hb1⟩
  rw [HNS.out, HNL.out] at hrow
  obtain ⟨ai, ci, rfl, hs, hin⟩ := owned_strs hrow rfl
  have z1 : w.heap.size < w1.heap.size := Nat.lt_of_lt_of_le (by simp) hb1.size
  have B1 : Hid (Below w.heap.size w w1) := (A0.out _).trans (hb1.mono (by simp))
  have HS := Lib.hid hs
  have HIN : Hid (∀ x, blk ai = some x → x ≠ w.heap.size ∧ x < w1.heap.size) := fun x hx => by
    have := hin x hx
    simp at this
    omega
  have R0 : Hid (RowC w1 w.heap.size (.slice (some ⟨w.heap.size, 0, none⟩) 0 0) 0 (ofN fs gs ns) fun _ _ => (none, 0)) := (rowC_none (ds := ofN fs gs ns) (fun _ _ => (none, 0)) (World.ownsRow_made w #[] 0 (Nat.le_refl _) (by unfold maxLen; omega) rfl)).below hb1
  clear hrow hs hin hb1
  go_wp2
  go_loopw [5, 7] (fun q i wr => ∃ (j : Nat) (v : Value) (ad : Nat → PlC), j ≤ ns.length ∧ v = q ∧ i = .int .i64 j ∧ RowC wr w.heap.size v (ofN fs gs (ns.take j)).length (ofN fs gs ns) ad ∧ Turned w1 wr (fun x => x = w.heap.size) ∧ ∀ x, v.ownBlock = some x → x = w.heap.size ∨ w1.heap.size ≤ x) (fun _ i _ => ns.length - (intOf i).toNat)
  case atStart => exact ⟨0, _, fun _ _ => (none, 0), Nat.zero_le _, rfl, rfl, R0.out, Turned.refl _ _, fun x hx => .inl (by have : w.heap.size = x := (by simpa [Value.ownBlock] using hx); exact this.symm)⟩
  case round =>
    obtain ⟨j, v, ad, hj, rfl, rfl, hrow, htu, hown⟩ := hrel
    have HW := Lib.hid hrow
    have HT := Lib.hid htu
    have HV := Lib.hid hown
    have HB : Hid (Below w.heap.size w wr) := B1.out.trans (htu.below (Nat.le_of_lt z1) fun x e => by omega)
    have hsz := htu.size
    clear hrow htu hown
    by_cases hlt : j < ns.length
    · have hlk := ofN_le fs gs (ns.take j)
      have hkk : (ofN fs gs (ns.take j)).length ≤ 2048 := by rw [List.length_take] at hlk; omega
      obtain ⟨bs, os, rfl, hbl, hc⟩ := HS.out j hlt
      have hbs := HIN.out bs rfl
      replace hc := HT.out.cell hc hbs.1
      obtain ⟨⟨h, f⟩, e1⟩ : ∃ p, sideOf fs (sx ns j) = p := ⟨_, rfl⟩
      obtain ⟨⟨s, g⟩, e2⟩ : ∃ p, sideOf gs (sx ns j) = p := ⟨_, rfl⟩
      have l1 := SL.out (sx ns j)
      have l2 := SL'.out (sx ns j)
      have KA := K0.out (sx ns j)
      have KB := K1.out (sx ns j)
      rw [e1] at l1 KA
      rw [e2] at l2 KB
      have CB : Hid (chB fs gs (sx ns j) = (sx ns j, h, f, s, g)) := by show _ = _; unfold chB; rw [e1, e2]
      have TT : Hid (turnsC (sx ns j, h, f, s, g) = true → (ofN fs gs (ns.take (j + 1))).length = (ofN fs gs (ns.take j)).length + 1 ∧ cg (ofN fs gs ns) (ofN fs gs (ns.take j)).length = (sx ns j, h, f, s, g)) := by
        rw [← CB.out]
        exact ofN_turn hlt
      have TS : Hid (turnsC (sx ns j, h, f, s, g) = false → (ofN fs gs (ns.take (j + 1))).length = (ofN fs gs (ns.take j)).length) := by
        rw [← CB.out]
        exact ofN_still hlt
      simp only at KA KB l1 l2
      have KC := Lib.hid KA
      have KD := Lib.hid KB
      generalize sx ns j = n at *
      clear e1 e2 KA KB hlk
      obtain ⟨k, hk⟩ : ∃ k, (ofN fs gs (ns.take j)).length = k := ⟨_, rfl⟩
      rw [hk] at HW TT TS hkk
      go_wp2_with fail
      refine (KC.out _ HB.out).mono ?_
      rintro e w2 ⟨⟨xa, xc, ya, yc, rfl, gf⟩, hb2⟩
      have B2 : Hid (Below wr.heap.size wr w2) := hb2
      replace hc := cell_later hb2 hc
      have G1 := Lib.hid gf
      clear hb2 gf
      go_upto_region 7 with (fail)
      obtain ⟨f0, f1, f2, f3⟩ := (BoxS.new w2 (.string f.1) (.int .i64 f.2.1) (.slice xa f.2.2.1.length xc) (.slice ya f.2.2.2.length yc) 34).1
      have ba : Below w2.heap.size w2 (w2.alloc (.cells #[.string f.1, .int .i64 f.2.1, .slice xa f.2.2.1.length xc, .slice ya f.2.2.2.length yc] 34)) := (Below.refl _ _).alloc (Nat.le_refl _) _
      have hF : wr.heap.size ≤ w2.heap.size := B2.out.size
      have B3 : Hid (Below wr.heap.size wr (w2.alloc (.cells #[.string f.1, .int .i64 f.2.1, .slice xa f.2.2.1.length xc, .slice ya f.2.2.2.length yc] 34))) := B2.out.trans (ba.mono hF)
      have G3 : Hid (GotF wr.heap.size (w2.alloc (.cells #[.string f.1, .int .i64 f.2.1, .slice xa f.2.2.1.length xc, .slice ya f.2.2.2.length yc] 34)) f xa ya) := G1.out.below ba
      replace hc := cell_later ba hc
      clear ba G1 B2
      generalize w2.alloc (.cells #[.string f.1, .int .i64 f.2.1, .slice xa f.2.2.1.length xc, .slice ya f.2.2.2.length yc] 34) = W3 at *
      generalize w2.heap.size = F at *
      go_wp2_with fail
      refine (KD.out _ (HB.out.trans (B3.out.mono HB.out.size))).mono ?_
      rintro e w4 ⟨⟨za, zc, va, vc, rfl, gg2⟩, hb4⟩
      have B4 : Hid (Below wr.heap.size wr w4) := B3.out.trans (hb4.mono B3.out.size)
      have G4 := Lib.hid (G3.out.below hb4)
      have G5 : Hid (GotF wr.heap.size w4 g za va) := gg2.mono B3.out.size
      replace hc := cell_later hb4 hc
      replace f0 := cell_later hb4 f0
      replace f1 := cell_later hb4 f1
      replace f2 := cell_later hb4 f2
      replace f3 := cell_later hb4 f3
      clear hb4 gg2 G3 B3 W3
      go_upto_region 8 with (fail)
      obtain ⟨g0, g1, g2, g3⟩ := (BoxS.new w4 (.string g.1) (.int .i64 g.2.1) (.slice za g.2.2.1.length zc) (.slice va g.2.2.2.length vc) 34).1
      have ba : Below w4.heap.size w4 (w4.alloc (.cells #[.string g.1, .int .i64 g.2.1, .slice za g.2.2.1.length zc, .slice va g.2.2.2.length vc] 34)) := (Below.refl _ _).alloc (Nat.le_refl _) _
      have hG : wr.heap.size ≤ w4.heap.size := B4.out.size
      have B5 : Hid (Below wr.heap.size wr (w4.alloc (.cells #[.string g.1, .int .i64 g.2.1, .slice za g.2.2.1.length zc, .slice va g.2.2.2.length vc] 34))) := B4.out.trans (ba.mono hG)
      have G6 : Hid (GotF wr.heap.size (w4.alloc (.cells #[.string g.1, .int .i64 g.2.1, .slice za g.2.2.1.length zc, .slice va g.2.2.2.length vc] 34)) f xa ya) := G4.out.below ba
      have G7 : Hid (GotF wr.heap.size (w4.alloc (.cells #[.string g.1, .int .i64 g.2.1, .slice za g.2.2.1.length zc, .slice va g.2.2.2.length vc] 34)) g za va) := G5.out.below ba
      replace hc := cell_later ba hc
      replace f0 := cell_later ba f0
      replace f1 := cell_later ba f1
      replace f2 := cell_later ba f2
      replace f3 := cell_later ba f3
      clear ba G4 G5 B4
      generalize w4.alloc (.cells #[.string g.1, .int .i64 g.2.1, .slice za g.2.2.1.length zc, .slice va g.2.2.2.length vc] 34) = W5 at *
      generalize w4.heap.size = G at *
      have HVL : Hid (∀ x, v.ownBlock = some x → x < wr.heap.size) := fun x hx => (HW.out.row.lt x hx).2
      have N1 : Hid (some bs ≠ v.ownBlock) := fun e => by
        have := HV.out bs e.symm
        omega
      have N2 : Hid (some F ≠ v.ownBlock) := fun e => by
        have := HVL.out F e.symm
        omega
      have N3 : Hid (some G ≠ v.ownBlock) := fun e => by
        have := HVL.out G e.symm
        omega
      cases h <;> cases s
      · have KS : Hid (Calls Tryz.prog 72 #[.agg #[.string f.1, .int .i64 f.2.1, .slice xa f.2.2.1.length xc, .slice ya f.2.2.2.length yc], .agg #[.string g.1, .int .i64 g.2.1, .slice za g.2.2.1.length zc, .slice va g.2.2.2.length vc]] W5 fun e w' => e = .returned (.bool (ftEq f g)) ∧ Below W5.heap.size W5 w') := by
          have := specFeatSame_any f.1 g.1 f.2.1 g.2.1 xa za xc zc f.2.2.1 g.2.2.1 ya va yc vc f.2.2.2 g.2.2.2 W5 G6.out.1 G7.out.1 G6.out.2.1 G7.out.2.1 (by have := l1.2.1; omega) (by have := l2.2.1; omega) (by have := l1.2.2.1; omega) (by have := l2.2.2.1; omega)
          rwa [featEq_ft] at this
        go_wp2_with fail
        refine KS.out.mono ?_
        rintro e w6 ⟨rfl, hb6⟩
        have BWT : Hid (Below wr.heap.size wr w6) := B5.out.trans (hb6.mono B5.out.size)
        have BT : Hid (Below w.heap.size w w6) := HB.out.trans (BWT.out.mono HB.out.size)
        by_cases hq : ftEq f g = true
        · rw [hq]
          have ht : turnsC (n, false, f, false, g) = false := by unfold turnsC; simp [hq]
          have q1 := Lib.hid (TS.out ht)
          have HS := Lib.hid (HW.out.below BWT.out)
          have HT2 : Hid (Turned w1 w6 (fun x => x = w.heap.size)) := HT.out.trans (Turned.of_below BWT.out)
          clear hb6 ht hc f0 f1 f2 f3 g0 g1 g2 g3 hq
          go_wp2
          go_roundw
          case rel => exact ⟨j + 1, _, _, by omega, rfl, by go_num, by rw [q1.out]; exact HS.out, HT2.out, HV.out⟩
          case measure => simp [intOf]; omega
        · have hq' : ftEq f g = false := by simpa using hq
          rw [hq']
          have G1T := Lib.hid (G6.out.below hb6)
          have G2T := Lib.hid (G7.out.below hb6)
          have ht : turnsC (n, false, f, false, g) = true := by unfold turnsC; simp [hq']
          replace hc := cell_later hb6 hc
          replace f0 := cell_later hb6 f0
          replace f1 := cell_later hb6 f1
          replace f2 := cell_later hb6 f2
          replace f3 := cell_later hb6 f3
          replace g0 := cell_later hb6 g0
          replace g1 := cell_later hb6 g1
          replace g2 := cell_later hb6 g2
          replace g3 := cell_later hb6 g3
          clear hb6 hq hq'
          have H9 := Lib.hid (And.intro hc (And.intro (And.intro f0 (And.intro f1 (And.intro f2 f3))) (And.intro g0 (And.intro g1 (And.intro g2 g3)))))
          obtain ⟨q1, q2⟩ := TT.out ht
          have Q1 := Lib.hid q1
          have Q2 := Lib.hid q2
          clear q1 q2 ht
          have RT := Lib.hid (HW.out.below BWT.out)
          go_wp2
          go_region_held3 (fun w' => w'.cell? ⟨bs, os + j, none⟩ = some (.string n) ∧ (w'.cell? ⟨F, 0, none⟩ = some (.string f.1) ∧ w'.cell? ⟨F, 1, none⟩ = some (.int .i64 f.2.1) ∧ w'.cell? ⟨F, 2, none⟩ = some (.slice xa f.2.2.1.length xc) ∧ w'.cell? ⟨F, 3, none⟩ = some (.slice ya f.2.2.2.length yc)) ∧ w'.cell? ⟨G, 0, none⟩ = some (.string g.1) ∧ w'.cell? ⟨G, 1, none⟩ = some (.int .i64 g.2.1) ∧ w'.cell? ⟨G, 2, none⟩ = some (.slice za g.2.2.1.length zc) ∧ w'.cell? ⟨G, 3, none⟩ = some (.slice va g.2.2.2.length vc))
            (first | with_reducible exact H9a | exact s9_grown (r := none) H9.out (grown_dr (World.grownBy_alloc _ _ none)) (by simp) (by simp) (by simp) | exact H9.out)
            (first
              | (refine step_append_lies _ (by rfl) _ _ _ (by rfl) w.heap.size 102 i0 _ 11 176 Tryz.underlying56 HI.out HZ0.out HZ1.out HZ2.out rfl (by omega) v k (flatC (ofN fs gs ns) ad k) (by rfl) ((RT.out.row.alloc _).drew) ⟨w6.heap.size, 0, none⟩ 1 1 (cellsC (n, false, f, false, g) (fun r => match r with | 0 => (xa, xc) | 1 => (ya, yc) | 2 => (za, zc) | _ => (va, vc) : PlC)) (by rfl) (by rfl) (World.news_of_block (cs := #[.string n, .bool false, .string f.1, .int .i64 f.2.1, .slice xa f.2.2.1.length xc, .slice ya f.2.2.2.length yc, .bool false, .string g.1, .int .i64 g.2.1, .slice za g.2.2.1.length zc, .slice va g.2.2.2.length vc]) (t := 102) (fr := (0, 0)) (heap_alloc_new w6 _)) (by simp [Value.oneCell', cellsC]) (by omega) (by unfold maxLen; omega) (by omega) (by have := BT.out.size; simp; omega) (w6.heap.size + 1) (by simp) ?_; intro gg cap' wa hown1 hgrow hat hlt'; have H9a := s9_grown (s9_grown (r := none) H9.out (grown_dr (World.grownBy_alloc w6 (.cells #[.string n, .bool false, .string f.1, .int .i64 f.2.1, .slice xa f.2.2.1.length xc, .slice ya f.2.2.2.length yc, .bool false, .string g.1, .int .i64 g.2.1, .slice za g.2.2.1.length zc, .slice va g.2.2.2.length vc] 102) none)) (by simp) (by simp) (by simp)) hgrow N1.out N2.out N3.out; have HO1 := Lib.hid hown1; have HGR := Lib.hid hgrow; have HAT := Lib.hid hat; clear hown1 hgrow hat)
              | fail)
          all_goals
            have hh : Below w6.heap.size w6 ((w6.alloc (.cells #[.string n, .bool false, .string f.1, .int .i64 f.2.1, .slice xa f.2.2.1.length xc, .slice ya f.2.2.2.length yc, .bool false, .string g.1, .int .i64 g.2.1, .slice za g.2.2.1.length zc, .slice va g.2.2.2.length vc] 102)).drew) := below_drewN ((Below.refl _ _).alloc (Nat.le_refl _) _) 1
            have HS : Hid (RowC wa w.heap.size (.slice (some ⟨gg, 0, none⟩) (k + 1) cap') (k + 1) (ofN fs gs ns) (plSetC ad k (fun r => match r with | 0 => (xa, xc) | 1 => (ya, yc) | 2 => (za, zc) | _ => (va, vc) : PlC))) := HW.out.step HB.out.size BWT.out hh (by unfold cwf; rw [Q2.out]; exact G1T.out) (by unfold cnf; rw [Q2.out]; exact G2T.out) (by rw [Q2.out]; exact HO1.out) HGR.out (HAT.out.imp id fun e => by omega)
            have HT2 : Hid (Turned w1 wa (fun x => x = w.heap.size)) := turned_grown ((HT.out.trans (Turned.of_below BWT.out)).trans (Turned.of_below hh)) HGR.out fun x hx => HV.out x hx
            have HV2 : Hid (∀ x, (Value.slice (some ⟨gg, 0, none⟩) (k + 1) cap').ownBlock = some x → x = w.heap.size ∨ w1.heap.size ≤ x) := fun x hx => by
              obtain rfl : gg = x := by simpa [Value.ownBlock] using hx
              have z5 := BWT.out.size
              exact HAT.out.elim (HV.out gg) fun e => .inr (by omega)
            clear HO1 HGR HAT hh H9a RT
            go_wp2
            go_roundw
            case rel => exact ⟨j + 1, _, _, by omega, rfl, by go_num, by rw [Q1.out]; exact HS.out, HT2.out, HV2.out⟩
            case measure => simp [intOf]; omega
      · have BT : Hid (Below w.heap.size w W5) := HB.out.trans (B5.out.mono HB.out.size)
        have BWT := B5
        have G1T := G6
        have G2T := G7
        have ht : turnsC (n, false, f, true, g) = true := rfl
        have H9 := Lib.hid (And.intro hc (And.intro (And.intro f0 (And.intro f1 (And.intro f2 f3))) (And.intro g0 (And.intro g1 (And.intro g2 g3)))))
        obtain ⟨q1, q2⟩ := TT.out ht
        have Q1 := Lib.hid q1
        have Q2 := Lib.hid q2
        clear q1 q2 ht
        have RT := Lib.hid (HW.out.below BWT.out)
        go_wp2
        go_region_held3 (fun w' => w'.cell? ⟨bs, os + j, none⟩ = some (.string n) ∧ (w'.cell? ⟨F, 0, none⟩ = some (.string f.1) ∧ w'.cell? ⟨F, 1, none⟩ = some (.int .i64 f.2.1) ∧ w'.cell? ⟨F, 2, none⟩ = some (.slice xa f.2.2.1.length xc) ∧ w'.cell? ⟨F, 3, none⟩ = some (.slice ya f.2.2.2.length yc)) ∧ w'.cell? ⟨G, 0, none⟩ = some (.string g.1) ∧ w'.cell? ⟨G, 1, none⟩ = some (.int .i64 g.2.1) ∧ w'.cell? ⟨G, 2, none⟩ = some (.slice za g.2.2.1.length zc) ∧ w'.cell? ⟨G, 3, none⟩ = some (.slice va g.2.2.2.length vc))
          (first | with_reducible exact H9a | exact s9_grown (r := none) H9.out (grown_dr (World.grownBy_alloc _ _ none)) (by simp) (by simp) (by simp) | exact H9.out)
          (first
            | (refine step_append_lies _ (by rfl) _ _ _ (by rfl) w.heap.size 102 i0 _ 11 176 Tryz.underlying56 HI.out HZ0.out HZ1.out HZ2.out rfl (by omega) v k (flatC (ofN fs gs ns) ad k) (by rfl) ((RT.out.row.alloc _).drew) ⟨W5.heap.size, 0, none⟩ 1 1 (cellsC (n, false, f, true, g) (fun r => match r with | 0 => (xa, xc) | 1 => (ya, yc) | 2 => (za, zc) | _ => (va, vc) : PlC)) (by rfl) (by rfl) (World.news_of_block (cs := #[.string n, .bool false, .string f.1, .int .i64 f.2.1, .slice xa f.2.2.1.length xc, .slice ya f.2.2.2.length yc, .bool true, .string g.1, .int .i64 g.2.1, .slice za g.2.2.1.length zc, .slice va g.2.2.2.length vc]) (t := 102) (fr := (0, 0)) (heap_alloc_new W5 _)) (by simp [Value.oneCell', cellsC]) (by omega) (by unfold maxLen; omega) (by omega) (by have := BT.out.size; simp; omega) (W5.heap.size + 1) (by simp) ?_; intro gg cap' wa hown1 hgrow hat hlt'; have H9a := s9_grown (s9_grown (r := none) H9.out (grown_dr (World.grownBy_alloc W5 (.cells #[.string n, .bool false, .string f.1, .int .i64 f.2.1, .slice xa f.2.2.1.length xc, .slice ya f.2.2.2.length yc, .bool true, .string g.1, .int .i64 g.2.1, .slice za g.2.2.1.length zc, .slice va g.2.2.2.length vc] 102) none)) (by simp) (by simp) (by simp)) hgrow N1.out N2.out N3.out; have HO1 := Lib.hid hown1; have HGR := Lib.hid hgrow; have HAT := Lib.hid hat; clear hown1 hgrow hat)
            | fail)
        all_goals
          have hh : Below W5.heap.size W5 ((W5.alloc (.cells #[.string n, .bool false, .string f.1, .int .i64 f.2.1, .slice xa f.2.2.1.length xc, .slice ya f.2.2.2.length yc, .bool true, .string g.1, .int .i64 g.2.1, .slice za g.2.2.1.length zc, .slice va g.2.2.2.length vc] 102)).drew) := below_drewN ((Below.refl _ _).alloc (Nat.le_refl _) _) 1
          have HS : Hid (RowC wa w.heap.size (.slice (some ⟨gg, 0, none⟩) (k + 1) cap') (k + 1) (ofN fs gs ns) (plSetC ad k (fun r => match r with | 0 => (xa, xc) | 1 => (ya, yc) | 2 => (za, zc) | _ => (va, vc) : PlC))) := HW.out.step HB.out.size BWT.out hh (by unfold cwf; rw [Q2.out]; exact G1T.out) (by unfold cnf; rw [Q2.out]; exact G2T.out) (by rw [Q2.out]; exact HO1.out) HGR.out (HAT.out.imp id fun e => by omega)
          have HT2 : Hid (Turned w1 wa (fun x => x = w.heap.size)) := turned_grown ((HT.out.trans (Turned.of_below BWT.out)).trans (Turned.of_below hh)) HGR.out fun x hx => HV.out x hx
          have HV2 : Hid (∀ x, (Value.slice (some ⟨gg, 0, none⟩) (k + 1) cap').ownBlock = some x → x = w.heap.size ∨ w1.heap.size ≤ x) := fun x hx => by
            obtain rfl : gg = x := by simpa [Value.ownBlock] using hx
            have z5 := BWT.out.size
            exact HAT.out.elim (HV.out gg) fun e => .inr (by omega)
          clear HO1 HGR HAT hh H9a RT
          go_wp2
          go_roundw
          case rel => exact ⟨j + 1, _, _, by omega, rfl, by go_num, by rw [Q1.out]; exact HS.out, HT2.out, HV2.out⟩
          case measure => simp [intOf]; omega
      · have BT : Hid (Below w.heap.size w W5) := HB.out.trans (B5.out.mono HB.out.size)
        have BWT := B5
        have G1T := G6
        have G2T := G7
        have ht : turnsC (n, true, f, false, g) = true := rfl
        have H9 := Lib.hid (And.intro hc (And.intro (And.intro f0 (And.intro f1 (And.intro f2 f3))) (And.intro g0 (And.intro g1 (And.intro g2 g3)))))
        obtain ⟨q1, q2⟩ := TT.out ht
        have Q1 := Lib.hid q1
        have Q2 := Lib.hid q2
        clear q1 q2 ht
        have RT := Lib.hid (HW.out.below BWT.out)
        go_wp2
        go_region_held3 (fun w' => w'.cell? ⟨bs, os + j, none⟩ = some (.string n) ∧ (w'.cell? ⟨F, 0, none⟩ = some (.string f.1) ∧ w'.cell? ⟨F, 1, none⟩ = some (.int .i64 f.2.1) ∧ w'.cell? ⟨F, 2, none⟩ = some (.slice xa f.2.2.1.length xc) ∧ w'.cell? ⟨F, 3, none⟩ = some (.slice ya f.2.2.2.length yc)) ∧ w'.cell? ⟨G, 0, none⟩ = some (.string g.1) ∧ w'.cell? ⟨G, 1, none⟩ = some (.int .i64 g.2.1) ∧ w'.cell? ⟨G, 2, none⟩ = some (.slice za g.2.2.1.length zc) ∧ w'.cell? ⟨G, 3, none⟩ = some (.slice va g.2.2.2.length vc))
          (first | with_reducible exact H9a | exact s9_grown (r := none) H9.out (grown_dr (World.grownBy_alloc _ _ none)) (by simp) (by simp) (by simp) | exact H9.out)
          (first
            | (refine step_append_lies _ (by rfl) _ _ _ (by rfl) w.heap.size 102 i0 _ 11 176 Tryz.underlying56 HI.out HZ0.out HZ1.out HZ2.out rfl (by omega) v k (flatC (ofN fs gs ns) ad k) (by rfl) ((RT.out.row.alloc _).drew) ⟨W5.heap.size, 0, none⟩ 1 1 (cellsC (n, true, f, false, g) (fun r => match r with | 0 => (xa, xc) | 1 => (ya, yc) | 2 => (za, zc) | _ => (va, vc) : PlC)) (by rfl) (by rfl) (World.news_of_block (cs := #[.string n, .bool true, .string f.1, .int .i64 f.2.1, .slice xa f.2.2.1.length xc, .slice ya f.2.2.2.length yc, .bool false, .string g.1, .int .i64 g.2.1, .slice za g.2.2.1.length zc, .slice va g.2.2.2.length vc]) (t := 102) (fr := (0, 0)) (heap_alloc_new W5 _)) (by simp [Value.oneCell', cellsC]) (by omega) (by unfold maxLen; omega) (by omega) (by have := BT.out.size; simp; omega) (W5.heap.size + 1) (by simp) ?_; intro gg cap' wa hown1 hgrow hat hlt'; have H9a := s9_grown (s9_grown (r := none) H9.out (grown_dr (World.grownBy_alloc W5 (.cells #[.string n, .bool true, .string f.1, .int .i64 f.2.1, .slice xa f.2.2.1.length xc, .slice ya f.2.2.2.length yc, .bool false, .string g.1, .int .i64 g.2.1, .slice za g.2.2.1.length zc, .slice va g.2.2.2.length vc] 102) none)) (by simp) (by simp) (by simp)) hgrow N1.out N2.out N3.out; have HO1 := Lib.hid hown1; have HGR := Lib.hid hgrow; have HAT := Lib.hid hat; clear hown1 hgrow hat)
            | fail)
        all_goals
          have hh : Below W5.heap.size W5 ((W5.alloc (.cells #[.string n, .bool true, .string f.1, .int .i64 f.2.1, .slice xa f.2.2.1.length xc, .slice ya f.2.2.2.length yc, .bool false, .string g.1, .int .i64 g.2.1, .slice za g.2.2.1.length zc, .slice va g.2.2.2.length vc] 102)).drew) := below_drewN ((Below.refl _ _).alloc (Nat.le_refl _) _) 1
          have HS : Hid (RowC wa w.heap.size (.slice (some ⟨gg, 0, none⟩) (k + 1) cap') (k + 1) (ofN fs gs ns) (plSetC ad k (fun r => match r with | 0 => (xa, xc) | 1 => (ya, yc) | 2 => (za, zc) | _ => (va, vc) : PlC))) := HW.out.step HB.out.size BWT.out hh (by unfold cwf; rw [Q2.out]; exact G1T.out) (by unfold cnf; rw [Q2.out]; exact G2T.out) (by rw [Q2.out]; exact HO1.out) HGR.out (HAT.out.imp id fun e => by omega)
          have HT2 : Hid (Turned w1 wa (fun x => x = w.heap.size)) := turned_grown ((HT.out.trans (Turned.of_below BWT.out)).trans (Turned.of_below hh)) HGR.out fun x hx => HV.out x hx
          have HV2 : Hid (∀ x, (Value.slice (some ⟨gg, 0, none⟩) (k + 1) cap').ownBlock = some x → x = w.heap.size ∨ w1.heap.size ≤ x) := fun x hx => by
            obtain rfl : gg = x := by simpa [Value.ownBlock] using hx
            have z5 := BWT.out.size
            exact HAT.out.elim (HV.out gg) fun e => .inr (by omega)
          clear HO1 HGR HAT hh H9a RT
          go_wp2
          go_roundw
          case rel => exact ⟨j + 1, _, _, by omega, rfl, by go_num, by rw [Q1.out]; exact HS.out, HT2.out, HV2.out⟩
          case measure => simp [intOf]; omega
      · have KS : Hid (Calls Tryz.prog 72 #[.agg #[.string f.1, .int .i64 f.2.1, .slice xa f.2.2.1.length xc, .slice ya f.2.2.2.length yc], .agg #[.string g.1, .int .i64 g.2.1, .slice za g.2.2.1.length zc, .slice va g.2.2.2.length vc]] W5 fun e w' => e = .returned (.bool (ftEq f g)) ∧ Below W5.heap.size W5 w') := by
          have := specFeatSame_any f.1 g.1 f.2.1 g.2.1 xa za xc zc f.2.2.1 g.2.2.1 ya va yc vc f.2.2.2 g.2.2.2 W5 G6.out.1 G7.out.1 G6.out.2.1 G7.out.2.1 (by have := l1.2.1; omega) (by have := l2.2.1; omega) (by have := l1.2.2.1; omega) (by have := l2.2.2.1; omega)
          rwa [featEq_ft] at this
        go_wp2_with fail
        refine KS.out.mono ?_
        rintro e w6 ⟨rfl, hb6⟩
        have BWT : Hid (Below wr.heap.size wr w6) := B5.out.trans (hb6.mono B5.out.size)
        have BT : Hid (Below w.heap.size w w6) := HB.out.trans (BWT.out.mono HB.out.size)
        by_cases hq : ftEq f g = true
        · rw [hq]
          have ht : turnsC (n, true, f, true, g) = false := by unfold turnsC; simp [hq]
          have q1 := Lib.hid (TS.out ht)
          have HS := Lib.hid (HW.out.below BWT.out)
          have HT2 : Hid (Turned w1 w6 (fun x => x = w.heap.size)) := HT.out.trans (Turned.of_below BWT.out)
          clear hb6 ht hc f0 f1 f2 f3 g0 g1 g2 g3 hq
          go_wp2
          go_roundw
          case rel => exact ⟨j + 1, _, _, by omega, rfl, by go_num, by rw [q1.out]; exact HS.out, HT2.out, HV.out⟩
          case measure => simp [intOf]; omega
        · have hq' : ftEq f g = false := by simpa using hq
          rw [hq']
          have G1T := Lib.hid (G6.out.below hb6)
          have G2T := Lib.hid (G7.out.below hb6)
          have ht : turnsC (n, true, f, true, g) = true := by unfold turnsC; simp [hq']
          replace hc := cell_later hb6 hc
          replace f0 := cell_later hb6 f0
          replace f1 := cell_later hb6 f1
          replace f2 := cell_later hb6 f2
          replace f3 := cell_later hb6 f3
          replace g0 := cell_later hb6 g0
          replace g1 := cell_later hb6 g1
          replace g2 := cell_later hb6 g2
          replace g3 := cell_later hb6 g3
          clear hb6 hq hq'
          have H9 := Lib.hid (And.intro hc (And.intro (And.intro f0 (And.intro f1 (And.intro f2 f3))) (And.intro g0 (And.intro g1 (And.intro g2 g3)))))
          obtain ⟨q1, q2⟩ := TT.out ht
          have Q1 := Lib.hid q1
          have Q2 := Lib.hid q2
          clear q1 q2 ht
          have RT := Lib.hid (HW.out.below BWT.out)
          go_wp2
          go_region_held3 (fun w' => w'.cell? ⟨bs, os + j, none⟩ = some (.string n) ∧ (w'.cell? ⟨F, 0, none⟩ = some (.string f.1) ∧ w'.cell? ⟨F, 1, none⟩ = some (.int .i64 f.2.1) ∧ w'.cell? ⟨F, 2, none⟩ = some (.slice xa f.2.2.1.length xc) ∧ w'.cell? ⟨F, 3, none⟩ = some (.slice ya f.2.2.2.length yc)) ∧ w'.cell? ⟨G, 0, none⟩ = some (.string g.1) ∧ w'.cell? ⟨G, 1, none⟩ = some (.int .i64 g.2.1) ∧ w'.cell? ⟨G, 2, none⟩ = some (.slice za g.2.2.1.length zc) ∧ w'.cell? ⟨G, 3, none⟩ = some (.slice va g.2.2.2.length vc))
            (first | with_reducible exact H9a | exact s9_grown (r := none) H9.out (grown_dr (World.grownBy_alloc _ _ none)) (by simp) (by simp) (by simp) | exact H9.out)
            (first
              | (refine step_append_lies _ (by rfl) _ _ _ (by rfl) w.heap.size 102 i0 _ 11 176 Tryz.underlying56 HI.out HZ0.out HZ1.out HZ2.out rfl (by omega) v k (flatC (ofN fs gs ns) ad k) (by rfl) ((RT.out.row.alloc _).drew) ⟨w6.heap.size, 0, none⟩ 1 1 (cellsC (n, true, f, true, g) (fun r => match r with | 0 => (xa, xc) | 1 => (ya, yc) | 2 => (za, zc) | _ => (va, vc) : PlC)) (by rfl) (by rfl) (World.news_of_block (cs := #[.string n, .bool true, .string f.1, .int .i64 f.2.1, .slice xa f.2.2.1.length xc, .slice ya f.2.2.2.length yc, .bool true, .string g.1, .int .i64 g.2.1, .slice za g.2.2.1.length zc, .slice va g.2.2.2.length vc]) (t := 102) (fr := (0, 0)) (heap_alloc_new w6 _)) (by simp [Value.oneCell', cellsC]) (by omega) (by unfold maxLen; omega) (by omega) (by have := BT.out.size; simp; omega) (w6.heap.size + 1) (by simp) ?_; intro gg cap' wa hown1 hgrow hat hlt'; have H9a := s9_grown (s9_grown (r := none) H9.out (grown_dr (World.grownBy_alloc w6 (.cells #[.string n, .bool true, .string f.1, .int .i64 f.2.1, .slice xa f.2.2.1.length xc, .slice ya f.2.2.2.length yc, .bool true, .string g.1, .int .i64 g.2.1, .slice za g.2.2.1.length zc, .slice va g.2.2.2.length vc] 102) none)) (by simp) (by simp) (by simp)) hgrow N1.out N2.out N3.out; have HO1 := Lib.hid hown1; have HGR := Lib.hid hgrow; have HAT := Lib.hid hat; clear hown1 hgrow hat)
              | fail)
          all_goals
            have hh : Below w6.heap.size w6 ((w6.alloc (.cells #[.string n, .bool true, .string f.1, .int .i64 f.2.1, .slice xa f.2.2.1.length xc, .slice ya f.2.2.2.length yc, .bool true, .string g.1, .int .i64 g.2.1, .slice za g.2.2.1.length zc, .slice va g.2.2.2.length vc] 102)).drew) := below_drewN ((Below.refl _ _).alloc (Nat.le_refl _) _) 1
            have HS : Hid (RowC wa w.heap.size (.slice (some ⟨gg, 0, none⟩) (k + 1) cap') (k + 1) (ofN fs gs ns) (plSetC ad k (fun r => match r with | 0 => (xa, xc) | 1 => (ya, yc) | 2 => (za, zc) | _ => (va, vc) : PlC))) := HW.out.step HB.out.size BWT.out hh (by unfold cwf; rw [Q2.out]; exact G1T.out) (by unfold cnf; rw [Q2.out]; exact G2T.out) (by rw [Q2.out]; exact HO1.out) HGR.out (HAT.out.imp id fun e => by omega)
            have HT2 : Hid (Turned w1 wa (fun x => x = w.heap.size)) := turned_grown ((HT.out.trans (Turned.of_below BWT.out)).trans (Turned.of_below hh)) HGR.out fun x hx => HV.out x hx
            have HV2 : Hid (∀ x, (Value.slice (some ⟨gg, 0, none⟩) (k + 1) cap').ownBlock = some x → x = w.heap.size ∨ w1.heap.size ≤ x) := fun x hx => by
              obtain rfl : gg = x := by simpa [Value.ownBlock] using hx
              have z5 := BWT.out.size
              exact HAT.out.elim (HV.out gg) fun e => .inr (by omega)
            clear HO1 HGR HAT hh H9a RT
            go_wp2
            go_roundw
            case rel => exact ⟨j + 1, _, _, by omega, rfl, by go_num, by rw [Q1.out]; exact HS.out, HT2.out, HV2.out⟩
            case measure => simp [intOf]; omega
    · have hje : j = ns.length := by omega
      have HF : Hid (RowC wr w.heap.size v (ofN fs gs ns).length (ofN fs gs ns) ad) := by
        have := HW.out
        rw [hje, List.take_of_length_le (Nat.le_refl _)] at this
        exact this
      clear HW
      obtain ⟨a2, cap2, rfl, hg⟩ := HF.out.got
      have HGo := Lib.hid hg
      clear hg HF hje
      go_wp2
      go_ret
      rw [HOF.out]
      exact ⟨⟨a2, cap2, rfl, HGo.out⟩, HB.out⟩
end Go.Proofs.YtccgbengfmlgbaaGreat
