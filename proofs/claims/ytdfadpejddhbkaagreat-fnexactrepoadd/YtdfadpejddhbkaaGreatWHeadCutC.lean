/- Proved here: the library's removal of one branch from a row of its own; rows of at most 1,000,000. -/
import Derived.Test.YtdfadpejddhbkaaGreatG6
import Derived.Deep.RegionLaw
import Derived.Laws.IdiomCopy
namespace Go.Proofs.YtdfadpejddhbkaaGreat
set_option linter.unusedVariables false
open Go.ChangeShapes Go.WideShapes Go.ChangeAt Go.RowKit Go.Deep

/-- a list with others laid over it -/
def over (xs : List Value) (o : Nat) : List Value → List Value
  | [] => xs
  | v :: r => over (xs.set o v) (o + 1) r
theorem over_len : ∀ (vs : List Value) (xs : List Value) (o : Nat), (over xs o vs).length = xs.length
  | [], _, _ => rfl
  | v :: r, xs, o => by
    show (over (xs.set o v) (o + 1) r).length = _
    rw [over_len r, List.length_set]
theorem over_at : ∀ (vs : List Value) (xs : List Value) (o i : Nat), (over xs o vs)[i]? = if o ≤ i ∧ i < o + vs.length ∧ i < xs.length then vs[i - o]? else xs[i]?
  | [], xs, o, i => by
    rw [if_neg (by simp; omega)]
    rfl
  | v :: r, xs, o, i => by
    show (over (xs.set o v) (o + 1) r)[i]? = _
    rw [over_at r, List.length_set, List.getElem?_set]
    by_cases e : o = i
    · subst e
      rw [if_neg (by omega), if_pos rfl]
      by_cases h : o < xs.length
      · rw [if_pos h, if_pos ⟨Nat.le_refl _, by simp, h⟩, Nat.sub_self]
        rfl
      · rw [if_neg h, if_neg (by omega)]
        exact (List.getElem?_eq_none (by omega)).symm
    · by_cases h : o + 1 ≤ i ∧ i < o + 1 + r.length ∧ i < xs.length
      · rw [if_pos h, if_pos ⟨by omega, by simp; omega, h.2.2⟩, show i - o = (i - (o + 1)) + 1 by omega, List.getElem?_cons_succ]
      · rw [if_neg h, if_neg e, if_neg (by simp; omega)]

theorem ownsRow_setCells {base : Nat} {e : TypeId} {size g n cap : Nat} : ∀ (vs : List Value) (o : Nat) (w : World) (xs : List Value), w.ownsRow base e size (.slice (some ⟨g, 0, none⟩) n cap) n xs → (w.setCells g o vs).ownsRow base e size (.slice (some ⟨g, 0, none⟩) n cap) n (over xs o vs)
  | [], _, _, _, h => h
  | v :: r, o, w, xs, h => ownsRow_setCells r (o + 1) _ _ (h.stored o v).1

theorem turned_setCells {g : Nat} {S : Nat → Prop} (hS : S g) : ∀ (vs : List Value) (o : Nat) (w : World), Turned w (w.setCells g o vs) S
  | [], _, w => Turned.refl w S
  | v :: r, o, w => (Turned.of_set w o v hS).trans (turned_setCells hS r (o + 1) _)

theorem ownsRow_take {w : World} {lo : Nat} {e : TypeId} {size g n n' cap : Nat} {xs : List Value} (h : w.ownsRow lo e size (.slice (some ⟨g, 0, none⟩) n cap) n xs) (hn : n' ≤ n) : w.ownsRow lo e size (.slice (some ⟨g, 0, none⟩) n' cap) n' (xs.take (n' * size)) := by
  rcases ownsRow_rows h with ⟨e1, _⟩ | ⟨g', cap', f, e1, h2, h3, h4, hr, hf⟩
  · simp at e1
  · obtain ⟨rfl, rfl⟩ : g = g' ∧ cap = cap' := by simpa using e1
    have hm : n' * size ≤ n * size := Nat.mul_le_mul_right _ hn
    refine ownsRow_of_rows hr (by rw [List.length_take, h.1]; omega) (fun i hi => ?_) (by omega) h3 h4
    rw [List.getElem?_take, if_pos hi]
    exact hf i (by omega)

theorem erase_heads (hs : List Hd) (j : Nat) (hj : j < hs.length) (z : List Value) :
    (over (over (flatH hs) (j * 2) (flatH (hs.drop (j + 1)))) ((hs.length - 1) * 2) z).take ((hs.length - 1) * 2) = flatH (hs.eraseIdx j) := by
  have hl := flatH_len hs
  have hl2 := flatH_len (hs.eraseIdx j)
  have hl3 := flatH_len (hs.drop (j + 1))
  rw [List.length_eraseIdx_of_lt hj] at hl2
  rw [List.length_drop] at hl3
  refine List.ext_getElem? fun i => ?_
  rw [List.getElem?_take]
  by_cases hi : i < (hs.length - 1) * 2
  · rw [if_pos hi, over_at, if_neg (by omega), over_at, hl, hl3, flatH_headCell (hs.eraseIdx j) i (by rw [List.length_eraseIdx_of_lt hj]; exact hi)]
    have hk : i / 2 < (hs.eraseIdx j).length := by rw [List.length_eraseIdx_of_lt hj]; omega
    have er : (hs.eraseIdx j)[i / 2]'hk = if h : i / 2 < j then hs[i / 2]'(by omega) else hs[i / 2 + 1]'(by rw [List.length_eraseIdx_of_lt hj] at hk; omega) := by
      rw [List.getElem_eraseIdx]
    rw [hd_get hk] at er
    by_cases h : j * 2 ≤ i
    · rw [dif_neg (by omega), hd_get] at er
      obtain ⟨e1, e2⟩ := Prod.mk.inj er
      rw [if_pos ⟨h, by omega, by omega⟩, flatH_headCell _ _ (by rw [List.length_drop]; omega)]
      have d1 : hdn (hs.drop (j + 1)) ((i - j * 2) / 2) = hdn hs (i / 2 + 1) := by
        simp only [hdn, List.getD, List.getElem?_drop]
        congr 3
        omega
      have d2 : hda (hs.drop (j + 1)) ((i - j * 2) / 2) = hda hs (i / 2 + 1) := by
        simp only [hda, List.getD, List.getElem?_drop]
        congr 3
        omega
      unfold headCell
      rw [d1, d2, e1, e2, show (i - j * 2) % 2 = i % 2 by omega]
    · rw [dif_pos (by omega), hd_get] at er
      obtain ⟨e1, e2⟩ := Prod.mk.inj er
      rw [if_neg (by omega), flatH_headCell _ _ (by omega)]
      unfold headCell
      rw [e1, e2]
  · rw [if_neg hi]
    exact (List.getElem?_eq_none (by omega)).symm

theorem run_clear_head (w : World) (ty : TypeId) (b o c : Nat) (hc : ∀ j, j < 2 → (w.cell? ⟨b, o + j, none⟩).isSome = true) (hf : ∀ j, j < 2 → w.frozen? ⟨b, o + j, none⟩ = false) :
    (Builtin.clear_ #[44] ty #[.slice (some ⟨b, o, none⟩) 1 c]).run Tryz.prog w = .ok (.tuple #[]) (w.setCells b o [.string .empty, .int .i64 0]) := by
  have hv : ∀ w, (zeroValue 115).run Tryz.prog w = .ok (.agg #[.string .empty, .int .i64 0]) w := fun w => by kernel_rfl
  have hzc : (Builtin.zeroCells (Value.agg #[.string .empty, .int .i64 0]).cells 1).toList = [.string .empty, .int .i64 0] := by simp [Builtin.zeroCells, Value.cells, List.range, List.range.loop]
  have hst := run_storeCells_cells (P := Tryz.prog) b o [.string .empty, .int .i64 0] 0 w (by simpa using hc) (by simpa using hf) (by intro v hv'; simp at hv'; rcases hv' with rfl | rfl <;> rfl)
  simp only [Nat.add_zero] at hst
  simp [Builtin.clear_, run_underlying Tryz.underlying44, hv, hzc, hst]

set_option maxRecDepth 100000 in
set_option maxHeartbeats 4000000 in
theorem deleteH_any (v : Value) (lo : Nat) (hs : List Hd) (j q : Nat) (w : World) (h : GrowH lo hs w v) (hj : j < hs.length) (hq : q = j + 1) (hl : hs.length ≤ 1000000) :
    Calls Tryz.prog 111 #[v, .int .i64 j, .int .i64 q] w fun e w' => ∃ v', e = .returned v' ∧ GrowH lo (hs.eraseIdx j) w' v' ∧ v'.ownBlock = v.ownBlock ∧ Turned w w' (fun x => v.ownBlock = some x) := by
  rcases ownsRow_rows h.own with ⟨rfl, h2⟩ | ⟨g, cap, f0, rfl, h2, h3, _⟩
  · omega
  obtain ⟨i0, hi0, hz0, hz1, hz2⟩ := info_parts infoHead
  have hle := h.le
  have HO := Lib.hid h.own
  obtain ⟨news, hnews⟩ : ∃ news, news = flatH (hs.drop (j + 1)) := ⟨_, rfl⟩
  have hlen : news.length = (hs.length - q) * 2 := by rw [hnews, flatH_len, List.length_drop, hq]
  obtain ⟨A, hA, hsrc⟩ : ∃ A : Addr, (if cap = q then some (⟨g, 0, none⟩ : Addr) else some ⟨g, q * 2, none⟩) = some A ∧ Hid (∀ t u, news[t]? = some u → w.drew.cell? (A.add t) = some u) := by
    by_cases hc : cap = q
    · refine ⟨⟨g, 0, none⟩, by simp [hc], fun t u hu => ?_⟩
      have h0 : news.length = 0 := by rw [hlen]; omega
      rw [List.length_eq_zero_iff.1 h0] at hu
      simp at hu
    · refine ⟨⟨g, q * 2, none⟩, by simp [hc], fun t u hu => ?_⟩
      have ht : t < (hs.length - q) * 2 := by
        have := (List.getElem?_eq_some_iff.1 hu).1
        rwa [hlen] at this
      rw [add_plain]
      show w.cell? ⟨g, q * 2 + t, none⟩ = some u
      rw [HO.out.cellAt (q * 2 + t) (by omega), flatH_headCell hs _ (by omega)]
      rw [hnews, flatH_headCell _ _ (by rw [List.length_drop]; omega)] at hu
      rw [← hu]
      have d1 : hdn (hs.drop (j + 1)) (t / 2) = hdn hs ((q * 2 + t) / 2) := by
        simp only [hdn, List.getD, List.getElem?_drop]
        congr 3
        omega
      have d2 : hda (hs.drop (j + 1)) (t / 2) = hda hs ((q * 2 + t) / 2) := by
        simp only [hda, List.getD, List.getElem?_drop]
        congr 3
        omega
      unfold headCell
      rw [d1, d2, show (q * 2 + t) % 2 = t % 2 by omega]
  have s1 := Lib.hid hlen
  have s2 : Hid (∀ u ∈ news, u.oneCell' = true) := by rw [Hid, hnews]; exact flatH_one _
  have s3 : Hid (∀ t, t < news.length → (w.drew.cell? ⟨g, 0 + j * 2 + t, none⟩).isSome = true ∧ w.drew.frozen? ⟨g, 0 + j * 2 + t, none⟩ = false) := by
    intro t ht
    rw [hlen] at ht
    refine ⟨?_, HO.out.frozenAt _⟩
    show (w.cell? _).isSome = true
    rw [HO.out.cellAt _ (by omega), flatH_headCell hs _ (by omega)]
    rfl
  obtain ⟨W1, hW1⟩ : ∃ W1, W1 = w.drew.setCells g (0 + j * 2) news := ⟨_, rfl⟩
  have O1 : Hid (W1.ownsRow lo 115 2 (.slice (some ⟨g, 0, none⟩) hs.length cap) hs.length (over (flatH hs) (j * 2) news)) := by
    rw [Hid, hW1, Nat.zero_add]
    exact ownsRow_setCells news (j * 2) _ _ (ownsRow_below HO.out (Below.refl _ _).drew)
  have T1 : Hid (Turned w W1 (fun x => (Value.slice (some ⟨g, 0, none⟩) hs.length cap).ownBlock = some x)) := by
    rw [Hid, hW1]
    exact (Turned.of_below (Below.refl _ _).drew).trans (turned_setCells (g := g) (S := fun x => (Value.slice (some ⟨g, 0, none⟩) hs.length cap).ownBlock = some x) rfl _ _ _)
  have hcl : ∀ ty, (Builtin.clear_ #[44] ty #[.slice (some ⟨g, (j + (hs.length - q)) * 2, none⟩) (hs.length - (j + (hs.length - q))) (cap - (j + (hs.length - q)))]).run Tryz.prog W1 = .ok (.tuple #[]) (W1.setCells g ((hs.length - 1) * 2) [.string .empty, .int .i64 0]) := fun ty => by
    rw [show hs.length - (j + (hs.length - q)) = 1 by omega, show (j + (hs.length - q)) * 2 = (hs.length - 1) * 2 by omega]
    refine run_clear_head W1 ty g _ _ (fun t ht => ?_) (fun t ht => O1.out.frozenAt _)
    rw [O1.out.cellAt _ (by omega), List.getElem?_eq_getElem (by rw [over_len, flatH_len]; omega)]
    rfl
  have hW : Hid (W1 = w.drew.setCells g (0 + j * 2) news) := hW1
  have NW := Lib.hid hnews
  have q1 : q ≤ j + 1 := by omega
  have q3 : q ≤ hs.length := by omega
  have q2 : j + 1 ≤ q := by omega
  clear hW1 h hnews hlen hq
  have b1 : (j : Int) ≤ (cap : Int) := by omega
  have b2 : (q : Int) ≤ (cap : Int) := by omega
  have b3 : ¬ ((j : Int) = (q : Int)) := by omega
  go_enter Tryz.func111, Tryz.ntmps111
  go_wp2_with fail
  go_region_law (refine step_append_room rfl (.tmp 22) (.tmp 25) 44 rfl 115 i0 2 Tryz.underlying44 hi0 hz1 g 0 j cap (by simp [Act.eval, Act.put]) A (hs.length - q) (cap - q) news (by simp [Act.eval, Act.put]) s1.out hsrc.out s2.out (by omega) s3.out ?_; rw [← hW.out])
  go_wp2
  go_ret
  have O2 := ownsRow_take (ownsRow_setCells [.string .empty, .int .i64 0] ((hs.length - 1) * 2) _ _ O1.out) (n' := hs.length - 1) (by omega)
  rw [NW.out, erase_heads hs j hj] at O2
  have T2 := T1.out.trans (turned_setCells (g := g) (S := fun x => (Value.slice (some ⟨g, 0, none⟩) hs.length cap).ownBlock = some x) rfl [.string .empty, .int .i64 0] ((hs.length - 1) * 2) W1)
  refine ⟨_, rfl, ⟨?_, Nat.le_trans hle T2.size⟩, rfl, T2⟩
  rw [List.length_eraseIdx_of_lt hj, show j + (hs.length - q) = hs.length - 1 by omega]
  exact O2
end Go.Proofs.YtdfadpejddhbkaaGreat
