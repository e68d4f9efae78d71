/- Proved here: what putting a version behind all answers, as a value, and how a room is turned by it; no condition. -/
import Derived.Test.YtdfadpejddhbkaaGreatG8
import Derived.Test.YtdfadpejddhbkaaGreatWHeadCutC
namespace Go.Proofs.YtdfadpejddhbkaaGreat
set_option linter.unusedVariables false
open Go.ChangeShapes Go.WideShapes Go.ChangeAt Go.RowKit Go.Deep

theorem firstCm_to (cs : List Cm) (c : Cm) : ∀ n, (∀ j, j < n → mg cs j ≠ c) ∨ ∃ k, k < n ∧ mg cs k = c ∧ ∀ j, j < k → mg cs j ≠ c
  | 0 => .inl fun j h => absurd h (Nat.not_lt_zero _)
  | n + 1 => by
    rcases firstCm_to cs c n with h | ⟨k, h1, h2, h3⟩
    · by_cases e : mg cs n = c
      · exact .inr ⟨n, by omega, e, h⟩
      · exact .inl fun j hj => by by_cases q : j = n; (subst q; exact e); exact h j (by omega)
    · exact .inr ⟨k, by omega, h2, h3⟩
theorem firstCm_ex (cs : List Cm) (c : Cm) : ∃ r, FirstCm cs c r := by
  rcases firstCm_to cs c cs.length with h | ⟨k, h1, h2, h3⟩
  · exact ⟨-1, .inl ⟨rfl, h⟩⟩
  · exact ⟨k, .inr ⟨k, rfl, h1, h2, h3⟩⟩
/-- where that version is first, or -1 -/
noncomputable def firstC (cs : List Cm) (c : Cm) : Int := Classical.choose (firstCm_ex cs c)
theorem firstC_is (cs : List Cm) (c : Cm) : FirstCm cs c (firstC cs c) := Classical.choose_spec (firstCm_ex cs c)
theorem firstC_eq {cs : List Cm} {c : Cm} {r : Int} (h : FirstCm cs c r) : r = firstC cs c := h.unique (firstC_is cs c)
theorem firstC_cases (cs : List Cm) (c : Cm) : firstC cs c = -1 ∨ ∃ k : Nat, firstC cs c = k ∧ k < cs.length := by
  rcases firstC_is cs c with ⟨h, _⟩ | ⟨k, h1, h2, _⟩
  · exact .inl h
  · exact .inr ⟨k, h1, h2⟩

/-- a branch led to another version -/
def atH (hs : List Hd) (j : Nat) (k : Int) : List Hd := hs.set j (hdn hs j, k)
theorem atH_len (hs : List Hd) (j : Nat) (k : Int) : (atH hs j k).length = hs.length := by simp [atH]
theorem atH_at {hs : List Hd} {j : Nat} (k : Int) {i : Nat} (h : i < hs.length) : hdn (atH hs j k) i = hdn hs i ∧ hda (atH hs j k) i = if i = j then k else hda hs i := by
  by_cases e : i = j
  · subst e
    simp [hdn, hda, atH, h]
  · have e' : ¬ j = i := fun q => e q.symm
    simp [hdn, hda, atH, h, e, e']
theorem flatH_set (hs : List Hd) (j : Nat) (k : Int) (hj : j < hs.length) : (flatH hs).set (j * 2 + 1) (.int .i64 k) = flatH (atH hs j k) := by
  refine List.ext_getElem? fun q => ?_
  have hl1 := flatH_len hs
  have hl2 := flatH_len (atH hs j k)
  rw [atH_len] at hl2
  by_cases hq : q < hs.length * 2
  · rw [flatH_headCell _ q (by rw [atH_len]; exact hq), List.getElem?_set, flatH_headCell _ q hq]
    obtain ⟨e1, e2⟩ := atH_at (j := j) k (show q / 2 < hs.length by omega)
    unfold headCell
    rw [e1, e2]
    by_cases c : j * 2 + 1 = q
    · rw [if_pos c, if_pos (by omega), if_neg (by omega), if_pos (by omega)]
    · rw [if_neg c]
      by_cases m : q % 2 = 0
      · rw [if_pos m, if_pos m]
      · rw [if_neg m, if_neg m, if_neg (by omega)]
  · rw [List.getElem?_eq_none (by rw [List.length_set]; omega), List.getElem?_eq_none (by omega)]

/-- a room with a version, put behind all, if there is none such: the versions, the place, and whether there is room for it -/
noncomputable def withV (cs : List Cm) (c : Cm) : List Cm × Int × Bool :=
  if 0 ≤ firstC cs c then (cs, firstC cs c, true) else if cs.length = 14 then (cs, -1, false) else (cs ++ [c], cs.length, true)
theorem withV_there {cs : List Cm} {c : Cm} (h : 0 ≤ firstC cs c) : withV cs c = (cs, firstC cs c, true) := if_pos h
theorem withV_full {cs : List Cm} {c : Cm} (h : ¬ 0 ≤ firstC cs c) (h2 : cs.length = 14) : withV cs c = (cs, -1, false) := by unfold withV; rw [if_neg h, if_pos h2]
theorem withV_new {cs : List Cm} {c : Cm} (h : ¬ 0 ≤ firstC cs c) (h2 : ¬ cs.length = 14) : withV cs c = (cs ++ [c], (cs.length : Int), true) := by unfold withV; rw [if_neg h, if_neg h2]

theorem withV_false {cs : List Cm} {c : Cm} {vc : List Cm} {vp : Int} (h : withV cs c = (vc, vp, false)) : vc = cs := by
  unfold withV at h
  split at h
  · simp at h
  · split at h
    · simp at h
      exact h.1.symm
    · simp at h

/-- a version put behind that of a branch -/
noncomputable def addV (cs : List Cm) (hs : List Hd) (x : ByteArray) (s : List Ft) (note : ByteArray) : RpV :=
  if repoOk cs hs && (sheetOk s && wordOk note) then (match lastH hs x hs.length with | none => (cs, hs, 1) | some j => if fsEq (mg cs (hda hs j).toNat).2.1 s then (cs, hs, 3) else if (withV cs ([hda hs j], s, note)).2.2 then ((withV cs ([hda hs j], s, note)).1, atH hs j (withV cs ([hda hs j], s, note)).2.1, 0) else (cs, hs, 2)) else ([], [], 4)
theorem addV_form {cs : List Cm} {hs : List Hd} {x note : ByteArray} {s : List Ft} (h : repoOk cs hs = false ∨ sheetOk s = false ∨ wordOk note = false) : addV cs hs x s note = ([], [], 4) := by
  unfold addV
  rw [if_neg]
  rcases h with h | h | h <;> simp [h]
theorem addV_none {cs : List Cm} {hs : List Hd} {x note : ByteArray} {s : List Ft} (h1 : RepoGood cs hs) (h2 : sheetOk s = true) (h3 : wordOk note = true) (h4 : lastH hs x hs.length = none) : addV cs hs x s note = (cs, hs, 1) := by
  unfold addV
  rw [if_pos (by rw [repoOk_true h1, h2, h3]; rfl), h4]
theorem addV_same {cs : List Cm} {hs : List Hd} {x note : ByteArray} {s : List Ft} {j : Nat} (h1 : RepoGood cs hs) (h2 : sheetOk s = true) (h3 : wordOk note = true) (h4 : lastH hs x hs.length = some j) (h5 : fsEq (mg cs (hda hs j).toNat).2.1 s = true) : addV cs hs x s note = (cs, hs, 3) := by
  unfold addV
  rw [if_pos (by rw [repoOk_true h1, h2, h3]; rfl), h4]
  exact if_pos h5
theorem addV_else {cs : List Cm} {hs : List Hd} {x note : ByteArray} {s : List Ft} {j : Nat} (h1 : RepoGood cs hs) (h2 : sheetOk s = true) (h3 : wordOk note = true) (h4 : lastH hs x hs.length = some j) (h5 : fsEq (mg cs (hda hs j).toNat).2.1 s = false) :
    addV cs hs x s note = if (withV cs ([hda hs j], s, note)).2.2 then ((withV cs ([hda hs j], s, note)).1, atH hs j (withV cs ([hda hs j], s, note)).2.1, 0) else (cs, hs, 2) := by
  unfold addV
  rw [if_pos (by rw [repoOk_true h1, h2, h3]; rfl), h4]
  exact if_neg (by rw [h5]; simp)

theorem withV_few {cs : List Cm} {c : Cm} (h : cs.length ≤ 14) (hl : CmsLen cs 1048576) (hc : CmLen c 1048576) : (withV cs c).1.length ≤ 15 ∧ CmsLen (withV cs c).1 1048576 := by
  unfold withV
  split
  · exact ⟨by show cs.length ≤ 15; omega, hl⟩
  · split
    · exact ⟨by show cs.length ≤ 15; omega, hl⟩
    · refine ⟨by show (cs ++ [c]).length ≤ 15; simp; omega, cmsLen_iff.2 fun d hd => ?_⟩
      rcases List.mem_append.1 hd with q | q
      · exact cmsLen_iff.1 hl d q
      · obtain rfl : d = c := by simpa using q
        exact hc

theorem addV_fit {cs : List Cm} {hs : List Hd} (x note : ByteArray) (s : List Ft) (hl : RpLen cs hs 1048576) (h1 : s.length ≤ 1048576) (h2 : FeatsLen s 1048576) (h3 : note.size ≤ 1048576) : RpFit (addV cs hs x s note) := by
  by_cases hg : RepoGood cs hs
  · have c2 := hg.c2
    have hh2 := hg.h2
    have f0 : ∀ k : Int, RpFit (cs, hs, k) := fun k => ⟨by show cs.length ≤ 20; omega, by show hs.length ≤ 1000; omega, hl⟩
    by_cases hs1 : sheetOk s = true
    · by_cases hw : wordOk note = true
      · cases hq : lastH hs x hs.length with
        | none => rw [addV_none hg hs1 hw hq]; exact f0 1
        | some j =>
          obtain ⟨hj, _⟩ := lastH_some hq
          by_cases h5 : fsEq (mg cs (hda hs j).toNat).2.1 s = true
          · rw [addV_same hg hs1 hw hq h5]; exact f0 3
          · rw [addV_else hg hs1 hw hq (by simpa using h5)]
            split
            · obtain ⟨q1, q2⟩ := withV_few (c := ([hda hs j], s, note)) c2 hl.cms ⟨by show ((1 : Nat) : Int) ≤ _; omega, by show (s.length : Int) ≤ _; omega, h2, by show (note.size : Int) ≤ _; omega⟩
              refine ⟨by show (withV cs ([hda hs j], s, note)).1.length ≤ 20; omega, by show (atH hs j _).length ≤ 1000; rw [atH_len]; omega, by show ((withV cs ([hda hs j], s, note)).1.length : Int) ≤ _; omega, by show ((atH hs j _).length : Int) ≤ _; rw [atH_len]; omega, q2, fun i hi => ?_⟩
              have hi' : i < hs.length := by rw [← atH_len hs j (withV cs ([hda hs j], s, note)).2.1]; exact hi
              show ((hdn (atH hs j _) i).size : Int) ≤ _
              rw [(atH_at _ hi').1]
              exact hl.hds i hi'
            · exact f0 2
      · rw [addV_form (.inr (.inr (by simpa using hw)))]; exact RpFit.none 4
    · rw [addV_form (.inr (.inl (by simpa using hs1)))]; exact RpFit.none 4
  · rw [addV_form (.inl (repoOk_false hg))]; exact RpFit.none 4

/-- a room, one branch of which is led to another version -/
theorem Room.setAt {K : World → Cm → PlO → (Nat → Prop) → Prop} (L : KLaw K) {w : World} {lo g cap : Nat} {cv : Value} {cs : List Cm} {hs : List Hd} {ad : Nat → PlO} {S : Nat → Nat → Prop} (h : Room K w lo cv (.slice (some ⟨g, 0, none⟩) hs.length cap) cs hs ad S) {j : Nat} (hj : j < hs.length) (k : Int) :
    Room K (w.setCell ⟨g, j * 2 + 1, none⟩ (.int .i64 k)) lo cv (.slice (some ⟨g, 0, none⟩) hs.length cap) cs (atH hs j k) ad S ∧ Turned w (w.setCell ⟨g, j * 2 + 1, none⟩ (.int .i64 k)) (fun x => x = g) := by
  have T : Turned w (w.setCell ⟨g, j * 2 + 1, none⟩ (.int .i64 k)) (fun x => (Value.slice (some ⟨g, 0, none⟩) hs.length cap).ownBlock = some x) := Turned.of_set _ _ _ rfl
  have O := (h.hds.own.stored (j * 2 + 1) (.int .i64 k)).1
  rw [flatH_set hs j k hj] at O
  refine ⟨h.heads L T ⟨by rw [atH_len]; exact O, Nat.le_trans h.hds.le T.size⟩ fun x hx => .inl hx, T.wide fun x hx => by simpa [Value.ownBlock] using hx.symm⟩

theorem mg_app_lt {cs : List Cm} {c : Cm} {i : Nat} (h : i < cs.length) : mg (cs ++ [c]) i = mg cs i := by simp [mg, List.getElem?_append_left h]
theorem mg_app_eq (cs : List Cm) (c : Cm) : mg (cs ++ [c]) cs.length = c := by simp [mg]

/-- a room with a version behind all -/
theorem Room.pushC {K : World → Cm → PlO → (Nat → Prop) → Prop} (L : KLaw K) {wb wa : World} {lo gg cap' : Nat} {cv hv : Value} {cs : List Cm} {c : Cm} {hs : List Hd} {ad : Nat → PlO} {S : Nat → Nat → Prop} {p : PlO} {P : Nat → Prop} (h : Room K wb lo cv hv cs hs ad S) (hp : K wb c p P) (hP : ∀ x, P x → lo ≤ x ∧ x < wb.heap.size ∧ ¬ inRoom cv hv cs.length S x)
    (hrow : wa.ownsRow lo 54 3 (.slice (some ⟨gg, 0, none⟩) (cs.length + 1) cap') (cs.length + 1) (flatM cs ad cs.length ++ cellsM c p)) (hg : wb.grownBy wa cv.ownBlock) (hat : cv.ownBlock = some gg ∨ wb.heap.size ≤ gg) :
    Room K wa lo (.slice (some ⟨gg, 0, none⟩) (cs.length + 1) cap') hv (cs ++ [c]) hs (poSet ad cs.length p) (poSet S cs.length P) ∧ Turned wb wa (fun x => cv.ownBlock = some x) := by
  have T : Turned wb wa (fun x => cv.ownBlock = some x) := Turned.of_grown hg fun x hx => hx
  have C1 : Cms K wb lo cv cs.length (cs ++ [c]) ad S := ⟨by rw [flatM_congr (ds := cs) (bd := ad) cs.length fun i hi => by rw [mg_app_lt hi]]; exact h.cms.row, fun i hi => by rw [mg_app_lt hi]; exact h.cms.part i hi, h.cms.rng, h.cms.far⟩
  have C2 := C1.step L (p := p) (P := P) (by rw [mg_app_eq]; exact hp) (fun x hx => ⟨(hP x hx).1, (hP x hx).2.1, fun e => (hP x hx).2.2 (.inl (.inl e)), fun i hi hs' => (hP x hx).2.2 (.inl (.inr ⟨i, hi, hs'⟩))⟩) (by rw [mg_app_eq, flatM_congr (ds := cs) (bd := ad) cs.length fun i hi => by rw [mg_app_lt hi]]; exact hrow) hg hat
  refine ⟨⟨by rw [List.length_append]; exact C2, h.hds.turned T fun x hx hy => h.far x hx (.inl hy), fun x hx hc => ?_⟩, T⟩
  have hxb := h.hds.own.lt x hx
  rw [List.length_append] at hc
  rcases hc with hc | ⟨i, hi, hs'⟩
  · obtain rfl : gg = x := by simpa [Value.ownBlock] using hc
    rcases hat with q | q
    · exact h.far _ hx (.inl q)
    · omega
  · by_cases e : i = cs.length
    · subst e
      rw [poSet_at] at hs'
      exact (hP x hs').2.2 (.inr hx)
    · have hi' : i < cs.length := by simp at hi; omega
      rw [poSet_lt hi'] at hs'
      exact h.far x hx (.inr ⟨i, hi', hs'⟩)
end Go.Proofs.YtdfadpejddhbkaaGreat
