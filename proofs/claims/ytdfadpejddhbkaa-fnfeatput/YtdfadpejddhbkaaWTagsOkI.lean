/- Proved here: the program's way of asking whether tags are right, by a map told in order, answers as the plain definition 'tagsGood' says; rows of at most 1,048,576 tags of at most 1,048,576 bytes. -/
import Derived.Test.YtdfadpejddhbkaaWTagsOk
import Derived.Test.YtdfadpejddhbkaaWInOrder
namespace Go.Proofs.Ytdfadpejddhbkaa
set_option linter.unusedVariables false
open Go.ChangeShapes Go.WideShapes Go.ChangeAt Go.RowKit Go.Maps Go.Sort

/-- every key and value is a word -/
def WordsOk (ts : List Tg) : Prop := ∀ j, j < ts.length → wordOk (tk ts j) = true ∧ wordOk (tv ts j) = true

theorem kb_get {ts : List Tg} {i : Nat} (h : i < ts.length) : kl ts[i] = kb ts i := by simp [kl, kb, tk, h]

theorem asc_of_good {ts : List Tg} (h : tagsGood ts = true) : Asc ts := by
  have step : ∀ j, j + 1 < ts.length → kb ts j < kb ts (j + 1) := fun j hj => by
    have := tagsGood_at h hj
    simp [tagGood] at this
    exact this.2
  have all : ∀ d i, i + d + 1 < ts.length → kb ts i < kb ts (i + d + 1) := by
    intro d
    induction d with
    | zero => exact fun i hi => step i hi
    | succ d ih => exact fun i hi => List.lt_trans (ih i (by omega)) (step _ hi)
  refine List.pairwise_iff_getElem.2 fun i j hi hj hij => ?_
  rw [kb_get hi, kb_get hj]
  have := all (j - i - 1) i (by omega)
  rwa [show i + (j - i - 1) + 1 = j by omega] at this

theorem good_of_asc {ts : List Tg} (hw : WordsOk ts) (h : Asc ts) : tagsGood ts = true := by
  refine tagsGood_of fun j hj => ?_
  obtain ⟨h1, h2⟩ := hw j hj
  by_cases h0 : 0 < j
  · have := List.pairwise_iff_getElem.1 h (j - 1) j (by omega) hj (by omega)
    rw [kb_get, kb_get] at this
    have hn : ¬ kb ts j ≤ kb ts (j - 1) := fun hle => hle this
    simp [tagGood, h1, h2, hn]
  · simp [tagGood, h1, h2, h0]

theorem words_not {ts : List Tg} {j : Nat} (hj : j < ts.length) (h : wordOk (tk ts j) = false ∨ wordOk (tv ts j) = false) : tagsGood ts = false := by
  refine tagsGood_not hj ?_
  rcases h with h | h <;> simp [tagGood, h]

theorem told_good {ts : List Tg} (hw : WordsOk ts) : tgsEq ts (told ts) = tagsGood ts := by
  by_cases h : Asc ts
  · rw [good_of_asc hw h, told_asc h]
    simp [tgsEq]
  · have h1 : tagsGood ts = false := by
      cases h2 : tagsGood ts
      · rfl
      · exact absurd (asc_of_good h2) h
    rw [h1]
    unfold tgsEq
    refine decide_eq_false fun e => h ?_
    rw [e]
    exact asc_told ts

theorem told_len (ts : List Tg) : (told ts).length ≤ ts.length := by
  have put : ∀ (t : Tg) (us : List Tg), (putS us t).length ≤ us.length + 1 := by
    intro t us
    induction us with
    | nil => simp [putS]
    | cons u us ih =>
      unfold putS
      split
      · have := List.length_filter_le (fun s => decide (kl s ≠ kl t)) (u :: us)
        rw [List.length_cons]
        omega
      · simp only [List.length_cons]
        omega
  have all : ∀ (ts us : List Tg), (ts.foldl putS us).length ≤ us.length + ts.length := by
    intro ts
    induction ts with
    | nil => simp
    | cons t r ih =>
      intro us
      rw [List.foldl_cons, List.length_cons]
      have := ih (putS us t)
      have := put t us
      omega
  simpa [told] using all ts []

theorem told_mem {ts : List Tg} {s : Tg} (h : s ∈ told ts) : s ∈ ts := by
  have all : ∀ (ts us : List Tg), s ∈ ts.foldl putS us → s ∈ us ∨ s ∈ ts := by
    intro ts
    induction ts with
    | nil => exact fun us h => .inl h
    | cons t r ih =>
      intro us h
      rcases ih _ h with h1 | h1
      · rcases (mem_putS s t us).1 h1 with rfl | ⟨h2, _⟩
        · exact .inr (.head _)
        · exact .inl h2
      · exact .inr (.tail _ h1)
  rcases all ts [] h with h1 | h1
  · simp at h1
  · exact h1

theorem mem_tk {ts : List Tg} {s : Tg} {m : Int} (h : s ∈ ts) (hl : TagsLen ts m) : (s.1.size : Int) ≤ m ∧ (s.2.size : Int) ≤ m := by
  obtain ⟨i, hi, rfl⟩ := List.getElem_of_mem h
  simpa [tk, tv, hi] using hl i hi

theorem told_tk {ts : List Tg} {m : Int} (hl : TagsLen ts m) : TagsLen (told ts) m := by
  intro i hi
  have := mem_tk (told_mem (List.getElem_mem hi)) hl
  simpa [tk, tv, hi] using this

set_option maxRecDepth 100000 in
set_option maxHeartbeats 2000000 in
theorem implTagsOk_any (a : Option Addr) (cap : Nat) (ts : List Tg) (w : World) (hp : TagsAt w a ts) (hl : ts.length ≤ 1048576) (ht : TagsLen ts 1048576) :
    Calls Try.prog 54 #[.slice a ts.length cap] w fun e w' => e = .returned (.bool (tagsGood ts && decide (ts.length ≤ 4))) ∧ Below w.heap.size w w' := by
  have HP := Lib.hid hp
  have HL := Lib.hid ht
  clear hp ht
  by_cases h4 : ts.length ≤ 4
  · go_enter Try.func54, Try.ntmps54
    go_wp2
    go_loopw [4, 10] (fun _ i wr => ∃ k : Nat, k ≤ ts.length ∧ i = .int .i64 k ∧ Below w.heap.size w wr ∧ ∀ j, j < k → wordOk (tk ts j) = true ∧ wordOk (tv ts j) = true) (fun _ i _ => ts.length - (intOf i).toNat)
    case atStart => exact ⟨0, Nat.zero_le _, rfl, Below.refl _ _, fun j h => absurd h (Nat.not_lt_zero _)⟩
    case round =>
      obtain ⟨k, hk, rfl, hbel, hall⟩ := hrel
      have HA := Lib.hid hall
      have HB := Lib.hid hbel
      have hsz := hbel.size
      clear hall
      by_cases hlt : k < ts.length
      · obtain ⟨b, off, rfl, hb, hc1, hc2⟩ := HP.out k hlt
        rw [← hbel.cell (p := ⟨b, _, none⟩) hb] at hc1 hc2
        clear hbel
        obtain ⟨l1, l2⟩ := HL.out k hlt
        go_wp2_with fail
        refine (implWordOk_any _ _ (by omega)).mono ?_
        rintro e w1 ⟨rfl, hb1⟩
        have c1 := cell_later hb1 (a := ⟨wr.heap.size, 1, none⟩) (v := .string (tv ts k)) (by simp [go_sem])
        have B1 : Hid (Below w.heap.size w w1) := (HB.out.alloc hsz _).trans (hb1.mono (by simp; omega))
        clear hb1 hc1 hc2
        by_cases hx : wordOk (tk ts k) = true
        · rw [hx]
          go_wp2_with fail
          refine (implWordOk_any _ _ (by omega)).mono ?_
          rintro e w2 ⟨rfl, hb2⟩
          have B2 : Hid (Below w.heap.size w w2) := B1.out.trans (hb2.mono B1.out.size)
          clear hb2 c1
          by_cases hy : wordOk (tv ts k) = true
          · rw [hy]
            go_wp2
            go_roundw
            case rel => exact ⟨k + 1, by omega, by go_num, B2.out, fun j hj => by by_cases e : j = k; (subst e; exact ⟨hx, hy⟩); exact HA.out j (by omega)⟩
            case measure => simp [intOf]; omega
          · have hy' : wordOk (tv ts k) = false := by simpa using hy
            rw [hy']
            go_wp2
            go_ret
            exact ⟨by rw [words_not hlt (.inr hy')]; rfl, B2.out⟩
        · have hx' : wordOk (tk ts k) = false := by simpa using hx
          rw [hx']
          go_wp2
          go_ret
          exact ⟨by rw [words_not hlt (.inl hx')]; rfl, B1.out⟩
      · obtain rfl : k = ts.length := by omega
        have HW : Hid (WordsOk ts) := HA.out
        clear hbel
        go_wp2_with fail
        refine (tagsByKey_any _ _ _ _ (HP.out.below HB.out) hl (HL.out.mono (by omega))).mono ?_
        rintro e w1 ⟨rfl, hown, hb1⟩
        have B1 : Hid (Below w.heap.size w w1) := HB.out.trans (hb1.mono hsz)
        have HO := Lib.hid hown
        clear hown hb1
        go_wp2_with fail
        refine (tagsInOrder_any _ _ _ (told ts) _ HO.out (tells_mapOf ts) (by omega) (fun i hi => by have := (told_tk HL.out i hi).1; unfold maxLen; omega)).mono ?_
        rintro e w2 ⟨v, rfl, hrow, hb2⟩
        have B2 : Hid (Below w.heap.size w w2) := B1.out.trans (hb2.mono B1.out.size)
        obtain ⟨a2, cap2, rfl, h2, _, _⟩ := owned_tags hrow rfl
        have H2 := Lib.hid h2
        clear hrow hb2 h2
        go_wp2_with fail
        refine (slicesEqualT_any _ _ _ _ _ _ _ (HP.out.below B2.out) H2.out hl (by have := told_len ts; omega)).mono ?_
        rintro e w3 ⟨rfl, n, rfl⟩
        have B3 : Hid (Below w.heap.size w (w2.drewN n)) := below_drewN B2.out n
        go_wp2
        go_ret
        exact ⟨by rw [told_good HW.out]; simp [h4], B3.out⟩
  · go_enter Try.func54, Try.ntmps54
    go_wp2
    go_ret
    exact ⟨by simp [h4], Below.refl _ _⟩
end Go.Proofs.Ytdfadpejddhbkaa
