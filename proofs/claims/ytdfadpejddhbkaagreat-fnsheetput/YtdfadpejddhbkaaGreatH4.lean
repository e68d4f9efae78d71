/- Proved here: the library's function that holds two lists of texts against each other answers whether they are the same; lists of at most 1,048,577 texts. Proved here: the program's way of asking whether things are a map, by a map told in order, answers as the plain definition 'sheetOk' says; lists of at most 1,048,576 things, points and tags, texts of at most 1,048,576 bytes. Proved here: the model's thing of a name is a copy of the first of that name, in memory of its own; lists of at most 1,048,576 things, points and tags, texts of at most 1,048,576 bytes. Proved here: the program's thing of a name, by a map of names, is a copy of the first of that name, in memory of its own; lists of at most 1,048,576 things, points and tags, texts of at most 1,048,576 bytes. Proved here: the function that marks a list of things does so thing by thing; lists of at most 1,048,576 things, points and tags. Proved here: a list of things that is built by appending copies, its parts apart from each other and from the row; no condition. Proved here: nothing new: a list of things that is built by appending copies stands in the text that this one names; no condition. Proved here: the things of a map by names, told in the order of their names, each copied into memory of its own; a map of at most 1,048,577 things. Proved here: the program's map without a name holds copies of the other things, in memory of its own; lists of at most 1,048,576 things, points and tags, texts of at most 1,048,576 bytes. -/
import Derived.Test.YtdfadpejddhbkaaGreatH3
import Derived.Test.YtdfadpejddhbkaaGreatH2
namespace Go.Proofs.YtdfadpejddhbkaaGreat
set_option linter.unusedVariables false
open Go.ChangeShapes Go.WideShapes Go.ChangeAt Go.RowKit

/-- two lists of texts are one -/
def ssEq (xs ys : List ByteArray) : Bool := decide (xs = ys)

theorem ssEq_of {xs ys : List ByteArray} (hl : xs.length = ys.length) (h : ∀ j, j < xs.length → sx xs j = sx ys j) : ssEq xs ys = true := by
  unfold ssEq
  rw [decide_eq_true_iff]
  refine List.ext_getElem hl fun i h1 h2 => ?_
  simpa [sx, h1, h2] using h i h1

theorem ssEq_ne {xs ys : List ByteArray} {j : Nat} (h : ¬ sx xs j = sx ys j) : ssEq xs ys = false := by
  unfold ssEq
  rw [decide_eq_false_iff_not]
  rintro rfl
  exact h rfl

theorem ssEq_len {xs ys : List ByteArray} (h : xs.length ≠ ys.length) : ssEq xs ys = false := by
  unfold ssEq
  rw [decide_eq_false_iff_not]
  rintro rfl
  exact h rfl

set_option maxHeartbeats 1000000 in
theorem slicesEqualS_any (a a' : Option Addr) (cap cap' : Nat) (xs ys : List ByteArray) (w : World) (hp : StrsAt w a xs) (hq : StrsAt w a' ys) (hl : xs.length ≤ 1048577) (hl' : ys.length ≤ 1048577) :
    Calls Tryz.prog 68 #[.slice a xs.length cap, .slice a' ys.length cap'] w fun e w' => e = .returned (.bool (ssEq xs ys)) ∧ ∃ n, w' = w.drewN n := by
  have HP := Lib.hid hp
  have HQ := Lib.hid hq
  clear hp hq
  by_cases he : xs.length = ys.length
  · have HE := Lib.hid he
    rw [← he]
    have h1 : ((xs.length : Int) != (xs.length : Int)) = false := by simp
    clear he
    go_enter Tryz.func68, Tryz.ntmps68
    go_wp2
    go_loopw [5, 13] (fun _ i wr => ∃ k n : Nat, k ≤ xs.length ∧ i = .int .i64 k ∧ wr = w.drewN n ∧ ∀ j, j < k → sx xs j = sx ys j) (fun _ i _ => xs.length - (intOf i).toNat)
    case atStart => exact ⟨0, 0, Nat.zero_le _, rfl, rfl, fun j h => absurd h (Nat.not_lt_zero _)⟩
    case round =>
      obtain ⟨k, n, hk, rfl, rfl, hall⟩ := hrel
      have HA := Lib.hid hall
      clear hall
      by_cases hlt : k < xs.length
      · obtain ⟨b, off, rfl, hb, hc1⟩ := HP.out k hlt
        obtain ⟨b', off', rfl, hb', hd1⟩ := HQ.out k (by have := HE.out; omega)
        have hbq := bytes_beq (sx xs k) (sx ys k)
        by_cases hs : sx xs k = sx ys k
        · rw [decide_eq_true hs] at hbq
          have HS := Lib.hid hs
          clear hs
          go_wp2
          go_quiet (fail)
          go_wp2
          go_roundw
          case rel => exact ⟨k + 1, _, by omega, by go_num, rfl, fun j hj => by by_cases e : j = k; (subst e; exact HS.out); exact HA.out j (by omega)⟩
          case measure => simp [intOf]; omega
        · rw [decide_eq_false hs] at hbq
          have HS := Lib.hid (ssEq_ne hs)
          clear hs
          go_wp2
          go_quiet (fail)
          go_wp2
          go_ret
          exact ⟨by rw [HS.out]; rfl, n + nq, by rw [World.drewN_drewN]⟩
      · obtain rfl : k = xs.length := by omega
        have HT := Lib.hid (ssEq_of HE.out HA.out)
        go_wp2
        go_ret
        exact ⟨by rw [HT.out]; rfl, n, rfl⟩
  · have h1 : ((xs.length : Int) != (ys.length : Int)) = true := by simp; omega
    have HT := Lib.hid (ssEq_len he)
    clear he
    go_enter Tryz.func68, Tryz.ntmps68
    go_wp2
    go_ret
    exact ⟨by rw [HT.out]; rfl, 0, rfl⟩
end Go.Proofs.YtdfadpejddhbkaaGreat

namespace Go.Proofs.YtdfadpejddhbkaaGreat
set_option linter.unusedVariables false
open Go.ChangeShapes Go.WideShapes Go.ChangeAt Go.RowKit Go.Maps

theorem infoStr : (Tryz.prog.info? 9).map (fun i => (i.zero, i.size, i.bytes)) = some (some (.string .empty), 1, 16) := by kernel_rfl

theorem ownsRow_later {w w' : World} {base : Nat} {e : TypeId} {sz : Nat} {v : Value} {n : Nat} {xs : List Value} (h : w.ownsRow base e sz v n xs) (hb : Below w.heap.size w w') : w'.ownsRow base e sz v n xs := by
  obtain ⟨h1, h2 | ⟨g, cap, cur, h3, h4, hg, h5⟩⟩ := h
  · exact ⟨h1, .inl h2⟩
  · exact ⟨h1, .inr ⟨g, cap, cur, h3, h4, (hb.block g (Array.getElem?_eq_some_iff.1 hg).1).trans hg, h5⟩⟩

/-- the names of things -/
def namesOf (fs : List Ft) : List ByteArray := fs.map (·.1)

theorem namesOf_len (fs : List Ft) : (namesOf fs).length = fs.length := by simp [namesOf]
theorem namesOf_at {fs : List Ft} {i : Nat} (h : i < fs.length) : sx (namesOf fs) i = fid fs i := by simp [sx, namesOf, fid, fg, h]

theorem names_step {fs : List Ft} {k : Nat} (h : k < fs.length) : ((namesOf fs).take (k + 1)).map Value.string = ((namesOf fs).take k).map Value.string ++ [.string (fid fs k)] := by
  have h1 : k < (namesOf fs).length := by rw [namesOf_len]; exact h
  rw [List.take_succ_eq_append_getElem h1, List.map_append]
  congr 1
  have := namesOf_at h
  simp only [sx, List.getD_eq_getElem?_getD, List.getElem?_eq_getElem h1, Option.getD_some] at this
  rw [this]
  rfl

theorem ents_names {w : World} {es : List En} {fs : List Ft} (h : Ents w es fs) : es.map (·.1) = namesOf fs := by
  refine List.ext_getElem (by simp [namesOf, h.1]) fun i h1 h2 => ?_
  have hi : i < fs.length := by simpa [namesOf] using h2
  have := (h.2 i hi).1
  have h3 := namesOf_at hi
  simp only [sx, List.getD_eq_getElem?_getD, List.getElem?_eq_getElem h2, Option.getD_some] at h3
  rw [h3, ← this]
  simp [ek, h.1, hi]

theorem kl_get {es : List En} {fs : List Ft} {w : World} (h : Ents w es fs) {i : Nat} (hi : i < es.length) : klF es[i] = fb fs i := by
  have := (h.2 i (by rw [← h.1]; exact hi)).1
  unfold fb
  rw [← this]
  simp [klF, ek, hi]

theorem ascF_of_good {w : World} {es : List En} {fs : List Ft} (he : Ents w es fs) (h : featsGood fs = true) : AscF es := by
  have step : ∀ j, j + 1 < fs.length → fb fs j < fb fs (j + 1) := fun j hj => by
    have := featsGood_at h hj
    simp [featGood] at this
    exact this.2
  have all : ∀ d i, i + d + 1 < fs.length → fb fs i < fb fs (i + d + 1) := by
    intro d
    induction d with
    | zero => exact fun i hi => step i hi
    | succ d ih => exact fun i hi => List.lt_trans (ih i (by omega)) (step _ hi)
  have hl := he.1
  refine List.pairwise_iff_getElem.2 fun i j hi hj hij => ?_
  rw [kl_get he hi, kl_get he hj]
  have := all (j - i - 1) i (by omega)
  rwa [show i + (j - i - 1) + 1 = j by omega] at this

theorem good_of_ascF {w : World} {es : List En} {fs : List Ft} (he : Ents w es fs) (hw : ∀ j, j < fs.length → ftOk fs j = true) (h : AscF es) : featsGood fs = true := by
  have hl := he.1
  refine featsGood_of fun j hj => ?_
  by_cases h0 : 0 < j
  · have := List.pairwise_iff_getElem.1 h (j - 1) j (by omega) (by omega) (by omega)
    rw [kl_get he, kl_get he] at this
    have hn : ¬ fb fs j ≤ fb fs (j - 1) := fun hle => hle this
    simp [featGood, hw j hj, hn]
  · simp [featGood, hw j hj, h0]

theorem asc_names {es fs' : List En} (h : AscF fs') (e : es.map (·.1) = fs'.map (·.1)) : AscF es := by
  have h1 : (fs'.map (·.1)).Pairwise (fun p q => p.data.toList < q.data.toList) := List.pairwise_map.2 (h.imp fun {p q} (h : klF p < klF q) => h)
  rw [← e] at h1
  exact (List.pairwise_map.1 h1).imp fun {p q} h => h

theorem told_goodF {w : World} {es : List En} {fs : List Ft} (he : Ents w es fs) (hw : ∀ j, j < fs.length → ftOk fs j = true) : ssEq (namesOf fs) ((toldF es).map (·.1)) = featsGood fs := by
  rw [← ents_names he]
  by_cases h : AscF es
  · rw [good_of_ascF he hw h, toldF_asc h]
    simp [ssEq]
  · have h1 : featsGood fs = false := by
      cases h2 : featsGood fs
      · rfl
      · exact absurd (ascF_of_good he h2) h
    rw [h1]
    unfold ssEq
    exact decide_eq_false fun e => h (asc_names (ascF_told es) e)

set_option maxRecDepth 100000 in
set_option maxHeartbeats 4000000 in
theorem implSheetOk_any (a : Option Addr) (cap : Nat) (fs : List Ft) (w : World) (hp : FeatsAt w a fs) (hl : fs.length ≤ 1048576) (ht : FeatsLen fs 1048576) :
    Calls Tryz.prog 22 #[.slice a fs.length cap] w fun e w' => e = .returned (.bool (sheetOk fs)) ∧ Below w.heap.size w w' := by
  obtain ⟨i0, hi, hz0, hz1, hz2⟩ := info_parts infoStr
  have HI := Lib.hid hi
  have HZ0 := Lib.hid hz0
  have HZ1 := Lib.hid hz1
  have HZ2 := Lib.hid hz2
  have HP := Lib.hid hp
  have HL := Lib.hid ht
  clear hp ht hi hz0 hz1 hz2
  by_cases h8 : fs.length ≤ 8
  · go_enter Tryz.func22, Tryz.ntmps22
    go_wp2
    go_loopw [3, 5, 11] (fun s _ i wr => ∃ (k : Nat) (v : Value), k ≤ fs.length ∧ i = .int .i64 k ∧ v = s ∧ wr.ownsRow w.heap.size 9 1 v k (((namesOf fs).take k).map Value.string) ∧ Below w.heap.size w wr ∧ ∀ j, j < k → ftOk fs j = true) (fun _ _ i _ => fs.length - (intOf i).toNat)
    case atStart => exact ⟨0, _, Nat.zero_le _, rfl, rfl, by simpa using World.ownsRow_nil _ _ _ _, Below.refl _ _, fun j h => absurd h (Nat.not_lt_zero _)⟩
    case round =>
      obtain ⟨k, v, hk, rfl, rfl, hown, hbel, hall⟩ := hrel
      have HA := Lib.hid hall
      have HB := Lib.hid hbel
      have HW := Lib.hid hown
      have hsz := hbel.size
      clear hall hown
      by_cases hlt : k < fs.length
      · obtain ⟨b, off, pa, pc, ta, tc, rfl, hb, hc1, hc2, hc3, hc4, hpp, htt⟩ := HP.out k hlt
        obtain ⟨l1, l2, l3, l4⟩ := HL.out k hlt
        rw [← hbel.cell (p := ⟨b, _, none⟩) hb] at hc1 hc2 hc3 hc4
        have D1 := Lib.hid (hpp.below hbel)
        have D2 := Lib.hid (htt.below hbel)
        have L4 := Lib.hid l4
        have zb : b < wr.heap.size := by omega
        clear hbel hpp htt l4
        have A0 : Hid (∀ o, Below wr.heap.size wr (wr.alloc o)) := fun o => (Below.refl _ _).alloc (Nat.le_refl _) _
        go_wp2_with fail
        clear hc1 hc2 hc3 hc4
        refine (implFeatOk_any _ _ _ _ _ _ _ _ _ (D1.out.below (A0.out _)) (D2.out.below (A0.out _)) (by omega) (by omega) (by omega) L4.out).mono ?_
        rintro e w1 ⟨rfl, hb1⟩
        have c0 := cell_later hb1 (a := ⟨wr.heap.size, 0, none⟩) (v := .string (fid fs k)) (by simp [go_sem])
        have B1 : Hid (Below wr.heap.size wr w1) := (A0.out _).trans (hb1.mono (by simp))
        have z1 : wr.heap.size < w1.heap.size := by have := hb1.size; simp at this; omega
        clear hb1 A0 D1 D2
        rw [show featOk (fid fs k) (fkd fs k) (fps fs k) (fts fs k) = ftOk fs k from rfl]
        by_cases hx : ftOk fs k = true
        · rw [hx]
          have HW1 : Hid (w1.ownsRow w.heap.size 9 1 v k (((namesOf fs).take k).map Value.string)) := ownsRow_later HW.out B1.out
          have HV : Hid (∀ j, v.ownBlock = some j → w.heap.size ≤ j) := fun j hj => (HW.out.lt j hj).1
          go_wp2_with (at_builtin; refine wpList_append_lies _ (by rfl) _ _ _ (by rfl) w.heap.size 9 i0 _ 1 16 Tryz.underlying94 HI.out HZ0.out HZ1.out HZ2.out rfl (by omega) v k (((namesOf fs).take k).map Value.string) (by rfl) (HW1.out.alloc _) ⟨w1.heap.size, 0, none⟩ 1 1 [.string (fid fs k)] (by rfl) (by rfl) (World.news_of_block (cs := #[.string (fid fs k)]) (t := 9) (fr := (0, 0)) (heap_alloc_new w1 _)) (by simp [Value.oneCell']) (by omega) (by unfold maxLen; omega) (by omega) (by simp; omega) (w1.heap.size + 1) (by simp) ?_; intro gg cap' wa hown1 hgrow hat hlt')
          rw [← names_step hlt] at hown1
          have HO := Lib.hid hown1
          have HG := Lib.hid hgrow
          clear hown1 hgrow hat c0
          go_roundw
          case rel => exact ⟨k + 1, _, by omega, by go_num, rfl, HO.out, (HB.out.trans ((B1.out.mono hsz).alloc (by omega) _)).grown HG.out (by simp; omega) (fun j hj => HV.out j hj), fun j hj => by by_cases e : j = k; (subst e; exact hx); exact HA.out j (by omega)⟩
          case measure => simp [intOf]; omega
        · have hx' : ftOk fs k = false := by simpa using hx
          rw [hx']
          have B2 : Hid (Below w.heap.size w w1) := HB.out.trans (B1.out.mono hsz)
          clear c0
          go_wp2
          go_ret
          exact ⟨by rw [sheetOk_not hlt (by simp [featGood, hx'])]; rfl, B2.out⟩
      · obtain rfl : k = fs.length := by omega
        have HO : Hid (wr.ownsRow w.heap.size 9 1 v fs.length ((namesOf fs).map Value.string)) := by
          have := HW.out
          rwa [List.take_of_length_le (by rw [namesOf_len]; omega)] at this
        clear hbel HW
        obtain ⟨an, cn, rfl, hn, _⟩ := owned_strs HO.out (namesOf_len fs).symm
        have HN := Lib.hid hn
        clear hn HO
        go_wp2_with fail
        refine (featsByName_any _ _ _ _ (HP.out.below HB.out) hl HL.out).mono ?_
        rintro e w1 ⟨rfl, ⟨es, he, ho⟩, hb1⟩
        have HE := Lib.hid he
        have HO := Lib.hid ho
        have B1 : Hid (Below w.heap.size w w1) := HB.out.trans (hb1.mono hsz)
        replace HN := Lib.hid (HN.out.below hb1)
        clear he ho hb1
        go_wp2_with fail
        refine (namesInOrder_any _ _ _ (toldF es) _ HO.out (tellsF_mapF es) (by omega)).mono ?_
        rintro e w2 ⟨⟨v2, rfl, hr2⟩, hl2, hb2⟩
        have B2 : Hid (Below w.heap.size w w2) := B1.out.trans (hb2.mono B1.out.size)
        replace HN := Lib.hid (HN.out.below hb2)
        generalize hys : (toldF es).map (·.1) = ys at hr2
        have hyl : (toldF es).length = ys.length := by rw [← hys, List.length_map]
        have HYS := Lib.hid hys
        clear hys
        obtain ⟨a2, cap2, rfl, h2, _⟩ := owned_strs hr2 hyl
        have H2 := Lib.hid h2
        clear hb2 hr2 h2 HO
        go_wp2_with fail
        refine (slicesEqualS_any _ _ _ _ _ _ _ HN.out H2.out (by rw [namesOf_len]; omega) (by omega)).mono ?_
        rintro e w3 ⟨rfl, n, rfl⟩
        have B3 : Hid (Below w.heap.size w (w2.drewN n)) := below_drewN B2.out n
        go_wp2
        go_ret
        exact ⟨by rw [← HYS.out, told_goodF HE.out HA.out]; simp [sheetOk, h8], B3.out⟩
  · go_enter Tryz.func22, Tryz.ntmps22
    go_wp2
    go_ret
    exact ⟨by simp [sheetOk, h8], Below.refl _ _⟩
end Go.Proofs.YtdfadpejddhbkaaGreat

namespace Go.Proofs.YtdfadpejddhbkaaGreat
set_option linter.unusedVariables false
open Go.ChangeShapes Go.WideShapes Go.ChangeAt Go.RowKit Go.Deep

/-- is there such a thing -/
def getHas (fs : List Ft) (id : ByteArray) : Bool := sheetOk fs && decide (firstF fs id < fs.length)
/-- the thing of a name -/
def getFt (fs : List Ft) (id : ByteArray) : Ft := if getHas fs id then fg fs (firstF fs id) else (⟨#[]⟩, 0, [], [])

/-- a value is a thing that lies between these blocks -/
def Got (lo hi : Nat) (w : World) (v : Value) (f : Ft) : Prop :=
  ∃ ax cx ay cy, v = .agg #[.string f.1, .int .i64 f.2.1, .slice ax f.2.2.1.length cx, .slice ay f.2.2.2.length cy] ∧ PtsAt w ax f.2.2.1 ∧ TagsAt w ay f.2.2.2 ∧ (f.2.2.1.length = 0 ∨ ∀ x, blk ax = some x → lo ≤ x ∧ x < hi) ∧ (f.2.2.2.length = 0 ∨ ∀ x, blk ay = some x → lo ≤ x ∧ x < hi)

theorem Got.turned {lo hi : Nat} {w w' : World} {v : Value} {f : Ft} {S : Nat → Prop} (h : Got lo hi w v f) (ht : Turned w w' S) (hS : ∀ x, lo ≤ x → x < hi → ¬ S x) : Got lo hi w' v f := by
  obtain ⟨ax, cx, ay, cy, h1, h2, h3, h4, h5⟩ := h
  refine ⟨ax, cx, ay, cy, h1, ?_, ?_, h4, h5⟩
  · rcases h4 with h | h
    · exact fun i hi => absurd hi (by omega)
    · exact h2.turned ht fun x hx => hS x (h x hx).1 (h x hx).2
  · rcases h5 with h | h
    · exact fun i hi => absurd hi (by omega)
    · exact h3.turned ht fun x hx => hS x (h x hx).1 (h x hx).2

theorem Got.below {lo hi : Nat} {w w' : World} {v : Value} {f : Ft} (h : Got lo hi w v f) (hb : Below w.heap.size w w') : Got lo hi w' v f := h.turned (S := fun _ => False) (Turned.of_below hb) fun _ _ _ h => h

theorem Got.nothing (lo hi : Nat) (w : World) : Got lo hi w (.agg #[.string ⟨#[]⟩, .int .i64 0, .slice none 0 0, .slice none 0 0]) (⟨#[]⟩, 0, [], []) :=
  ⟨none, 0, none, 0, rfl, PtsAt.nil _ _, TagsAt.nil _ _, .inl rfl, .inl rfl⟩

theorem good_ok {fs : List Ft} (h : sheetOk fs = true) {i : Nat} (hi : i < fs.length) : ftOk fs i = true := by
  simp [sheetOk] at h
  have := featsGood_at h.1 hi
  simp [featGood] at this
  exact this.1

theorem ftOk_pts {fs : List Ft} {i : Nat} (h : ftOk fs i = true) : 0 < (fps fs i).length := by
  unfold ftOk featOk at h
  simp only [Bool.and_eq_true] at h
  have h2 := h.1.2
  unfold shapeOk at h2
  simp only [Bool.and_eq_true] at h2
  have h3 := h2.1.2
  unfold kindHolds at h3
  split at h3
  · simp at h3; omega
  · split at h3
    · simp at h3; omega
    · split at h3
      · simp at h3; omega
      · simp at h3

theorem Got.mono {lo hi lo' hi' : Nat} {w : World} {v : Value} {f : Ft} (h : Got lo hi w v f) (h1 : lo' ≤ lo) (h2 : hi ≤ hi') : Got lo' hi' w v f := by
  obtain ⟨ax, cx, ay, cy, q1, q2, q3, q4, q5⟩ := h
  exact ⟨ax, cx, ay, cy, q1, q2, q3, q4.imp id fun h x hx => ⟨Nat.le_trans h1 (h x hx).1, Nat.lt_of_lt_of_le (h x hx).2 h2⟩, q5.imp id fun h x hx => ⟨Nat.le_trans h1 (h x hx).1, Nat.lt_of_lt_of_le (h x hx).2 h2⟩⟩

/-- four stores into a box -/
theorem turned4 (w : World) (r : Nat) (x0 x1 x2 x3 : Value) : Turned w ((((w.setCell ⟨r, 0, none⟩ x0).setCell ⟨r, 1, none⟩ x1).setCell ⟨r, 2, none⟩ x2).setCell ⟨r, 3, none⟩ x3) (fun x => x = r) :=
  (((Turned.of_set (S := fun x => x = r) w _ _ rfl).trans (Turned.of_set _ _ _ rfl)).trans (Turned.of_set _ _ _ rfl)).trans (Turned.of_set _ _ _ rfl)

theorem FeatAns.got {w w' : World} {id : ByteArray} {k : Int} {ps : List (Int × Int)} {ts : List Tg} {v : Value} (h : FeatAns w id k ps ts v w') : Got w.heap.size w'.heap.size w' v (id, k, ps, ts) ∧ Below w.heap.size w w' := by
  obtain ⟨a, cap, c, ca, h1, h2, _, h4, h5, _, h7, _, h9⟩ := h
  exact ⟨⟨a, cap, c, ca, h1, h2, h5, .inr h4, .inr h7⟩, h9⟩

set_option maxHeartbeats 2000000 in
theorem l2Copy_got (id : ByteArray) (k : Int) (a : Option Addr) (cap : Nat) (ps : List (Int × Int)) (c : Option Addr) (ca : Nat) (ts : List Tg) (w : World) (hp : PtsAt w a ps) (ht : TagsAt w c ts) (hl : ps.length ≤ 1048576) (h0 : 0 < ps.length) (hm : ts.length ≤ 1048576) :
    Calls Tryz.prog 63 #[.agg #[.string id, .int .i64 k, .slice a ps.length cap, .slice c ts.length ca]] w fun e w' => (∃ v, e = .returned v ∧ Got w.heap.size w'.heap.size w' v (id, k, ps, ts)) ∧ Below w.heap.size w w' := by
  obtain ⟨b, off, rfl, _⟩ := hp 0 h0
  by_cases h1 : 0 < ts.length
  · obtain ⟨b2, off2, rfl, _⟩ := ht 0 h1
    refine (l2Copy_any id k b off cap ps b2 off2 ca ts w hp ht hl h0 hm h1).mono ?_
    rintro e w' ⟨v, rfl, h⟩
    exact ⟨⟨v, rfl, h.got.1⟩, h.got.2⟩
  · obtain rfl : ts = [] := List.eq_nil_of_length_eq_zero (by omega)
    refine (l2Copy_n0 id k b off cap ps c ca w hp hl h0).mono ?_
    rintro e w' ⟨ax, cx, ay, cy, rfl, ⟨q1, _, q3⟩, hb⟩
    exact ⟨⟨_, rfl, ax, cx, ay, cy, rfl, q1, TagsAt.nil _ _, .inr q3, .inl rfl⟩, hb⟩

set_option maxRecDepth 100000 in
set_option maxHeartbeats 4000000 in
theorem specSheetGet_any (a : Option Addr) (cap : Nat) (fs : List Ft) (id : ByteArray) (w : World) (hp : FeatsAt w a fs) (hl : fs.length ≤ 1048576) (ht : FeatsLen fs 1048576) :
    Calls Tryz.prog 18 #[.slice a fs.length cap, .string id] w fun e w' => (∃ v, e = .returned (.tuple #[v, .bool (getHas fs id)]) ∧ Got w.heap.size w'.heap.size w' v (getFt fs id)) ∧ Below w.heap.size w w' := by
  have HP := Lib.hid hp
  have HL := Lib.hid ht
  clear hp ht
  have A0 : Hid (∀ o, Below w.heap.size w (w.alloc o)) := fun o => (Below.refl _ _).alloc (Nat.le_refl _) _
  go_enter Tryz.func18, Tryz.ntmps18
  go_wp2_with fail
  refine (l3Find_any _ _ _ _ _ (HP.out.below (A0.out _)) hl).mono ?_
  rintro e w1 ⟨rfl, rfl⟩
  have RB : Hid (BoxS (w.alloc (.cells #[.string ⟨#[]⟩, .int .i64 0, .slice none 0 0, .slice none 0 0] 33)) w.heap.size (.string ⟨#[]⟩) (.int .i64 0) (.slice none 0 0) (.slice none 0 0)) := BoxS.new w _ _ _ _ _
  have B1 : Hid (Below w.heap.size w (w.alloc (.cells #[.string ⟨#[]⟩, .int .i64 0, .slice none 0 0, .slice none 0 0] 33))) := A0.out _
  have hsz1 : (w.alloc (.cells #[.string ⟨#[]⟩, .int .i64 0, .slice none 0 0, .slice none 0 0] 33)).heap.size = w.heap.size + 1 := by simp
  generalize (w.alloc (.cells #[.string ⟨#[]⟩, .int .i64 0, .slice none 0 0, .slice none 0 0] 33)) = w1 at *
  clear A0
  go_wp2_with fail
  refine (specSheetOk_any _ _ _ _ (HP.out.below B1.out) hl HL.out).mono ?_
  rintro e w2 ⟨rfl, hb2⟩
  have R2 := Lib.hid (RB.out.later hb2)
  have B2 : Hid (Below w.heap.size w w2) := B1.out.trans (hb2.mono B1.out.size)
  have hsz2 : w.heap.size < w2.heap.size := by have := hb2.size; omega
  clear hb2 RB B1 hsz1
  obtain ⟨⟨r0, r1, r2, r3⟩, rf⟩ := R2.out
  have f0 := rf 0
  have f1 := rf 1
  have f2 := rf 2
  have f3 := rf 3
  clear rf
  have TN : Hid (∀ x0 x1 x2 x3, Below w.heap.size w ((((w2.setCell ⟨w.heap.size, 0, none⟩ x0).setCell ⟨w.heap.size, 1, none⟩ x1).setCell ⟨w.heap.size, 2, none⟩ x2).setCell ⟨w.heap.size, 3, none⟩ x3)) := fun x0 x1 x2 x3 => (((B2.out.setCell (by simp) _).setCell (by simp) _).setCell (by simp) _).setCell (by simp) _
  by_cases hok : sheetOk fs = true
  · rw [hok]
    by_cases hlt : firstF fs id < fs.length
    · have hfv : findV fs id = (firstF fs id : Int) := by unfold findV; rw [if_pos hlt]
      have HH : Hid (getHas fs id = true) := by show _ = _; simp [getHas, hok, hlt]
      have HG : Hid (getFt fs id = fg fs (firstF fs id)) := by show _ = _; unfold getFt; rw [HH.out, if_pos rfl]
      have hpos := ftOk_pts (good_ok hok hlt)
      rw [hfv]
      generalize firstF fs id = i at *
      obtain ⟨b, off, pa, pc, ta, tc, rfl, hb, hc1, hc2, hc3, hc4, hpp, htt⟩ := HP.out.below B2.out i hlt
      obtain ⟨l1, l2, l3, _⟩ := HL.out i hlt
      have D1 := Lib.hid hpp
      have D2 := Lib.hid htt
      clear hpp htt hok r0 r1 r2 r3 f0 f1 f2 f3 TN
      go_wp2_with fail
      refine (l2Copy_got _ _ _ _ _ _ _ _ _ D1.out D2.out (by omega) hpos (by omega)).mono ?_
      rintro e w3 ⟨⟨v, rfl, hg⟩, hb3⟩
      have B3 : Hid (Below w.heap.size w w3) := B2.out.trans (hb3.mono B2.out.size)
      obtain ⟨⟨r0, r1, r2, r3⟩, rf⟩ := R2.out.later hb3
      have f0 := rf 0
      have f1 := rf 1
      have f2 := rf 2
      have f3 := rf 3
      clear rf hb3 hc1 hc2 hc3 hc4
      have GG := Lib.hid hg
      obtain ⟨ax, cx, ay, cy, rfl, _⟩ := hg
      rw [show (fid fs i, fkd fs i, fps fs i, fts fs i) = fg fs i from rfl] at GG
      go_wp2
      refine bodyPost_ret (v := .tuple #[.agg #[.string (fid fs i), .int .i64 (fkd fs i), .slice ax (fps fs i).length cx, .slice ay (fts fs i).length cy], .bool true]) (by simp [results, Tryz.results18, go_sem, r0, r1, r2, r3]) rfl ?_
      refine ⟨⟨_, by rw [HH.out], ?_⟩, (((B3.out.setCell (by simp) _).setCell (by simp) _).setCell (by simp) _).setCell (by simp) _⟩
      rw [HG.out]
      exact ((GG.out.turned (turned4 _ _ _ _ _ _) (fun x h1 h2 e => by omega)).mono (by omega) (by simp [World.setCell]))
    · have hfv : findV fs id = -1 := by unfold findV; rw [if_neg hlt]
      have HH : Hid (getHas fs id = false) := by show _ = _; simp [getHas, hlt]
      have HG : Hid (getFt fs id = (⟨#[]⟩, 0, [], [])) := by show _ = _; unfold getFt; rw [HH.out]; rfl
      rw [hfv]
      clear hok
      go_wp2
      refine bodyPost_ret (v := .tuple #[.agg #[.string ⟨#[]⟩, .int .i64 0, .slice none 0 0, .slice none 0 0], .bool false]) (by simp [results, Tryz.results18, go_sem, r0, r1, r2, r3]) rfl ?_
      exact ⟨⟨_, by rw [HH.out], by rw [HG.out]; exact Got.nothing _ _ _⟩, TN.out _ _ _ _⟩
  · have hok' : sheetOk fs = false := by simpa using hok
    have HH : Hid (getHas fs id = false) := by show _ = _; simp [getHas, hok']
    have HG : Hid (getFt fs id = (⟨#[]⟩, 0, [], [])) := by show _ = _; unfold getFt; rw [HH.out]; rfl
    rw [hok']
    clear hok hok'
    go_wp2
    refine bodyPost_ret (v := .tuple #[.agg #[.string ⟨#[]⟩, .int .i64 0, .slice none 0 0, .slice none 0 0], .bool false]) (by simp [results, Tryz.results18, go_sem, r0, r1, r2, r3]) rfl ?_
    exact ⟨⟨_, by rw [HH.out], by rw [HG.out]; exact Got.nothing _ _ _⟩, TN.out _ _ _ _⟩
end Go.Proofs.YtdfadpejddhbkaaGreat

namespace Go.Proofs.YtdfadpejddhbkaaGreat
set_option linter.unusedVariables false
open Go.ChangeShapes Go.WideShapes Go.ChangeAt Go.RowKit Go.Deep Go.Maps

theorem ent_get {w : World} {es : List En} {fs : List Ft} (h : Ents w es fs) {i : Nat} (hi : i < fs.length) : es[i]'(by rw [h.1]; exact hi) = (fid fs i, ev es i) := by
  have h1 := (h.2 i hi).1
  have hi' : i < es.length := by rw [h.1]; exact hi
  rw [← h1]
  simp [ek, ev, hi']

theorem nothing_feat {w w1 : World} {r : Nat} {x0 x1 x2 x3 : Value} (hw : Below w.heap.size w w1) (hr : w.heap.size ≤ r) :
    FeatAns w ⟨#[]⟩ 0 [] [] (.agg #[.string ⟨#[]⟩, .int .i64 0, .slice none 0 0, .slice none 0 0]) ((((w1.setCell ⟨r, 0, none⟩ x0).setCell ⟨r, 1, none⟩ x1).setCell ⟨r, 2, none⟩ x2).setCell ⟨r, 3, none⟩ x3) :=
  ⟨none, 0, none, 0, rfl, PtsAt.nil _ _, fun i hi => absurd hi (Nat.not_lt_zero _), fun x h => by simp [blk] at h, TagsAt.nil _ _, fun i hi => absurd hi (Nat.not_lt_zero _), fun x h => by simp [blk] at h, fun x h => by simp [blk] at h, (((hw.setCell hr _).setCell hr _).setCell hr _).setCell hr _⟩

theorem ok_tells {w0 : World} {es : List En} {fs : List Ft} (he : Ents w0 es fs) (hok : sheetOk fs = true) : TellsF (mapF es) es := by
  have h := tellsF_mapF es
  rw [toldF_asc (ascF_of_good he (by simp [sheetOk] at hok; exact hok.1))] at h
  exact h

/-- a look-up of a name that is there -/
theorem look_hit {w0 w : World} {b n : Nat} {es : List En} {fs : List Ft} (hown : w.ownsMap Tryz.prog 9 heldElem b n (mapF es)) (he : Ents w0 es fs) (hok : sheetOk fs = true) {i : Nat} (hi : i < fs.length) (hl : (fid fs i).size ≤ maxLen) :
    (Instr.lookup 81 (.map (some b)) (.string (fid fs i)) true).run Tryz.prog w = .ok (.tuple #[ev es i, .bool true]) w := by
  have hz : (zeroValue 33).run Tryz.prog w = .ok (.agg #[.string .empty, .int .i64 0, .slice none 0 0, .slice none 0 0]) w := by kernel_rfl
  obtain ⟨v, ps, hrun, hv⟩ := hown.look_ok keyT Tryz.underlying81 hz (zd := .held (.agg #[.string .empty, .int .i64 0, .slice none 0 0, .slice none 0 0])) (zp := []) rfl (Go.WideMaps.keyOf_string_mk Tryz.underlying9 hl)
  simp only [heldElem, Option.some.injEq, Prod.mk.injEq] at hv
  have hm : ((fid fs i, ev es i) : En) ∈ es := by rw [← ent_get he hi]; exact List.getElem_mem _
  have h1 := (ok_tells he hok).at_ _ hm
  have hh : Maps.has (mapF es) (.string (fid fs i).data.toList) = true := has_true_of_atKey h1
  have h3 := hv.1
  rw [show (mapF es).atKey (.string (fid fs i).data.toList) _ = .held (ev es i) from h1 _] at h3
  rw [hrun, DataW.held.inj h3, hh]

/-- a look-up of a name that is not there -/
theorem look_miss {w0 w : World} {b n : Nat} {es : List En} {fs : List Ft} {id : ByteArray} (hown : w.ownsMap Tryz.prog 9 heldElem b n (mapF es)) (he : Ents w0 es fs) (hno : ∀ j, j < fs.length → fid fs j ≠ id) (hl : id.size ≤ maxLen) :
    (Instr.lookup 81 (.map (some b)) (.string id) true).run Tryz.prog w = .ok (.tuple #[.agg #[.string .empty, .int .i64 0, .slice none 0 0, .slice none 0 0], .bool false]) w := by
  have hz : (zeroValue 33).run Tryz.prog w = .ok (.agg #[.string .empty, .int .i64 0, .slice none 0 0, .slice none 0 0]) w := by kernel_rfl
  obtain ⟨v, ps, hrun, hv⟩ := hown.look_ok keyT Tryz.underlying81 hz (zd := .held (.agg #[.string .empty, .int .i64 0, .slice none 0 0, .slice none 0 0])) (zp := []) rfl (Go.WideMaps.keyOf_string_mk Tryz.underlying9 hl)
  simp only [heldElem, Option.some.injEq, Prod.mk.injEq] at hv
  have hn : Maps.has (mapF es) (.string id.data.toList) = false := by
    cases hh : Maps.has (mapF es) (.string id.data.toList)
    · rfl
    · obtain ⟨t, h1, h2⟩ := (tellsF_mapF es).has _ hh
      obtain ⟨j, hj, e⟩ := List.getElem_of_mem (toldF_mem h1)
      have hj' : j < fs.length := by rw [← he.1]; exact hj
      rw [ent_get he hj'] at e
      refine absurd ?_ (hno j hj')
      rw [← toList_inj, ByteArray.toList_eq, ByteArray.toList_eq, ← h2, ← e]
      rfl
  have h3 := hv.1
  rw [atKey_of_not_has hn] at h3
  rw [hrun, DataW.held.inj h3, hn]

theorem FeatAns.close {w u w3 : World} {id : ByteArray} {k : Int} {ps : List (Int × Int)} {ts : List Tg} {v : Value} {r : Nat} (h : FeatAns u id k ps ts v w3) (hu : Below w.heap.size w u) (hr : w.heap.size ≤ r) (hr' : r < u.heap.size) (x0 x1 x2 x3 : Value) :
    FeatAns w id k ps ts v ((((w3.setCell ⟨r, 0, none⟩ x0).setCell ⟨r, 1, none⟩ x1).setCell ⟨r, 2, none⟩ x2).setCell ⟨r, 3, none⟩ x3) := by
  obtain ⟨a, cap, c, ca, h1, h2, h3, h4, h5, h6, h7, h8, h9⟩ := h
  have na : blk a ≠ some r := fun e => by have := (h4 _ e).1; omega
  have nc : blk c ≠ some r := fun e => by have := (h7 _ e).1; omega
  have hs := hu.size
  exact ⟨a, cap, c, ca, h1, (((h2.set na).set na).set na).set na, (((h3.set _ _).set _ _).set _ _).set _ _, fun x e => ⟨by have := (h4 x e).1; omega, by have := (h4 x e).2; simpa [World.setCell] using this⟩, (((h5.set nc).set nc).set nc).set nc, (((h6.set _ _).set _ _).set _ _).set _ _, fun x e => ⟨by have := (h7 x e).1; omega, by have := (h7 x e).2; simpa [World.setCell] using this⟩, h8, ((((hu.trans (h9.mono hs)).setCell hr _).setCell hr _).setCell hr _).setCell hr _⟩

theorem firstF_none {fs : List Ft} {id : ByteArray} (h : ¬ firstF fs id < fs.length) : ∀ j, j < fs.length → fid fs j ≠ id := by
  intro j hj e
  refine h ?_
  unfold firstF
  exact List.findIdx_lt_length_of_exists ⟨fs[j], List.getElem_mem hj, by simp [fid_get hj, e]⟩

set_option maxRecDepth 100000 in
set_option maxHeartbeats 4000000 in
theorem implSheetGet_any (a : Option Addr) (cap : Nat) (fs : List Ft) (id : ByteArray) (w : World) (hp : FeatsAt w a fs) (hl : fs.length ≤ 1048576) (ht : FeatsLen fs 1048576) (hi : id.size ≤ 1048576) :
    Calls Tryz.prog 17 #[.slice a fs.length cap, .string id] w fun e w' => ∃ v, e = .returned (.tuple #[v, .bool (getHas fs id)]) ∧ FeatAns w (getFt fs id).1 (getFt fs id).2.1 (getFt fs id).2.2.1 (getFt fs id).2.2.2 v w' := by
  have HP := Lib.hid hp
  have HL := Lib.hid ht
  clear hp ht
  have A0 : Hid (∀ o, Below w.heap.size w (w.alloc o)) := fun o => (Below.refl _ _).alloc (Nat.le_refl _) _
  go_enter Tryz.func17, Tryz.ntmps17
  go_wp2_with fail
  refine (implSheetOk_any _ _ _ _ (HP.out.below (A0.out _)) hl HL.out).mono ?_
  rintro e w1 ⟨rfl, hb1⟩
  have R1 : Hid (BoxS w1 w.heap.size (.string ⟨#[]⟩) (.int .i64 0) (.slice none 0 0) (.slice none 0 0)) := (BoxS.new w _ _ _ _ _).later hb1
  have B1 : Hid (Below w.heap.size w w1) := (A0.out _).trans (hb1.mono (by simp))
  have hsz1 : w.heap.size < w1.heap.size := R1.out.1.lt
  clear hb1 A0
  by_cases hok : sheetOk fs = true
  · rw [hok]
    go_wp2_with fail
    refine (featsByName_any _ _ _ _ (HP.out.below B1.out) hl HL.out).mono ?_
    rintro e w2 ⟨rfl, ⟨es, he, ho⟩, hb2⟩
    have R2 := Lib.hid (R1.out.later hb2)
    have B2 : Hid (Below w.heap.size w w2) := B1.out.trans (hb2.mono B1.out.size)
    have HE := Lib.hid (he.below hb2)
    have hsz2 := hb2.size
    clear hb2 R1 B1
    by_cases hlt : firstF fs id < fs.length
    · have hat := firstF_at hlt
      have HH : Hid (getHas fs id = true) := by show _ = _; simp [getHas, hok, hlt]
      have HG : Hid (getFt fs id = fg fs (firstF fs id)) := by show _ = _; unfold getFt; rw [HH.out, if_pos rfl]
      obtain ⟨l1, l2, l3, _⟩ := HL.out (firstF fs id) hlt
      have hlk := look_hit ho he hok hlt (by unfold maxLen; omega)
      rw [hat] at hlk
      obtain ⟨pa, pc, ta, tc, hev, hpp, htt⟩ := (HE.out.2 _ hlt).2
      rw [hev] at hlk
      generalize firstF fs id = i at *
      have D1 := Lib.hid hpp
      have D2 := Lib.hid htt
      clear hpp htt hev ho he hok
      have A2 : Hid (∀ o, Below w2.heap.size w2 (w2.alloc o)) := fun o => (Below.refl _ _).alloc (Nat.le_refl _) _
      go_wp2_with fail
      refine (featCopy_any _ _ _ _ _ _ _ _ _ (D1.out.below (A2.out _)) (D2.out.below (A2.out _)) (by show (fps fs i).length ≤ _; omega) (by show (fts fs i).length ≤ _; omega)).mono ?_
      rintro e w3 ⟨v, rfl, hg⟩
      have hb3 := hg.got.2
      have GG := Lib.hid hg
      have U2 : Hid (∀ o, Below w.heap.size w (w2.alloc o)) := fun o => B2.out.alloc B2.out.size _
      obtain ⟨⟨r0, r1, r2, r3⟩, rf⟩ := (R2.out.later (A2.out (.cells #[.string (fg fs i).1, .int .i64 (fg fs i).2.1, .slice pa (fg fs i).2.2.1.length pc, .slice ta (fg fs i).2.2.2.length tc] 33))).later hb3
      have f0 := rf 0
      have f1 := rf 1
      have f2 := rf 2
      have f3 := rf 3
      clear rf hb3 hlk
      obtain ⟨ax, cx, ay, cy, rfl, _⟩ := hg
      go_wp2
      refine bodyPost_ret (v := .tuple #[.agg #[.string (fg fs i).1, .int .i64 (fg fs i).2.1, .slice ax (fg fs i).2.2.1.length cx, .slice ay (fg fs i).2.2.2.length cy], .bool true]) (by simp [results, Tryz.results17, go_sem, r0, r1, r2, r3]) rfl ?_
      refine ⟨_, by rw [HH.out], ?_⟩
      rw [HG.out]
      exact GG.out.close (U2.out _) (Nat.le_refl _) (by simp; omega) _ _ _ _
    · have HH : Hid (getHas fs id = false) := by show _ = _; simp [getHas, hlt]
      have HG : Hid (getFt fs id = (⟨#[]⟩, 0, [], [])) := by show _ = _; unfold getFt; rw [HH.out]; rfl
      have hlk := look_miss ho he (firstF_none hlt) (by unfold maxLen; omega)
      rw [show (ByteArray.empty) = ⟨#[]⟩ from rfl] at hlk
      clear ho he hok hlt
      have A2 : Hid (∀ o, Below w2.heap.size w2 (w2.alloc o)) := fun o => (Below.refl _ _).alloc (Nat.le_refl _) _
      go_wp2_with fail
      refine (featCopy_any ⟨#[]⟩ 0 none 0 [] none 0 [] _ (PtsAt.nil _ _) (TagsAt.nil _ _) (Nat.zero_le _) (Nat.zero_le _)).mono ?_
      rintro e w3 ⟨v, rfl, hg⟩
      have hb3 := hg.got.2
      have GG := Lib.hid hg
      have U2 : Hid (∀ o, Below w.heap.size w (w2.alloc o)) := fun o => B2.out.alloc B2.out.size _
      obtain ⟨⟨r0, r1, r2, r3⟩, rf⟩ := (R2.out.later (A2.out (.cells #[.string ⟨#[]⟩, .int .i64 0, .slice none 0 0, .slice none 0 0] 33))).later hb3
      have f0 := rf 0
      have f1 := rf 1
      have f2 := rf 2
      have f3 := rf 3
      clear rf hb3 hlk
      obtain ⟨ax, cx, ay, cy, rfl, _⟩ := hg
      go_wp2
      refine bodyPost_ret (v := .tuple #[.agg #[.string ⟨#[]⟩, .int .i64 0, .slice ax 0 cx, .slice ay 0 cy], .bool false]) (by simp [results, Tryz.results17, go_sem, r0, r1, r2, r3]) rfl ?_
      refine ⟨_, by rw [HH.out], ?_⟩
      rw [HG.out]
      exact GG.out.close (U2.out _) (Nat.le_refl _) (by simp; omega) _ _ _ _
  · have hok' : sheetOk fs = false := by simpa using hok
    have HH : Hid (getHas fs id = false) := by show _ = _; simp [getHas, hok']
    have HG : Hid (getFt fs id = (⟨#[]⟩, 0, [], [])) := by show _ = _; unfold getFt; rw [HH.out]; rfl
    rw [hok']
    clear hok hok'
    obtain ⟨⟨r0, r1, r2, r3⟩, rf⟩ := R1.out
    have f0 := rf 0
    have f1 := rf 1
    have f2 := rf 2
    have f3 := rf 3
    clear rf
    go_wp2
    refine bodyPost_ret (v := .tuple #[.agg #[.string ⟨#[]⟩, .int .i64 0, .slice none 0 0, .slice none 0 0], .bool false]) (by simp [results, Tryz.results17, go_sem, r0, r1, r2, r3]) rfl ?_
    exact ⟨_, by rw [HH.out], by rw [HG.out]; exact nothing_feat B1.out (Nat.le_refl _)⟩
end Go.Proofs.YtdfadpejddhbkaaGreat

namespace Go.Proofs.YtdfadpejddhbkaaGreat
set_option linter.unusedVariables false
open Go.ChangeShapes Go.WideShapes Go.ChangeAt Go.RowKit

set_option maxRecDepth 100000 in
set_option maxHeartbeats 4000000 in
theorem markFeatS_some (b off cap : Nat) (fs : List Ft) (ad : Nat → Pl) (k : Int) (w : World) (hl : fs.length ≤ 1048576) (hL : FeatsLen fs 1048576) (h0 : 0 ≤ k) (h4 : k ≤ 1000000000000000) (hlie : Lies w b off fs ad) (hsep : Sep b fs.length ad) :
    Calls Tryz.prog 47 #[.slice (some ⟨b, off, none⟩) fs.length cap, .int .i64 k] w fun e w' => e = .returned (.int .i64 (lmk fs k fs.length)) ∧ Lies w' b off (lmkTo fs k fs.length) ad ∧ Turned w w' (blocksOf b fs.length ad) := by
  have HL := Lib.hid hL
  have HLie : Hid (Lies w b off (lmkTo fs k 0) ad) := by rw [lmkTo_zero]; exact hlie
  have HS := Lib.hid hsep
  clear hL hlie hsep
  go_enter Tryz.func47, Tryz.ntmps47
  go_wp2
  go_loopw [1, 5] (fun s1 i wr => ∃ j : Nat, j ≤ fs.length ∧ s1 = .int .i64 (lmk fs k j) ∧ i = .int .i64 j ∧ Lies wr b off (lmkTo fs k j) ad ∧ Turned w wr (blocksOf b fs.length ad)) (fun _ i _ => fs.length - (intOf i).toNat)
  case atStart => exact ⟨0, Nat.zero_le _, rfl, rfl, HLie.out, Turned.refl _ _⟩
  case round =>
    clear HLie
    obtain ⟨j, hj, rfl, rfl, hlie, htu⟩ := hrel
    have HLi := Lib.hid hlie
    have HT := Lib.hid htu
    have blt := hlie.lt
    clear hlie htu
    obtain ⟨k0, k1⟩ := lmk_le h0 h4 HL.out j hj
    by_cases hlt : j < fs.length
    · obtain ⟨l1, l2, l3, l4⟩ := HL.out j hlt
      clear l4
      have hlj : j < (lmkTo fs k j).length := by rw [lmkTo_len]; exact hlt
      go_wp2_with fail
      refine (markText_any _ _ (by omega)).mono ?_
      rintro e w1 ⟨rfl, hb1⟩
      have L1 := Lib.hid (HLi.out.below hb1)
      have T1 : Hid (Turned w w1 (blocksOf b fs.length ad)) := HT.out.trans (Turned.of_below hb1)
      clear hb1 HLi HT
      obtain ⟨c0, c1, c2, c3⟩ := L1.out.cell j hlj
      obtain ⟨f0, f1⟩ := L1.out.soft j hlj
      rw [(lmkTo_pl k j hlt).1] at c2
      rw [(lmkTo_pl k j hlt).2] at c3
      have ob1 : blk (ad j).1.1 ≠ some b := (HS.out.own j hlt).1
      have ob2 : blk (ad j).2.1 ≠ some b := (HS.out.own j hlt).2
      go_wp2_with fail
      generalize h3 : (w1.setCell ⟨b, off + j * 4, none⟩ (.string (markT (lmk fs k j)))).setCell ⟨b, off + j * 4 + 1, none⟩ (.int .i64 (lmk fs k j + 1)) = w3
      have t3 : Turned w1 w3 (fun x => x = b) := by
        rw [← h3]
        exact (Turned.of_set (S := fun x => x = b) w1 _ _ rfl).trans (Turned.of_set _ _ _ rfl)
      have hpl : fps (lmkTo fs k j) j = fps fs j := by unfold fps; rw [lmkTo_at k j hlt, if_neg (by omega)]
      have htl : fts (lmkTo fs k j) j = fts fs j := by unfold fts; rw [lmkTo_at k j hlt, if_neg (by omega)]
      obtain ⟨p1, p2⟩ := L1.out.pts j hlj
      obtain ⟨q1, q2⟩ := L1.out.tags j hlj
      rw [hpl] at p1 p2
      rw [htl] at q1 q2
      have np : ∀ x, blk (ad j).1.1 = some x → ¬ x = b := fun x hx e => ob1 (e ▸ hx)
      have nt : ∀ x, blk (ad j).2.1 = some x → ¬ x = b := fun x hx e => ob2 (e ▸ hx)
      have P3 := Lib.hid (p1.turned t3 np)
      have P3s := Lib.hid (p2.turnedP p1 t3 np)
      have Q3 := Lib.hid (q1.turned t3 nt)
      have Q3s := Lib.hid (q2.turnedT q1 t3 nt)
      have c3' : w3.cell? ⟨b, off + j * 4 + 3, none⟩ = some (.slice (ad j).2.1 (fts fs j).length (ad j).2.2) := by
        rw [← h3, World.cell?_setCell_other _ _ _ _ (by simp), World.cell?_setCell_other _ _ _ _ (by simp)]
        exact c3
      have T3 : Hid (Turned w w3 (blocksOf b fs.length ad)) := T1.out.trans ⟨t3.os, t3.tape, t3.output, t3.size, fun x hx hn => t3.block x hx (fun e => hn (.inl e))⟩
      have H3 := Lib.hid h3
      clear h3 t3 p1 p2 q1 q2 hpl htl c0 c1 c2 c3 f0 f1 T1 np nt
      refine (markPtS_any _ _ _ _ _ P3.out P3s.out (by omega) (by omega) (by omega)).mono ?_
      rintro e w4 ⟨rfl, g1, g2, g3, g4⟩
      have Q4 : Hid (TagsAt w4 (ad j).2.1 (fts fs j)) := Q3.out.turned (S := fun x => blk (ad j).1.1 = some x) (Turned.of_grown g3 fun x hx => hx) fun x hx he => HS.out.two j hlt x he hx
      have Q4s : Hid (Soft w4 (ad j).2.1 (fts fs j).length) := Q3s.out.turnedT Q3.out (S := fun x => blk (ad j).1.1 = some x) (Turned.of_grown g3 fun x hx => hx) fun x hx he => HS.out.two j hlt x he hx
      replace c3' : w4.cell? ⟨b, off + j * 4 + 3, none⟩ = some (.slice (ad j).2.1 (fts fs j).length (ad j).2.2) := g3.cell c3' (fun e => ob1 e.symm)
      have T4 : Hid (Turned w w4 (blocksOf b fs.length ad)) := T3.out.trans (Turned.of_grown g3 fun x hx => .inr ⟨j, hlt, .inl hx⟩)
      have G1 := Lib.hid g1
      have G2 := Lib.hid g2
      have G3 := Lib.hid g3
      clear g1 g2 g3 g4 T3 Q3 Q3s P3 P3s
      go_wp2_with fail
      refine (markTagS_any _ _ _ _ _ Q4.out Q4s.out (by omega) (by omega) (by omega)).mono ?_
      rintro e w5 ⟨rfl, r1, r2, r3⟩
      have e2 : lmk fs k j + 1 + 1 = lmk fs k j + 2 := by omega
      rw [e2] at r1
      have G1' := G1.out
      rw [e2] at G1'
      have L5 : Hid (Lies w5 b off (lmkTo fs k (j + 1)) ad) := L1.out.step hlt HS.out H3.out.symm G1' G2.out G3.out r1 r2 r3
      have T5 : Hid (Turned w w5 (blocksOf b fs.length ad)) := T4.out.trans (Turned.of_grown r3 fun x hx => .inr ⟨j, hlt, .inr hx⟩)
      clear r1 r2 r3 c3' G1'
      go_wp2
      go_roundw
      case rel => exact ⟨j + 1, by omega, congrArg (Value.int .i64) (by show _ = lmk fs k j + 2 + 2 * ((fps fs j).length : Int) + 2 * ((fts fs j).length : Int); omega), by go_num, L5.out, T5.out⟩
      case measure => simp [intOf]; omega
    · obtain rfl : j = fs.length := by omega
      go_wp2
      go_ret
      exact ⟨rfl, HLi.out, HT.out⟩
end Go.Proofs.YtdfadpejddhbkaaGreat

namespace Go.Proofs.YtdfadpejddhbkaaGreat
set_option linter.unusedVariables false
open Go.ChangeShapes Go.WideShapes Go.ChangeAt Go.RowKit Go.Deep

/-- the blocks of a thing's parts -/
def inPart (p : Pl) (x : Nat) : Prop := blk p.1.1 = some x ∨ blk p.2.1 = some x

/-- a list that is being built -/
structure Built (w : World) (lo : Nat) (v : Value) (k : Nat) (fs : List Ft) (ad : Nat → Pl) : Prop where
  row : w.ownsRow lo 33 4 v k (flatF fs ad k)
  pts : ∀ i, i < k → PtsAt w (ad i).1.1 (fps fs i) ∧ Soft w (ad i).1.1 (fps fs i).length
  tags : ∀ i, i < k → TagsAt w (ad i).2.1 (fts fs i) ∧ Soft w (ad i).2.1 (fts fs i).length
  rng : ∀ i, i < k → ∀ x, inPart (ad i) x → lo ≤ x ∧ x < w.heap.size ∧ v.ownBlock ≠ some x
  two : ∀ i, i < k → Apart (ad i).1.1 (ad i).2.1
  far : ∀ i j, i < j → j < k → ∀ x, inPart (ad i) x → ¬ inPart (ad j) x

theorem built_none (w : World) (lo : Nat) (fs : List Ft) (ad : Nat → Pl) : Built w lo (.slice none 0 0) 0 fs ad :=
  ⟨World.ownsRow_nil _ _ _ _, fun _ h => absurd h (Nat.not_lt_zero _), fun _ h => absurd h (Nat.not_lt_zero _), fun _ h => absurd h (Nat.not_lt_zero _), fun _ h => absurd h (Nat.not_lt_zero _), fun _ _ _ h => absurd h (Nat.not_lt_zero _)⟩

theorem Built.below {w w' : World} {lo : Nat} {v : Value} {k : Nat} {fs : List Ft} {ad : Nat → Pl} (h : Built w lo v k fs ad) (hb : Below w.heap.size w w') : Built w' lo v k fs ad :=
  ⟨ownsRow_below h.row hb, fun i hi => ⟨(h.pts i hi).1.below hb, (h.pts i hi).2.below (h.pts i hi).1 hb⟩, fun i hi => ⟨(h.tags i hi).1.below hb, (h.tags i hi).2.belowT (h.tags i hi).1 hb⟩, fun i hi x hx => ⟨(h.rng i hi x hx).1, Nat.lt_of_lt_of_le (h.rng i hi x hx).2.1 hb.size, (h.rng i hi x hx).2.2⟩, h.two, h.far⟩

/-- one more thing, appended -/
theorem Built.step {wr w3 wb wa : World} {lo : Nat} {v : Value} {k : Nat} {fs : List Ft} {ad : Nat → Pl} {p : Pl} {gg cap' : Nat} (h : Built wr lo v k fs ad) (hlo : lo ≤ wr.heap.size) (hb : Below wr.heap.size wr w3) (h3 : Below w3.heap.size w3 wb) (hz : wb.heap.size = w3.heap.size + 1)
    (hp : PtsAt w3 p.1.1 (fps fs k)) (hps : Soft w3 p.1.1 (fps fs k).length) (hpf : Fresh wr w3 p.1.1) (ht : TagsAt w3 p.2.1 (fts fs k)) (hts : Soft w3 p.2.1 (fts fs k).length) (htf : Fresh wr w3 p.2.1) (hap : Apart p.1.1 p.2.1)
    (hrow : wa.ownsRow lo 33 4 (.slice (some ⟨gg, 0, none⟩) (k + 1) cap') (k + 1) (flatF fs ad k ++ cellsF (fg fs k) p)) (hg : wb.grownBy wa v.ownBlock) (hat : v.ownBlock = some gg ∨ gg = w3.heap.size + 1) :
    Built wa lo (.slice (some ⟨gg, 0, none⟩) (k + 1) cap') (k + 1) fs (plSet ad k p) := by
  have hbb : Below wr.heap.size wr wb := hb.trans (h3.mono hb.size)
  have hB := h.below hbb
  have hvl : ∀ x, v.ownBlock = some x → x < wr.heap.size := fun x hx => (h.row.lt x hx).2
  have ht' : Turned wb wa (fun x => v.ownBlock = some x) := Turned.of_grown hg fun x hx => hx
  have hwz := hg.size
  have hfr : ∀ x, inPart p x → wr.heap.size ≤ x ∧ x < w3.heap.size := fun x hx => hx.elim (hpf x) (htf x)
  have hs3 := hb.size
  have nv : ∀ x, inPart p x → ¬ v.ownBlock = some x := fun x hx e => by have h1 := (hfr x hx).1; have h2 := hvl x e; omega
  have gne : ∀ x, x < w3.heap.size → ¬ v.ownBlock = some x → gg ≠ x := fun x hx hn e => by
    rcases hat with h1 | h1
    · exact hn (by rw [h1, e])
    · omega
  have own' : ∀ x, (Value.slice (some ⟨gg, 0, none⟩) (k + 1) cap').ownBlock = some x → gg = x := fun x hx => by simpa [Value.ownBlock] using hx
  refine ⟨?_, fun i hi => ?_, fun i hi => ?_, fun i hi x hx => ?_, fun i hi => ?_, fun i j hij hj x hx hy => ?_⟩
  · rw [flatF_succ, flatF_set _ _ _ _ _ (Nat.le_refl _), plSet_at]
    exact hrow
  · by_cases e : i = k
    · subst e
      rw [plSet_at]
      have q := hp.below h3
      exact ⟨q.turned ht' fun x hx => nv x (.inl hx), (hps.below hp h3).turnedP q ht' fun x hx => nv x (.inl hx)⟩
    · rw [plSet_lt (by omega)]
      obtain ⟨q1, q2⟩ := hB.pts i (by omega)
      have n : ∀ x, blk (ad i).1.1 = some x → ¬ v.ownBlock = some x := fun x hx e => (h.rng i (by omega) x (.inl hx)).2.2 e
      exact ⟨q1.turned ht' n, q2.turnedP q1 ht' n⟩
  · by_cases e : i = k
    · subst e
      rw [plSet_at]
      have q := ht.below h3
      exact ⟨q.turned ht' fun x hx => nv x (.inr hx), (hts.belowT ht h3).turnedT q ht' fun x hx => nv x (.inr hx)⟩
    · rw [plSet_lt (by omega)]
      obtain ⟨q1, q2⟩ := hB.tags i (by omega)
      have n : ∀ x, blk (ad i).2.1 = some x → ¬ v.ownBlock = some x := fun x hx e => (h.rng i (by omega) x (.inr hx)).2.2 e
      exact ⟨q1.turned ht' n, q2.turnedT q1 ht' n⟩
  · by_cases e : i = k
    · subst e
      rw [plSet_at] at hx
      obtain ⟨q1, q2⟩ := hfr x hx
      exact ⟨by omega, by omega, fun e => gne x q2 (nv x hx) (own' x e)⟩
    · rw [plSet_lt (by omega)] at hx
      obtain ⟨q1, q2, q3⟩ := h.rng i (by omega) x hx
      exact ⟨q1, by omega, fun e => gne x (by omega) q3 (own' x e)⟩
  · by_cases e : i = k
    · subst e
      rw [plSet_at]
      exact hap
    · rw [plSet_lt (by omega)]
      exact h.two i (by omega)
  · rw [plSet_lt (by omega)] at hx
    by_cases e : j = k
    · subst e
      rw [plSet_at] at hy
      have h1 := (hfr x hy).1
      have h2 := (h.rng i (by omega) x hx).2.1
      omega
    · rw [plSet_lt (by omega)] at hy
      exact h.far i j hij (by omega) x hx hy

/-- a built list lies in memory of its own -/
theorem Built.lies {w : World} {lo b cap : Nat} {fs : List Ft} {ad : Nat → Pl} (h : Built w lo (.slice (some ⟨b, 0, none⟩) fs.length cap) fs.length fs ad) : Lies w b 0 fs ad ∧ Sep b fs.length ad ∧ (∀ x, blocksOf b fs.length ad x → lo ≤ x ∧ x < w.heap.size) := by
  obtain ⟨h1, ⟨h2, _⟩ | ⟨g, cap2, cur, e, hb, hg, hc, hm, hs, hx⟩⟩ := h.row
  · simp at h2
  · obtain ⟨rfl, rfl⟩ : b = g ∧ cap = cap2 := by simpa using e
    have hlt : b < w.heap.size := (Array.getElem?_eq_some_iff.1 hg).1
    have cell : ∀ j v, j < fs.length * 4 → (flatF fs ad fs.length)[j]? = some v → w.cell? ⟨b, 0 + j, none⟩ = some v := by
      intro j v hj hv
      rw [← hx, List.getElem?_take, if_pos hj] at hv
      simp only [World.cell?, hg, Option.isSome_none, Bool.false_eq_true, if_false, Nat.zero_add]
      simpa using hv
    refine ⟨⟨fun i hi => ?_, fun i hi => ?_, h.pts, h.tags, hlt⟩, ⟨fun i hi => ?_, h.two, fun i j hi hj hne => ?_⟩, ?_⟩
    · have f := fun o ho => flatF_at fs ad fs.length i o hi ho
      exact ⟨cell _ _ (by omega) (f 0 (by omega)), cell _ _ (by omega) (f 1 (by omega)), cell _ _ (by omega) (f 2 (by omega)), cell _ _ (by omega) (f 3 (by omega))⟩
    · constructor <;> simp [World.frozen?, hg]
    · exact ⟨fun e => (h.rng i hi b (.inl e)).2.2 rfl, fun e => (h.rng i hi b (.inr e)).2.2 rfl⟩
    · have key : ∀ x, inPart (ad i) x → ¬ inPart (ad j) x := by
        rcases Nat.lt_or_gt_of_ne hne with q | q
        · exact h.far i j q hj
        · exact fun x hx hy => h.far j i q hi x hy hx
      exact ⟨fun x hx hy => key x (.inl hx) (.inl hy), fun x hx hy => key x (.inl hx) (.inr hy), fun x hx hy => key x (.inr hx) (.inl hy), fun x hx hy => key x (.inr hx) (.inr hy)⟩
    · rintro x (rfl | ⟨i, hi, e⟩)
      · exact ⟨hb, hlt⟩
      · exact ⟨(h.rng i hi x e).1, (h.rng i hi x e).2.1⟩

end Go.Proofs.YtdfadpejddhbkaaGreat

namespace Go.Proofs.YtdfadpejddhbkaaGreat
end Go.Proofs.YtdfadpejddhbkaaGreat

namespace Go.Proofs.YtdfadpejddhbkaaGreat
set_option linter.unusedVariables false
open Go.ChangeShapes Go.WideShapes Go.ChangeAt Go.RowKit Go.Deep Go.Maps

/-- what a look-up of a name that is there gives -/
theorem look_heldF {w : World} {b n : Nat} {D : DataW Value} {us : List En} (hown : w.ownsMap Tryz.prog 9 heldElem b n D) (ht : TellsF D us) {i : Nat} (hi : i < us.length) (hl : (ek us i).size ≤ maxLen) :
    (Instr.lookup 81 (.map (some b)) (.string (ek us i)) false).run Tryz.prog w = .ok (ev us i) w := by
  have hz : (zeroValue 33).run Tryz.prog w = .ok (.agg #[.string .empty, .int .i64 0, .slice none 0 0, .slice none 0 0]) w := by kernel_rfl
  obtain ⟨v, ps, hrun, hv⟩ := hown.lookup keyT Tryz.underlying81 hz (zd := .held (.agg #[.string .empty, .int .i64 0, .slice none 0 0, .slice none 0 0])) (zp := []) rfl (Go.WideMaps.keyOf_string_mk Tryz.underlying9 hl)
  have hm : us[i] ∈ us := List.getElem_mem hi
  have e : (ek us i) = us[i].1 := by simp [ek, hi]
  have e2 : (ev us i) = us[i].2 := by simp [ev, hi]
  have h1 := ht.at_ us[i] hm (.held (.agg #[.string .empty, .int .i64 0, .slice none 0 0, .slice none 0 0]))
  rw [e] at hv
  rw [show (DataW.atKey D (.string us[i].1.data.toList) (.held (.agg #[.string .empty, .int .i64 0, .slice none 0 0, .slice none 0 0]))) = .held (entV us[i]) from h1] at hv
  simp only [heldElem, Option.some.injEq, Prod.mk.injEq] at hv
  have h3 := DataW.held.inj hv.1
  rw [hrun, h3, e2]
  rfl

theorem Built.mono {w : World} {lo lo' : Nat} {v : Value} {k : Nat} {fs : List Ft} {ad : Nat → Pl} (h : Built w lo v k fs ad) (hl : lo' ≤ lo) : Built w lo' v k fs ad :=
  ⟨ownsRow_base h.row hl, h.pts, h.tags, fun i hi x hx => ⟨Nat.le_trans hl (h.rng i hi x hx).1, (h.rng i hi x hx).2⟩, h.two, h.far⟩

set_option maxRecDepth 100000 in
set_option maxHeartbeats 4000000 in
theorem featsInOrder_any (b n : Nat) (D : DataW Value) (us : List En) (gs : List Ft) (w : World) (hown : w.ownsMap Tryz.prog 9 heldElem b n D) (ht : TellsF D us) (he : Ents w us gs) (hn : n ≤ 1048577) (hL : FeatsLen gs 1048576) :
    Calls Tryz.prog 57 #[.map (some b)] w fun e w' => (∃ v ad, e = .returned v ∧ Built w' w.heap.size v gs.length gs ad) ∧ gs.length ≤ n ∧ Below w.heap.size w w' := by
  obtain ⟨i0, hi, hz0, hz1, hz2⟩ := info_parts infoF
  have HI := Lib.hid hi
  have HZ0 := Lib.hid hz0
  have HZ1 := Lib.hid hz1
  have HZ2 := Lib.hid hz2
  have HO := Lib.hid hown
  have HT := Lib.hid ht
  have HE := Lib.hid he
  have HL := Lib.hid hL
  have hlen := he.1
  clear hi hz0 hz1 hz2 hown ht he hL
  go_enter Tryz.func57, Tryz.ntmps57
  go_wp2_with fail
  refine (namesInOrder_any b n D us _ HO.out HT.out hn).mono ?_
  rintro e w1 ⟨⟨v1, rfl, hr1⟩, hl1, hb1⟩
  generalize hys : us.map (·.1) = ys at hr1
  have hyl : us.length = ys.length := by rw [← hys, List.length_map]
  have HY : Hid (∀ i, i < gs.length → sx ys i = ek us i) := fun i hi => by
    rw [← hys]
    simp [sx, ek, show i < us.length by omega]
  clear hys
  obtain ⟨a1, cap1, rfl, h1, _⟩ := owned_strs hr1 hyl
  have H1 := Lib.hid h1
  have B1 := Lib.hid hb1
  have O1 := Lib.hid (ownsMap_below HO.out hb1)
  have hsz1 := hb1.size
  clear hr1 h1 hb1 HO
  have hyg : ys.length = gs.length := by omega
  rw [hyg]
  go_wp2
  go_loopw [3, 5, 9] (fun s _ i wr => ∃ (k : Nat) (v : Value) (ad : Nat → Pl), k ≤ gs.length ∧ i = .int .i64 k ∧ v = s ∧ Built wr w1.heap.size v k gs ad ∧ Below w1.heap.size w1 wr) (fun _ _ i _ => gs.length - (intOf i).toNat)
  case atStart => exact ⟨0, _, fun _ => ((none, 0), (none, 0)), Nat.zero_le _, rfl, rfl, built_none _ _ _ _, Below.refl _ _⟩
  case round =>
    obtain ⟨k, v, ad, hk, rfl, rfl, hbu, hbel⟩ := hrel
    have hsz := hbel.size
    have HBu := Lib.hid hbu
    have HB := Lib.hid hbel
    have BW : Hid (Below w.heap.size w wr) := B1.out.trans (hbel.mono hsz1)
    by_cases hlt : k < gs.length
    · obtain ⟨g, off, rfl, hg, hc⟩ := H1.out k (by omega)
      rw [← hbel.cell (p := ⟨g, _, none⟩) hg, HY.out k hlt] at hc
      obtain ⟨l1, l2, l3, _⟩ := HL.out k hlt
      have hek := (HE.out.2 k hlt).1
      have hlk := look_heldF (ownsMap_below O1.out hbel) HT.out (i := k) (by omega) (by rw [hek]; unfold maxLen; omega)
      obtain ⟨pa, pc, ta, tc, hev, hpp, htt⟩ := (HE.out.2 k hlt).2
      rw [hev] at hlk
      have D1 := Lib.hid (hpp.below BW.out)
      have D2 := Lib.hid (htt.below BW.out)
      have hvb : ∀ j, v.ownBlock = some j → w1.heap.size ≤ j ∧ j < wr.heap.size := fun j hj => hbu.row.lt j hj
      have HV := Lib.hid hvb
      clear hbu hbel hpp htt hev hek hvb
      go_wp2_with fail
      refine (featCopy_any _ _ _ _ _ _ _ _ _ D1.out D2.out (by show (fps gs k).length ≤ _; omega) (by show (fts gs k).length ≤ _; omega)).mono ?_
      rintro e w3 ⟨v3, rfl, hg3⟩
      have hb3 := hg3.got.2
      obtain ⟨qa, qc, sa, sc, rfl, q1, q2, q3, q4, q5, q6, q7, _⟩ := hg3
      have E1 := Lib.hid q1
      have E2 := Lib.hid q2
      have E3 := Lib.hid q3
      have E4 := Lib.hid q4
      have E5 := Lib.hid q5
      have E6 := Lib.hid q6
      have E7 := Lib.hid q7
      have B3 := Lib.hid hb3
      have R3 : Hid (w3.ownsRow w1.heap.size 33 4 v k (flatF gs ad k)) := ownsRow_below HBu.out.row hb3
      have hz3 := hb3.size
      have A3 : Hid (∀ o, Below w3.heap.size w3 (w3.alloc o)) := fun o => (Below.refl _ _).alloc (Nat.le_refl _) _
      clear hb3 q1 q2 q3 q4 q5 q6 q7 hlk hc
      go_wp2_with (at_builtin; refine wpList_append_lies _ (by rfl) _ _ _ (by rfl) w1.heap.size 33 i0 _ 4 72 Tryz.underlying23 HI.out HZ0.out HZ1.out HZ2.out rfl (by omega) v k (flatF gs ad k) (by rfl) (R3.out.alloc _) ⟨w3.heap.size, 0, none⟩ 1 1 (cellsF (fg gs k) ((qa, qc), (sa, sc))) (by rfl) (by rfl) (World.news_of_block (cs := #[.string (fg gs k).1, .int .i64 (fg gs k).2.1, .slice qa (fg gs k).2.2.1.length qc, .slice sa (fg gs k).2.2.2.length sc]) (t := 33) (fr := (0, 0)) (heap_alloc_new w3 _)) (by simp [Value.oneCell', cellsF]) (by omega) (by unfold maxLen; omega) (by omega) (by simp; omega) (w3.heap.size + 1) (by simp) ?_; intro gg cap' wa hown1 hgrow hat hlt')
      have HS : Hid (Built wa w1.heap.size (.slice (some ⟨gg, 0, none⟩) (k + 1) cap') (k + 1) gs (plSet ad k ((qa, qc), (sa, sc)))) := HBu.out.step hsz B3.out (A3.out _) (by simp) E1.out E2.out E3.out E4.out E5.out E6.out E7.out hown1 hgrow hat
      have HG := Lib.hid hgrow
      clear hown1 hgrow hat
      go_roundw
      case rel => exact ⟨k + 1, _, _, by omega, by go_num, rfl, HS.out, (HB.out.trans ((B3.out.alloc (by omega) _).mono hsz)).grown HG.out (by simp; omega) (fun j hj => (HV.out j hj).1)⟩
      case measure => simp [intOf]; omega
    · obtain rfl : k = gs.length := by omega
      clear hbu hbel
      go_wp2
      go_ret
      exact ⟨⟨v, ad, rfl, HBu.out.mono hsz1⟩, by omega, BW.out⟩
end Go.Proofs.YtdfadpejddhbkaaGreat

namespace Go.Proofs.YtdfadpejddhbkaaGreat
set_option linter.unusedVariables false
open Go.ChangeShapes Go.WideShapes Go.ChangeAt Go.RowKit Go.Deep Go.Maps

/-- the things of other names -/
def cutL (fs : List Ft) (id : ByteArray) : List Ft := fs.filter (fun f => decide (f.1 ≠ id))
/-- what a map without a name is -/
def cutR (fs : List Ft) (id : ByteArray) : List Ft := if getHas fs id then cutL fs id else []

theorem ents_cons {w : World} {e : En} {es : List En} {f : Ft} {fs : List Ft} : Ents w (e :: es) (f :: fs) ↔ (e.1 = f.1 ∧ FeatV w e.2 f) ∧ Ents w es fs := by
  constructor
  · rintro ⟨h1, h2⟩
    refine ⟨?_, by simpa using h1, fun i hi => ?_⟩
    · have := h2 0 (by simp)
      simpa [ek, ev, fid, fg] using this
    · have := h2 (i + 1) (by simpa using hi)
      simpa [ek, ev, fid, fg] using this
  · rintro ⟨h0, h1, h2⟩
    refine ⟨by simpa using h1, fun i hi => ?_⟩
    cases i with
    | zero => simpa [ek, ev, fid, fg] using h0
    | succ i =>
      have := h2 i (by simpa using hi)
      simpa [ek, ev, fid, fg] using this

theorem ents_cut {w : World} (id : ByteArray) : ∀ {es : List En} {fs : List Ft}, Ents w es fs → Ents w (cutF es id.data.toList) (cutL fs id)
  | [], [], h => h
  | [], f :: fs, h => absurd h.1 (by simp)
  | e :: es, [], h => absurd h.1 (by simp)
  | e :: es, f :: fs, h => by
    obtain ⟨⟨h1, h2⟩, h3⟩ := ents_cons.1 h
    have ih := ents_cut id h3
    have he : (klF e ≠ id.data.toList) ↔ f.1 ≠ id := by
      unfold klF
      rw [h1]
      constructor
      · intro h e
        exact h (by rw [e])
      · intro h e
        refine h ?_
        rw [← toList_inj, ByteArray.toList_eq, ByteArray.toList_eq]
        exact e
    unfold cutF cutL at ih ⊢
    by_cases hf : f.1 ≠ id
    · rw [List.filter_cons_of_pos (by simpa using he.2 hf), List.filter_cons_of_pos (by simpa using hf)]
      exact ents_cons.2 ⟨⟨h1, h2⟩, ih⟩
    · rw [List.filter_cons_of_neg (by simpa using fun h => hf (he.1 h)), List.filter_cons_of_neg (by simpa using hf)]
      exact ih

theorem cutL_lens {fs : List Ft} {m : Int} (id : ByteArray) (h : FeatsLen fs m) : FeatsLen (cutL fs id) m := featsLen_iff.2 fun f hf => featsLen_iff.1 h f ((List.mem_filter.1 hf).1)
theorem cutL_len (fs : List Ft) (id : ByteArray) : (cutL fs id).length ≤ fs.length := List.length_filter_le _ _

/-- what a function answers that makes a list of things, and says whether -/
def ListAns (w : World) (gs : List Ft) (b : Bool) (e : Ending) (w' : World) : Prop :=
  (∃ v ad, e = .returned (.tuple #[v, .bool b]) ∧ Built w' w.heap.size v gs.length gs ad) ∧ Below w.heap.size w w'

set_option maxRecDepth 100000 in
set_option maxHeartbeats 4000000 in
theorem implSheetCut_any (a : Option Addr) (cap : Nat) (fs : List Ft) (id : ByteArray) (w : World) (hp : FeatsAt w a fs) (hl : fs.length ≤ 1048576) (ht : FeatsLen fs 1048576) (hi : id.size ≤ 1048576) :
    Calls Tryz.prog 15 #[.slice a fs.length cap, .string id] w (ListAns w (cutR fs id) (getHas fs id)) := by
  have HP := Lib.hid hp
  have HL := Lib.hid ht
  clear hp ht
  go_enter Tryz.func15, Tryz.ntmps15
  go_wp2_with fail
  refine (implSheetOk_any _ _ _ _ HP.out hl HL.out).mono ?_
  rintro e w1 ⟨rfl, hb1⟩
  have B1 := Lib.hid hb1
  clear hb1
  by_cases hok : sheetOk fs = true
  · rw [hok]
    go_wp2_with fail
    refine (featsByName_any _ _ _ _ (HP.out.below B1.out) hl HL.out).mono ?_
    rintro e w2 ⟨rfl, ⟨es, he, ho⟩, hb2⟩
    have B2 : Hid (Below w.heap.size w w2) := B1.out.trans (hb2.mono B1.out.size)
    have HE := Lib.hid (he.below hb2)
    have HE1 := Lib.hid he
    have BB2 := Lib.hid hb2
    have hsz2 := hb2.size
    have hsz1 := B1.out.size
    have holt := ho.lt
    clear hb2
    by_cases hlt : firstF fs id < fs.length
    · have hat := firstF_at hlt
      have HH : Hid (getHas fs id = true) := by show _ = _; simp [getHas, hok, hlt]
      have HG : Hid (cutR fs id = cutL fs id) := by show _ = _; unfold cutR; rw [HH.out, if_pos rfl]
      obtain ⟨l1, l2, l3, _⟩ := HL.out (firstF fs id) hlt
      have hlk := look_hit ho he hok hlt (by unfold maxLen; omega)
      rw [hat] at hlk
      obtain ⟨pa, pc, ta, tc, hev, _⟩ := (HE.out.2 _ hlt).2
      rw [hev] at hlk
      have TL := Lib.hid (ok_tells he hok)
      have hkey : keyOf Tryz.prog 9 (.string id) = some (.string id.data.toList) := Go.WideMaps.keyOf_string_mk Tryz.underlying9 (by unfold maxLen; omega)
      clear he hok hev
      go_wp2_with (at_delete; refine wpList_delete_own _ rfl _ _ 81 9 rfl 33 keyT Tryz.underlying81 _ w1.heap.size fs.length (mapF es) rfl (ho.alloc _) _ _ rfl hkey ?_; intro w4 hown4 hturn4)
      have B4 : Hid (Below w1.heap.size w1 w4) := (BB2.out.alloc hsz2 _).grown hturn4.grown (by simp; omega) (fun j e => by obtain rfl : w1.heap.size = j := (by simpa using e); exact Nat.le_refl _)
      have O4 := Lib.hid hown4
      clear hown4 hturn4 ho hlk
      go_wp2_with fail
      refine (featsInOrder_any w1.heap.size _ _ (cutF es id.data.toList) (cutL fs id) _ O4.out (TL.out.cut _) (ents_cut id (HE1.out.below B4.out)) (by omega) (cutL_lens id HL.out)).mono ?_
      rintro e w5 ⟨⟨v, ad, rfl, hbu⟩, hl5, hb5⟩
      have B5 : Hid (Below w.heap.size w w5) := (B1.out.trans (B4.out.mono hsz1)).trans (hb5.mono (Nat.le_trans hsz1 B4.out.size))
      have HBu : Hid (Built w5 w.heap.size v (cutL fs id).length (cutL fs id) ad) := hbu.mono (Nat.le_trans hsz1 B4.out.size)
      clear hbu hb5
      go_wp2
      go_ret2
      rw [HH.out, HG.out]
      exact ⟨⟨v, ad, rfl, HBu.out⟩, B5.out⟩
    · have HH : Hid (getHas fs id = false) := by show _ = _; simp [getHas, hlt]
      have HG : Hid (cutR fs id = []) := by show _ = _; unfold cutR; rw [HH.out]; rfl
      have hlk := look_miss ho he (firstF_none hlt) (by unfold maxLen; omega)
      rw [show (ByteArray.empty) = ⟨#[]⟩ from rfl] at hlk
      clear ho he hok hlt
      go_wp2
      go_ret2
      rw [HH.out, HG.out]
      exact ⟨⟨_, fun _ => ((none, 0), (none, 0)), rfl, built_none _ _ _ _⟩, B2.out.alloc B2.out.size _⟩
  · have hok' : sheetOk fs = false := by simpa using hok
    have HH : Hid (getHas fs id = false) := by show _ = _; simp [getHas, hok']
    have HG : Hid (cutR fs id = []) := by show _ = _; unfold cutR; rw [HH.out]; rfl
    rw [hok']
    clear hok hok'
    go_wp2
    go_ret2
    rw [HH.out, HG.out]
    exact ⟨⟨_, fun _ => ((none, 0), (none, 0)), rfl, built_none _ _ _ _⟩, B1.out⟩
end Go.Proofs.YtdfadpejddhbkaaGreat
