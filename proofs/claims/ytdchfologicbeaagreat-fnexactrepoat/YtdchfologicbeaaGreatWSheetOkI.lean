/- Proved here: the program's way of asking whether things are a map, by a map told in order, answers as the plain definition 'sheetOk' says; lists of at most 1,048,576 things, points and tags, texts of at most 1,048,576 bytes. -/
import Derived.Test.YtdchfologicbeaaGreatWSheetOk
import Derived.Test.YtdchfologicbeaaGreatWStrEq
namespace Go.Proofs.YtdchfologicbeaaGreat
set_option linter.unusedVariables false
open Go.ChangeShapes Go.WideShapes Go.ChangeAt Go.RowKit Go.Maps

theorem infoStr : (Tryz.prog.info? 9).map (fun i => (i.zero, i.size, i.bytes)) = some (some (.string .empty), 1, 16) := by kernel_rfl

theorem ownsRow_later {w w' : World} {base : Nat} {e : TypeId} {sz : Nat} {v : Value} {n : Nat} {xs : List Value} (h : w.ownsRow base e sz v n xs) (hb : Below w.heap.size w w') : w'.ownsRow base e sz v n xs := by
  obtain ⟨h1, h2 | ⟨g, cap, cur, h3, h4, hg, h5⟩⟩ := h
  · exact ⟨h1, .inl h2⟩
  · exact ⟨h1, .inr ⟨g, cap, cur, h3, h4, (hb.block g (Array.getElem?_eq_some_iff.1 hg).1).trans hg, h5⟩⟩

/-- the names of things -/
def namesOf (fs : List Ft) : List ByteArray := fs.map (·.1)

theorem namesOf_len (fs : List Ft) : (namesOf fs).length = fs.length := by simp [namesOf]
theorem namesOf_at {fs : List Ft} {i : Nat} (h : i < fs.length) : sx (namesOf fs) i = fid fs i := by simp [sx, namesOf, fid, fg, h]

theorem names_step {fs : List Ft} {k : Nat} (h : k < fs.length) : ((namesOf fs).take (k + 1)).map Value.string = ((namesOf fs).take k).map Value.string ++ [.string (fid fs k)] := by
  have h1 : k < (namesOf fs).length := by rw [namesOf_len]; exact h
  rw [List.take_succ_eq_append_getElem h1, List.map_append]
  congr 1
  have := namesOf_at h
  simp only [sx, List.getD_eq_getElem?_getD, List.getElem?_eq_getElem h1, Option.getD_some] at this
  rw [this]
  rfl

theorem ents_names {w : World} {es : List En} {fs : List Ft} (h : Ents w es fs) : es.map (·.1) = namesOf fs := by
  refine List.ext_getElem (by simp [namesOf, h.1]) fun i h1 h2 => ?_
  have hi : i < fs.length := by simpa [namesOf] using h2
  have := (h.2 i hi).1
  have h3 := namesOf_at hi
  simp only [sx, List.getD_eq_getElem?_getD, List.getElem?_eq_getElem h2, Option.getD_some] at h3
  rw [h3, ← this]
  simp [ek, h.1, hi]

theorem kl_get {es : List En} {fs : List Ft} {w : World} (h : Ents w es fs) {i : Nat} (hi : i < es.length) : klF es[i] = fb fs i := by
  have := (h.2 i (by rw [← h.1]; exact hi)).1
  unfold fb
  rw [← this]
  simp [klF, ek, hi]

theorem ascF_of_good {w : World} {es : List En} {fs : List Ft} (he : Ents w es fs) (h : featsGood fs = true) : AscF es := by
  have step : ∀ j, j + 1 < fs.length → fb fs j < fb fs (j + 1) := fun j hj => by
    have := featsGood_at h hj
    simp [featGood] at this
    exact this.2
  have all : ∀ d i, i + d + 1 < fs.length → fb fs i < fb fs (i + d + 1) := by
    intro d
    induction d with
    | zero => exact fun i hi => step i hi
    | succ d ih => exact fun i hi => List.lt_trans (ih i (by omega)) (step _ hi)
  have hl := he.1
  refine List.pairwise_iff_getElem.2 fun i j hi hj hij => ?_
  rw [kl_get he hi, kl_get he hj]
  have := all (j - i - 1) i (by omega)
  rwa [show i + (j - i - 1) + 1 = j by omega] at this

theorem good_of_ascF {w : World} {es : List En} {fs : List Ft} (he : Ents w es fs) (hw : ∀ j, j < fs.length → ftOk fs j = true) (h : AscF es) : featsGood fs = true := by
  have hl := he.1
  refine featsGood_of fun j hj => ?_
  by_cases h0 : 0 < j
  · have := List.pairwise_iff_getElem.1 h (j - 1) j (by omega) (by omega) (by omega)
    rw [kl_get he, kl_get he] at this
    have hn : ¬ fb fs j ≤ fb fs (j - 1) := fun hle => hle this
    simp [featGood, hw j hj, hn]
  · simp [featGood, hw j hj, h0]

theorem asc_names {es fs' : List En} (h : AscF fs') (e : es.map (·.1) = fs'.map (·.1)) : AscF es := by
  have h1 : (fs'.map (·.1)).Pairwise (fun p q => p.data.toList < q.data.toList) := List.pairwise_map.2 (h.imp fun {p q} (h : klF p < klF q) => h)
  rw [← e] at h1
  exact (List.pairwise_map.1 h1).imp fun {p q} h => h

theorem told_goodF {w : World} {es : List En} {fs : List Ft} (he : Ents w es fs) (hw : ∀ j, j < fs.length → ftOk fs j = true) : ssEq (namesOf fs) ((toldF es).map (·.1)) = featsGood fs := by
  rw [← ents_names he]
  by_cases h : AscF es
  · rw [good_of_ascF he hw h, toldF_asc h]
    simp [ssEq]
  · have h1 : featsGood fs = false := by
      cases h2 : featsGood fs
      · rfl
      · exact absurd (ascF_of_good he h2) h
    rw [h1]
    unfold ssEq
    exact decide_eq_false fun e => h (asc_names (ascF_told es) e)

set_option maxRecDepth 100000 in
set_option maxHeartbeats 4000000 in
theorem implSheetOk_any (a : Option Addr) (cap : Nat) (fs : List Ft) (w : World) (hp : FeatsAt w a fs) (hl : fs.length ≤ 1048576) (ht : FeatsLen fs 1048576) :
    Calls Tryz.prog 110 #[.slice a fs.length cap] w fun e w' => e = .returned (.bool (sheetOk fs)) ∧ Below w.heap.size w w' := by
  obtain ⟨i0, hi, hz0, hz1, hz2⟩ := info_parts infoStr
  have HI := Lib.hid hi
  have HZ0 := Lib.hid hz0
  have HZ1 := Lib.hid hz1
  have HZ2 := Lib.hid hz2
  have HP := Lib.hid hp
  have HL := Lib.hid ht
  clear hp ht hi hz0 hz1 hz2
  by_cases h8 : fs.length ≤ 8
  · go_enter Tryz.func110, Tryz.ntmps110
    go_wp2
    go_loopw [3, 5, 11] (fun s _ i wr => ∃ (k : Nat) (v : Value), k ≤ fs.length ∧ i = .int .i64 k ∧ v = s ∧ wr.ownsRow w.heap.size 9 1 v k (((namesOf fs).take k).map Value.string) ∧ Below w.heap.size w wr ∧ ∀ j, j < k → ftOk fs j = true) (fun _ _ i _ => fs.length - (intOf i).toNat)
    case atStart => exact ⟨0, _, Nat.zero_le _, rfl, rfl, by simpa using World.ownsRow_nil _ _ _ _, Below.refl _ _, fun j h => absurd h (Nat.not_lt_zero _)⟩
    case round =>
      obtain ⟨k, v, hk, rfl, rfl, hown, hbel, hall⟩ := hrel
      have HA := Lib.hid hall
      have HB := Lib.hid hbel
      have HW := Lib.hid hown
      have hsz := hbel.size
      clear hall hown
      by_cases hlt : k < fs.length
      · obtain ⟨b, off, pa, pc, ta, tc, rfl, hb, hc1, hc2, hc3, hc4, hpp, htt⟩ := HP.out k hlt
        obtain ⟨l1, l2, l3, l4⟩ := HL.out k hlt
        rw [← hbel.cell (p := ⟨b, _, none⟩) hb] at hc1 hc2 hc3 hc4
        have D1 := Lib.hid (hpp.below hbel)
        have D2 := Lib.hid (htt.below hbel)
        have L4 := Lib.hid l4
        have zb : b < wr.heap.size := by omega
        clear hbel hpp htt l4
        have A0 : Hid (∀ o, Below wr.heap.size wr (wr.alloc o)) := fun o => (Below.refl _ _).alloc (Nat.le_refl _) _
        go_wp2_with fail
        clear hc1 hc2 hc3 hc4
        refine (implFeatOk_any _ _ _ _ _ _ _ _ _ (D1.out.below (A0.out _)) (D2.out.below (A0.out _)) (by omega) (by omega) (by omega) L4.out).mono ?_
        rintro e w1 ⟨rfl, hb1⟩
        have c0 := cell_later hb1 (a := ⟨wr.heap.size, 0, none⟩) (v := .string (fid fs k)) (by simp [go_sem])
        have B1 : Hid (Below wr.heap.size wr w1) := (A0.out _).trans (hb1.mono (by simp))
        have z1 : wr.heap.size < w1.heap.size := by have := hb1.size; simp at this; omega
        clear hb1 A0 D1 D2
        rw [show featOk (fid fs k) (fkd fs k) (fps fs k) (fts fs k) = ftOk fs k from rfl]
        by_cases hx : ftOk fs k = true
        · rw [hx]
          have HW1 : Hid (w1.ownsRow w.heap.size 9 1 v k (((namesOf fs).take k).map Value.string)) := ownsRow_later HW.out B1.out
          have HV : Hid (∀ j, v.ownBlock = some j → w.heap.size ≤ j) := fun j hj => (HW.out.lt j hj).1
          go_wp2_with (at_builtin; refine wpList_append_lies _ (by rfl) _ _ _ (by rfl) w.heap.size 9 i0 _ 1 16 Tryz.underlying44 HI.out HZ0.out HZ1.out HZ2.out rfl (by omega) v k (((namesOf fs).take k).map Value.string) (by rfl) (HW1.out.alloc _) ⟨w1.heap.size, 0, none⟩ 1 1 [.string (fid fs k)] (by rfl) (by rfl) (World.news_of_block (cs := #[.string (fid fs k)]) (t := 9) (fr := (0, 0)) (heap_alloc_new w1 _)) (by simp [Value.oneCell']) (by omega) (by unfold maxLen; omega) (by omega) (by simp; omega) (w1.heap.size + 1) (by simp) ?_; intro gg cap' wa hown1 hgrow hat hlt')
          rw [← names_step hlt] at hown1
          have HO := Lib.hid hown1
          have HG := Lib.hid hgrow
          clear hown1 hgrow hat c0
          go_roundw
          case rel => exact ⟨k + 1, _, by omega, by go_num, rfl, HO.out, (HB.out.trans ((B1.out.mono hsz).alloc (by omega) _)).grown HG.out (by simp; omega) (fun j hj => HV.out j hj), fun j hj => by by_cases e : j = k; (subst e; exact hx); exact HA.out j (by omega)⟩
          case measure => simp [intOf]; omega
        · have hx' : ftOk fs k = false := by simpa using hx
          rw [hx']
          have B2 : Hid (Below w.heap.size w w1) := HB.out.trans (B1.out.mono hsz)
          clear c0
          go_wp2
          go_ret
          exact ⟨by rw [sheetOk_not hlt (by simp [featGood, hx'])]; rfl, B2.out⟩
      · obtain rfl : k = fs.length := by omega
        have HO : Hid (wr.ownsRow w.heap.size 9 1 v fs.length ((namesOf fs).map Value.string)) := by
          have := HW.out
          rwa [List.take_of_length_le (by rw [namesOf_len]; omega)] at this
        clear hbel HW
        obtain ⟨an, cn, rfl, hn, _⟩ := owned_strs HO.out (namesOf_len fs).symm
        have HN := Lib.hid hn
        clear hn HO
        go_wp2_with fail
        refine (featsByName_any _ _ _ _ (HP.out.below HB.out) hl HL.out).mono ?_
        rintro e w1 ⟨rfl, ⟨es, he, ho⟩, hb1⟩
        have HE := Lib.hid he
        have HO := Lib.hid ho
        have B1 : Hid (Below w.heap.size w w1) := HB.out.trans (hb1.mono hsz)
        replace HN := Lib.hid (HN.out.below hb1)
        clear he ho hb1
        go_wp2_with fail
        refine (namesInOrder_any _ _ _ (toldF es) _ HO.out (tellsF_mapF es) (by omega)).mono ?_
        rintro e w2 ⟨⟨v2, rfl, hr2⟩, hl2, hb2⟩
        have B2 : Hid (Below w.heap.size w w2) := B1.out.trans (hb2.mono B1.out.size)
        replace HN := Lib.hid (HN.out.below hb2)
        generalize hys : (toldF es).map (·.1) = ys at hr2
        have hyl : (toldF es).length = ys.length := by rw [← hys, List.length_map]
        have HYS := Lib.hid hys
        clear hys
        obtain ⟨a2, cap2, rfl, h2, _⟩ := owned_strs hr2 hyl
        have H2 := Lib.hid h2
        clear hb2 hr2 h2 HO
        go_wp2_with fail
        refine (slicesEqualS_any _ _ _ _ _ _ _ HN.out H2.out (by rw [namesOf_len]; omega) (by omega)).mono ?_
        rintro e w3 ⟨rfl, n, rfl⟩
        have B3 : Hid (Below w.heap.size w (w2.drewN n)) := below_drewN B2.out n
        go_wp2
        go_ret
        exact ⟨by rw [← HYS.out, told_goodF HE.out HA.out]; simp [sheetOk, h8], B3.out⟩
  · go_enter Tryz.func110, Tryz.ntmps110
    go_wp2
    go_ret
    exact ⟨by simp [sheetOk, h8], Below.refl _ _⟩
end Go.Proofs.YtdchfologicbeaaGreat
