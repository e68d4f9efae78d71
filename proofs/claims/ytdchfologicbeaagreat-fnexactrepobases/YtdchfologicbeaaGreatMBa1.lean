/- Proved here: the program's way of asking whether things are a map, by a map told in order, answers as the plain definition 'sheetOk' says; lists of at most 1,048,576 things, points and tags, texts of at most 1,048,576 bytes. Proved here: the program asks for the place of a version as the plain definition says; lists of at most 1,048,576. Proved here: the program asks whether versions and branches are right just as the plain definition says; lists of at most 1,048,576. Proved here: the program asks whether versions and branches are right just as the plain definition says; lists of at most 1,048,576. Proved here: whether versions and branches are right, and the version of a branch, by the program and by the model; lists of at most 1,048,576. Proved here: a version and all that is ahead of it, by the program; rooms of at most 14 versions. Proved here: whether a version is ahead of another one, or it, by the program; rooms of at most 14 versions. Proved here: a version and all that is ahead of it, and whether one is ahead of another one, by the model; rooms of at most 14 versions. Proved here: plain facts on the last versions of some, and on what is ahead of them; no condition. -/
import Derived.Test.YtdchfologicbeaaGreatWSheetOk
import Derived.Test.YtdchfologicbeaaGreatWStrEq
import Derived.Test.YtdchfologicbeaaGreatWRepoOkS
import Derived.Deep.RegionHeld3
import Derived.Deep.DeepCutAuto
import Derived.Test.YtdchfologicbeaaGreatWPaint
import Derived.Test.YtdchfologicbeaaGreatWMarks
namespace Go.Proofs.YtdchfologicbeaaGreat
set_option linter.unusedVariables false
open Go.ChangeShapes Go.WideShapes Go.ChangeAt Go.RowKit Go.Maps

theorem infoStr : (Tryz.prog.info? 9).map (fun i => (i.zero, i.size, i.bytes)) = some (some (.string .empty), 1, 16) := by kernel_rfl

theorem ownsRow_later {w w' : World} {base : Nat} {e : TypeId} {sz : Nat} {v : Value} {n : Nat} {xs : List Value} (h : w.ownsRow base e sz v n xs) (hb : Below w.heap.size w w') : w'.ownsRow base e sz v n xs := by
  obtain ⟨h1, h2 | ⟨g, cap, cur, h3, h4, hg, h5⟩⟩ := h
  · exact ⟨h1, .inl h2⟩
  · exact ⟨h1, .inr ⟨g, cap, cur, h3, h4, (hb.block g (Array.getElem?_eq_some_iff.1 hg).1).trans hg, h5⟩⟩

/-- the names of things -/
def namesOf (fs : List Ft) : List ByteArray := fs.map (·.1)

theorem namesOf_len (fs : List Ft) : (namesOf fs).length = fs.length := by simp [namesOf]
theorem namesOf_at {fs : List Ft} {i : Nat} (h : i < fs.length) : sx (namesOf fs) i = fid fs i := by simp [sx, namesOf, fid, fg, h]

theorem names_step {fs : List Ft} {k : Nat} (h : k < fs.length) : ((namesOf fs).take (k + 1)).map Value.string = ((namesOf fs).take k).map Value.string ++ [.string (fid fs k)] := by
  have h1 : k < (namesOf fs).length := by rw [namesOf_len]; exact h
  rw [List.take_succ_eq_append_getElem h1, List.map_append]
  congr 1
  have := namesOf_at h
  simp only [sx, List.getD_eq_getElem?_getD, List.getElem?_eq_getElem h1, Option.getD_some] at this
  rw [this]
  rfl

theorem ents_names {w : World} {es : List En} {fs : List Ft} (h : Ents w es fs) : es.map (·.1) = namesOf fs := by
  refine List.ext_getElem (by simp [namesOf, h.1]) fun i h1 h2 => ?_
  have hi : i < fs.length := by simpa [namesOf] using h2
  have := (h.2 i hi).1
  have h3 := namesOf_at hi
  simp only [sx, List.getD_eq_getElem?_getD, List.getElem?_eq_getElem h2, Option.getD_some] at h3
  rw [h3, ← this]
  simp [ek, h.1, hi]

theorem kl_get {es : List En} {fs : List Ft} {w : World} (h : Ents w es fs) {i : Nat} (hi : i < es.length) : klF es[i] = fb fs i := by
  have := (h.2 i (by rw [← h.1]; exact hi)).1
  unfold fb
  rw [← this]
  simp [klF, ek, hi]

theorem ascF_of_good {w : World} {es : List En} {fs : List Ft} (he : Ents w es fs) (h : featsGood fs = true) : AscF es := by
  have step : ∀ j, j + 1 < fs.length → fb fs j < fb fs (j + 1) := fun j hj => by
    have := featsGood_at h hj
    simp [featGood] at this
    exact this.2
  have all : ∀ d i, i + d + 1 < fs.length → fb fs i < fb fs (i + d + 1) := by
    intro d
    induction d with
    | zero => exact fun i hi => step i hi
    | succ d ih => exact fun i hi => List.lt_trans (ih i (by omega)) (step _ hi)
  have hl := he.1
  refine List.pairwise_iff_getElem.2 fun i j hi hj hij => ?_
  rw [kl_get he hi, kl_get he hj]
  have := all (j - i - 1) i (by omega)
  rwa [show i + (j - i - 1) + 1 = j by omega] at this

theorem good_of_ascF {w : World} {es : List En} {fs : List Ft} (he : Ents w es fs) (hw : ∀ j, j < fs.length → ftOk fs j = true) (h : AscF es) : featsGood fs = true := by
  have hl := he.1
  refine featsGood_of fun j hj => ?_
  by_cases h0 : 0 < j
  · have := List.pairwise_iff_getElem.1 h (j - 1) j (by omega) (by omega) (by omega)
    rw [kl_get he, kl_get he] at this
    have hn : ¬ fb fs j ≤ fb fs (j - 1) := fun hle => hle this
    simp [featGood, hw j hj, hn]
  · simp [featGood, hw j hj, h0]

theorem asc_names {es fs' : List En} (h : AscF fs') (e : es.map (·.1) = fs'.map (·.1)) : AscF es := by
  have h1 : (fs'.map (·.1)).Pairwise (fun p q => p.data.toList < q.data.toList) := List.pairwise_map.2 (h.imp fun {p q} (h : klF p < klF q) => h)
  rw [← e] at h1
  exact (List.pairwise_map.1 h1).imp fun {p q} h => h

theorem told_goodF {w : World} {es : List En} {fs : List Ft} (he : Ents w es fs) (hw : ∀ j, j < fs.length → ftOk fs j = true) : ssEq (namesOf fs) ((toldF es).map (·.1)) = featsGood fs := by
  rw [← ents_names he]
  by_cases h : AscF es
  · rw [good_of_ascF he hw h, toldF_asc h]
    simp [ssEq]
  · have h1 : featsGood fs = false := by
      cases h2 : featsGood fs
      · rfl
      · exact absurd (ascF_of_good he h2) h
    rw [h1]
    unfold ssEq
    exact decide_eq_false fun e => h (asc_names (ascF_told es) e)

set_option maxRecDepth 100000 in
set_option maxHeartbeats 4000000 in
theorem implSheetOk_any (a : Option Addr) (cap : Nat) (fs : List Ft) (w : World) (hp : FeatsAt w a fs) (hl : fs.length ≤ 1048576) (ht : FeatsLen fs 1048576) :
    Calls Tryz.prog 110 #[.slice a fs.length cap] w fun e w' => e = .returned (.bool (sheetOk fs)) ∧ Below w.heap.size w w' := by
  obtain ⟨i0, hi, hz0, hz1, hz2⟩ := info_parts infoStr
  have HI := Lib.hid hi
  have HZ0 := Lib.hid hz0
  have HZ1 := Lib.hid hz1
  have HZ2 := Lib.hid hz2
  have HP := Lib.hid hp
  have HL := Lib.hid ht
  clear hp ht hi hz0 hz1 hz2
  by_cases h8 : fs.length ≤ 8
  · go_enter Tryz.func110, Tryz.ntmps110
    go_wp2
    go_loopw [3, 5, 11] (fun s _ i wr => ∃ (k : Nat) (v : Value), k ≤ fs.length ∧ i = .int .i64 k ∧ v = s ∧ wr.ownsRow w.heap.size 9 1 v k (((namesOf fs).take k).map Value.string) ∧ Below w.heap.size w wr ∧ ∀ j, j < k → ftOk fs j = true) (fun _ _ i _ => fs.length - (intOf i).toNat)
    case atStart => exact ⟨0, _, Nat.zero_le _, rfl, rfl, by simpa using World.ownsRow_nil _ _ _ _, Below.refl _ _, fun j h => absurd h (Nat.not_lt_zero _)⟩
    case round =>
      obtain ⟨k, v, hk, rfl, rfl, hown, hbel, hall⟩ := hrel
      have HA := Lib.hid hall
      have HB := Lib.hid hbel
      have HW := Lib.hid hown
      have hsz := hbel.size
      clear hall hown
      by_cases hlt : k < fs.length
      · obtain ⟨b, off, pa, pc, ta, tc, rfl, hb, hc1, hc2, hc3, hc4, hpp, htt⟩ := HP.out k hlt
        obtain ⟨l1, l2, l3, l4⟩ := HL.out k hlt
        rw [← hbel.cell (p := ⟨b, _, none⟩) hb] at hc1 hc2 hc3 hc4
        have D1 := Lib.hid (hpp.below hbel)
        have D2 := Lib.hid (htt.below hbel)
        have L4 := Lib.hid l4
        have zb : b < wr.heap.size := by omega
        clear hbel hpp htt l4
        have A0 : Hid (∀ o, Below wr.heap.size wr (wr.alloc o)) := fun o => (Below.refl _ _).alloc (Nat.le_refl _) _
        go_wp2_with fail
        clear hc1 hc2 hc3 hc4
        refine (implFeatOk_any _ _ _ _ _ _ _ _ _ (D1.out.below (A0.out _)) (D2.out.below (A0.out _)) (by omega) (by omega) (by omega) L4.out).mono ?_
        rintro e w1 ⟨rfl, hb1⟩
        have c0 := cell_later hb1 (a := ⟨wr.heap.size, 0, none⟩) (v := .string (fid fs k)) (by simp [go_sem])
        have B1 : Hid (Below wr.heap.size wr w1) := (A0.out _).trans (hb1.mono (by simp))
        have z1 : wr.heap.size < w1.heap.size := by have := hb1.size; simp at this; omega
        clear hb1 A0 D1 D2
        rw [show featOk (fid fs k) (fkd fs k) (fps fs k) (fts fs k) = ftOk fs k from rfl]
        by_cases hx : ftOk fs k = true
        · rw [hx]
          have HW1 : Hid (w1.ownsRow w.heap.size 9 1 v k (((namesOf fs).take k).map Value.string)) := ownsRow_later HW.out B1.out
          have HV : Hid (∀ j, v.ownBlock = some j → w.heap.size ≤ j) := fun j hj => (HW.out.lt j hj).1
          go_wp2_with (at_builtin; refine wpList_append_lies _ (by rfl) _ _ _ (by rfl) w.heap.size 9 i0 _ 1 16 Tryz.underlying44 HI.out HZ0.out HZ1.out HZ2.out rfl (by omega) v k (((namesOf fs).take k).map Value.string) (by rfl) (HW1.out.alloc _) ⟨w1.heap.size, 0, none⟩ 1 1 [.string (fid fs k)] (by rfl) (by rfl) (World.news_of_block (cs := #[.string (fid fs k)]) (t := 9) (fr := (0, 0)) (heap_alloc_new w1 _)) (by simp [Value.oneCell']) (by omega) (by unfold maxLen; omega) (by omega) (by simp; omega) (w1.heap.size + 1) (by simp) ?_; intro gg cap' wa hown1 hgrow hat hlt')
          rw [← names_step hlt] at hown1
          have HO := Lib.hid hown1
          have HG := Lib.hid hgrow
          clear hown1 hgrow hat c0
          go_roundw
          case rel => exact ⟨k + 1, _, by omega, by go_num, rfl, HO.out, (HB.out.trans ((B1.out.mono hsz).alloc (by omega) _)).grown HG.out (by simp; omega) (fun j hj => HV.out j hj), fun j hj => by by_cases e : j = k; (subst e; exact hx); exact HA.out j (by omega)⟩
          case measure => simp [intOf]; omega
        · have hx' : ftOk fs k = false := by simpa using hx
          rw [hx']
          have B2 : Hid (Below w.heap.size w w1) := HB.out.trans (B1.out.mono hsz)
          clear c0
          go_wp2
          go_ret
          exact ⟨by rw [sheetOk_not hlt (by simp [featGood, hx'])]; rfl, B2.out⟩
      · obtain rfl : k = fs.length := by omega
        have HO : Hid (wr.ownsRow w.heap.size 9 1 v fs.length ((namesOf fs).map Value.string)) := by
          have := HW.out
          rwa [List.take_of_length_le (by rw [namesOf_len]; omega)] at this
        clear hbel HW
        obtain ⟨an, cn, rfl, hn, _⟩ := owned_strs HO.out (namesOf_len fs).symm
        have HN := Lib.hid hn
        clear hn HO
        go_wp2_with fail
        refine (featsByName_any _ _ _ _ (HP.out.below HB.out) hl HL.out).mono ?_
        rintro e w1 ⟨rfl, ⟨es, he, ho⟩, hb1⟩
        have HE := Lib.hid he
        have HO := Lib.hid ho
        have B1 : Hid (Below w.heap.size w w1) := HB.out.trans (hb1.mono hsz)
        replace HN := Lib.hid (HN.out.below hb1)
        clear he ho hb1
        go_wp2_with fail
        refine (namesInOrder_any _ _ _ (toldF es) _ HO.out (tellsF_mapF es) (by omega)).mono ?_
        rintro e w2 ⟨⟨v2, rfl, hr2⟩, hl2, hb2⟩
        have B2 : Hid (Below w.heap.size w w2) := B1.out.trans (hb2.mono B1.out.size)
        replace HN := Lib.hid (HN.out.below hb2)
        generalize hys : (toldF es).map (·.1) = ys at hr2
        have hyl : (toldF es).length = ys.length := by rw [← hys, List.length_map]
        have HYS := Lib.hid hys
        clear hys
        obtain ⟨a2, cap2, rfl, h2, _⟩ := owned_strs hr2 hyl
        have H2 := Lib.hid h2
        clear hb2 hr2 h2 HO
        go_wp2_with fail
        refine (slicesEqualS_any _ _ _ _ _ _ _ HN.out H2.out (by rw [namesOf_len]; omega) (by omega)).mono ?_
        rintro e w3 ⟨rfl, n, rfl⟩
        have B3 : Hid (Below w.heap.size w (w2.drewN n)) := below_drewN B2.out n
        go_wp2
        go_ret
        exact ⟨by rw [← HYS.out, told_goodF HE.out HA.out]; simp [sheetOk, h8], B3.out⟩
  · go_enter Tryz.func110, Tryz.ntmps110
    go_wp2
    go_ret
    exact ⟨by simp [sheetOk, h8], Below.refl _ _⟩
end Go.Proofs.YtdchfologicbeaaGreat

namespace Go.Proofs.YtdchfologicbeaaGreat
set_option linter.unusedVariables false
open Go.ChangeShapes Go.WideShapes Go.ChangeAt Go.RowKit

theorem isPlace_any (x n : Int) (w : World) :
    Calls Tryz.prog 123 #[.int .i64 x, .int .i64 n] w fun e w' => e = .returned (.bool (decide (0 ≤ x ∧ x < n))) ∧ w' = w := by
  by_cases h1 : 0 ≤ x
  · by_cases h2 : x < n
    · go_enter Tryz.func123, Tryz.ntmps123
      go_wp2
      go_ret
      exact ⟨by simp [h1, h2], rfl⟩
    · go_enter Tryz.func123, Tryz.ntmps123
      go_wp2
      go_ret
      exact ⟨by simp [h2], rfl⟩
  · go_enter Tryz.func123, Tryz.ntmps123
    go_wp2
    go_ret
    exact ⟨by simp; omega, rfl⟩

set_option maxRecDepth 100000 in
set_option maxHeartbeats 4000000 in
theorem commitPlace1_any (cp d : Cm) (b : Nat) (ua' sa' : Option Addr) (uc' sc' : Nat) (ua sa : Option Addr) (uc sc : Nat) (w : World) (hb : b < w.heap.size)
    (hc : BK w b #[.slice ua cp.1.length uc, .slice sa cp.2.1.length sc, .string cp.2.2] 132) (hi : IntsAt w ua cp.1) (hf : FeatsAt w sa cp.2.1) (hi' : IntsAt w ua' d.1) (hf' : FeatsAt w sa' d.2.1) (hl : CmLen cp 1048576) (hl' : CmLen d 1048576) :
    Calls Tryz.prog 203 #[.agg #[.slice ua' d.1.length uc', .slice sa' d.2.1.length sc', .string d.2.2], .pointer (some ⟨b, 0, none⟩)] w fun e w' => e = .returned (.bool (cmEq cp d)) ∧ Below w.heap.size w w' := by
  have HI := Lib.hid hi
  have HF := Lib.hid hf
  have HI' := Lib.hid hi'
  have HF' := Lib.hid hf'
  have A1 : Hid (∀ o n, Below w.heap.size w ((w.alloc o).drewN n)) := fun o n => below_drewN ((Below.refl _ _).alloc (Nat.le_refl _) _) n
  have q0 := hc.cell 0 rfl
  have q1 := hc.cell 1 rfl
  have q2 := hc.cell 2 rfl
  clear hi hf hi' hf' hc
  go_enter Tryz.func203, Tryz.ntmps203
  go_wp2_with fail
  refine (commitSame_any _ _ _ _ _ _ _ _ _ _ _ (HI.out.below (A1.out _ 0)) (HF.out.below (A1.out _ 0)) (HI'.out.below (A1.out _ 0)) (HF'.out.below (A1.out _ 0)) hl hl').mono ?_
  rintro e w1 ⟨rfl, hb1⟩
  have B1 : Hid (Below w.heap.size w w1) := (A1.out _ 0).trans (hb1.mono (by simp))
  clear hb1 q0 q1 q2
  go_wp2
  go_ret
  exact ⟨rfl, B1.out⟩

set_option maxRecDepth 100000 in
set_option maxHeartbeats 4000000 in
theorem indexFuncC_any (a : Option Addr) (cap : Nat) (cs : List Cm) (c : Cm) (b : Nat) (ua sa : Option Addr) (uc sc : Nat) (w : World) (hb : b < w.heap.size)
    (hc : BK w b #[.slice ua c.1.length uc, .slice sa c.2.1.length sc, .string c.2.2] 132) (hi : IntsAt w ua c.1) (hf : FeatsAt w sa c.2.1) (hcs : CommitsAt w a cs) (hl : cs.length ≤ 1048576) (hL : CmsLen cs 1048576) (hcl : CmLen c 1048576) :
    Calls Tryz.prog 202 #[.slice a cs.length cap, .func (Fn.func 203) #[] #[.pointer (some ⟨b, 0, none⟩)]] w fun e w' => (∃ r, e = .returned (.int .i64 r) ∧ FirstCm cs c r) ∧ Below w.heap.size w w' := by
  have HC := Lib.hid hcs
  have HL := Lib.hid hL
  have HI := Lib.hid hi
  have HF := Lib.hid hf
  have HCL := Lib.hid hcl
  have HK := Lib.hid hc
  clear hcs hL hi hf hcl hc
  go_enter Tryz.func202, Tryz.ntmps202
  go_wp2
  go_loopw [5, 8] (fun _ i wr => ∃ k : Nat, k ≤ cs.length ∧ i = .int .i64 k ∧ Below w.heap.size w wr ∧ ∀ j, j < k → mg cs j ≠ c) (fun _ i _ => cs.length - (intOf i).toNat)
  case atStart => exact ⟨0, Nat.zero_le _, rfl, Below.refl _ _, fun j h => absurd h (Nat.not_lt_zero _)⟩
  case round =>
    obtain ⟨k, hk, rfl, hbel, hall⟩ := hrel
    have HA := Lib.hid hall
    have HB := Lib.hid hbel
    have hsz := hbel.size
    clear hall
    by_cases hlt : k < cs.length
    · obtain ⟨b', off, ua', uc', sa', sc', e', hx⟩ := HC.out k hlt
      obtain ⟨zb, c0, c1, c2, hii, hff⟩ := hx.below hbel
      have D1 := Lib.hid hii
      have D2 := Lib.hid hff
      clear hbel hii hff hx
      subst e'
      go_wp2_with fail
      clear c0 c1 c2
      refine (commitPlace1_any c (mg cs k) b _ _ _ _ _ _ _ _ _ (by omega) (HK.out.later HB.out) (HI.out.below HB.out) (HF.out.below HB.out) D1.out D2.out HCL.out (HL.out k hlt)).mono ?_
      rintro e w1 ⟨rfl, hb1⟩
      have B1 : Hid (Below w.heap.size w w1) := HB.out.trans (hb1.mono hsz)
      clear hb1
      by_cases h : c = mg cs k
      · rw [show cmEq c (mg cs k) = true from cmEq_iff.2 h]
        have HG : Hid (FirstCm cs c k) := .inr ⟨k, rfl, hlt, h.symm, HA.out⟩
        clear h
        go_wp2
        go_ret
        exact ⟨⟨_, rfl, HG.out⟩, B1.out⟩
      · rw [show cmEq c (mg cs k) = false from cmEq_no h]
        have HG := Lib.hid h
        clear h
        go_wp2
        go_roundw
        case rel => exact ⟨k + 1, by omega, by go_num, B1.out, fun j hj => by by_cases e : j = k; (subst e; exact fun h => HG.out h.symm); exact HA.out j (by omega)⟩
        case measure => simp [intOf]; omega
    · obtain rfl : k = cs.length := by omega
      clear hbel
      go_wp2
      go_ret
      exact ⟨⟨_, rfl, .inl ⟨rfl, HA.out⟩⟩, HB.out⟩

set_option maxRecDepth 100000 in
set_option maxHeartbeats 4000000 in
theorem commitPlace_any (a : Option Addr) (cap : Nat) (cs : List Cm) (c : Cm) (ua sa : Option Addr) (uc sc : Nat) (w : World)
    (hi : IntsAt w ua c.1) (hf : FeatsAt w sa c.2.1) (hcs : CommitsAt w a cs) (hl : cs.length ≤ 1048576) (hL : CmsLen cs 1048576) (hcl : CmLen c 1048576) :
    Calls Tryz.prog 168 #[.slice a cs.length cap, .agg #[.slice ua c.1.length uc, .slice sa c.2.1.length sc, .string c.2.2]] w fun e w' => (∃ r, e = .returned (.int .i64 r) ∧ FirstCm cs c r) ∧ Below w.heap.size w w' := by
  have HC := Lib.hid hcs
  have HI := Lib.hid hi
  have HF := Lib.hid hf
  have HL := Lib.hid hL
  have HCL := Lib.hid hcl
  clear hcs hi hf hL hcl
  have A1 : Hid (∀ o, Below w.heap.size w (w.alloc o)) := fun o => (Below.refl _ _).alloc (Nat.le_refl _) _
  go_enter Tryz.func168, Tryz.ntmps168
  go_wp2_with fail
  refine (indexFuncC_any _ _ cs c w.heap.size ua sa uc sc _ (by simp) (BK.new _ _ _) (HI.out.below (A1.out _)) (HF.out.below (A1.out _)) (HC.out.below (A1.out _)) hl HL.out HCL.out).mono ?_
  rintro e w1 ⟨⟨r, rfl, hr⟩, hb1⟩
  have B1 : Hid (Below w.heap.size w w1) := (A1.out _).trans (hb1.mono (by simp))
  have R := Lib.hid hr
  clear hb1 hr
  go_wp2
  go_ret
  exact ⟨⟨_, rfl, R.out⟩, B1.out⟩
end Go.Proofs.YtdchfologicbeaaGreat

namespace Go.Proofs.YtdchfologicbeaaGreat
set_option linter.unusedVariables false
open Go.ChangeShapes Go.WideShapes Go.ChangeAt Go.RowKit

theorem isPlace_is {x n : Int} {b : Bool} (h : decide (0 ≤ x ∧ x < n) = b) (w : World) :
    Calls Tryz.prog 123 #[.int .i64 x, .int .i64 n] w fun e w' => e = .returned (.bool b) ∧ w' = w := by
  subst h
  exact isPlace_any x n w

set_option maxRecDepth 100000 in
set_option maxHeartbeats 4000000 in
theorem upOk_any (a : Option Addr) (cap : Nat) (up : List Int) (k : Nat) (w : World) (hp : IntsAt w a up) (hl : up.length ≤ 1048576) (hk : k ≤ 1048576) :
    Calls Tryz.prog 167 #[.slice a up.length cap, .int .i64 k] w fun e w' => e = .returned (.bool (upB up k)) ∧ ∃ n, w' = w.drewN n := by
  have HP := Lib.hid hp
  clear hp
  have hcase : up.length = 0 ∨ up.length = 1 ∨ up.length = 2 ∨ 2 < up.length := by omega
  generalize hn : up.length = n at hcase ⊢
  have HN := Lib.hid hn
  rcases hcase with rfl | rfl | rfl | q
  · clear hn
    by_cases hz : k = 0
    · have HF : Hid (upB up k = true) := upB_true ⟨fun i hi => absurd hi (by have := HN.out; omega), by have := HN.out; omega, by have := HN.out; omega, fun h => absurd h (by have := HN.out; omega)⟩
      have e : ((k : Int) == 0) = true := by simp [hz]
      clear hz
      go_enter Tryz.func167, Tryz.ntmps167
      go_wp2
      go_ret
      exact ⟨by rw [HF.out]; rfl, 0, rfl⟩
    · have HF : Hid (upB up k = false) := upB_false fun h => by have := h.2.2.1.2 (by omega); have := HN.out; omega
      have e : ((k : Int) == 0) = false := by simp [hz]
      clear hz
      go_enter Tryz.func167, Tryz.ntmps167
      go_wp2
      go_ret
      exact ⟨by rw [HF.out]; rfl, 0, rfl⟩
  · obtain ⟨b, off, rfl, hb, c0⟩ := HP.out 0 (by omega)
    simp only [Nat.add_zero] at c0
    clear hn
    have HF : Hid (decide (0 ≤ ix up 0 ∧ ix up 0 < k) = upB up k) := by
      rw [Hid, Bool.eq_iff_iff, upB_iff, decide_eq_true_iff]
      have := HN.out
      exact ⟨fun h => ⟨fun i hi => by obtain rfl : i = 0 := by omega
                                      exact h, by omega, by omega, fun h => absurd h (by omega)⟩, fun h => h.1 0 (by omega)⟩
    go_enter Tryz.func167, Tryz.ntmps167
    go_wp2_with fail
    refine (isPlace_is HF.out _).mono ?_
    rintro e w1 ⟨rfl, rfl⟩
    go_wp2
    go_ret
    exact ⟨rfl, 0, rfl⟩
  · obtain ⟨b, off, rfl, hb, c0⟩ := HP.out 0 (by omega)
    obtain ⟨b', off', e, hb', c1⟩ := HP.out 1 (by omega)
    obtain ⟨rfl, rfl⟩ : b = b' ∧ off = off' := by simpa using e
    simp only [Nat.add_zero] at c0
    clear hn
    have HF : Hid (∀ p0 p1 p5 : Bool, decide (0 ≤ ix up 0 ∧ ix up 0 < k) = p0 → decide (0 ≤ ix up 1 ∧ ix up 1 < k) = p1 → (ix up 0 != ix up 1) = p5 → upB up k = (p5 && p0 && p1)) := by
      rintro p0 p1 p5 rfl rfl rfl
      rw [Bool.eq_iff_iff, upB_iff]
      have := HN.out
      simp only [Bool.and_eq_true, decide_eq_true_iff, bne_iff_ne, ne_eq]
      constructor
      · exact fun h => ⟨⟨h.2.2.2 this, h.1 0 (by omega)⟩, h.1 1 (by omega)⟩
      · rintro ⟨⟨h1, h2⟩, h3⟩
        exact ⟨fun i hi => by
          have hi' : i = 0 ∨ i = 1 := by omega
          rcases hi' with rfl | rfl
          · exact h2
          · exact h3, by omega, by omega, fun _ => h1⟩
    generalize e5 : (ix up 0 != ix up 1) = p5
    generalize e0 : decide (0 ≤ ix up 0 ∧ ix up 0 < (k : Int)) = p0
    generalize e1 : decide (0 ≤ ix up 1 ∧ ix up 1 < (k : Int)) = p1
    replace HF := Lib.hid (HF.out _ _ _ e0 e1 e5)
    generalize ix up 0 = x0 at e0 e5 c0
    generalize ix up 1 = x1 at e1 e5 c1
    cases p5
    · go_enter Tryz.func167, Tryz.ntmps167
      go_wp2
      go_quiet (fail)
      go_wp2
      go_ret
      exact ⟨by rw [HF.out]; rfl, _, rfl⟩
    · cases p0
      · go_enter Tryz.func167, Tryz.ntmps167
        go_wp2
        go_quiet ((go_at_call 123; exact (isPlace_is e0 _).mono fun _ _ h => ⟨h.1, _, h.2⟩))
        go_wp2
        go_ret
        exact ⟨by rw [HF.out]; rfl, _, rfl⟩
      · go_enter Tryz.func167, Tryz.ntmps167
        go_wp2
        go_quiet ((go_at_call 123; first | (with_reducible exact (isPlace_is e0 _).mono fun _ _ h => ⟨h.1, _, h.2⟩) | (with_reducible exact (isPlace_is e1 _).mono fun _ _ h => ⟨h.1, _, h.2⟩)))
        go_wp2
        go_ret
        exact ⟨by rw [HF.out]; rfl, _, rfl⟩
  · clear hn
    have HF : Hid (upB up k = false) := upB_false fun h => by have := h.2.1; have := HN.out; omega
    have b0 : ((n : Int) == 0) = false := by simp; omega
    have b1 : ((n : Int) == 1) = false := by simp; omega
    have b2 : ((n : Int) == 2) = false := by simp; omega
    clear q
    go_enter Tryz.func167, Tryz.ntmps167
    go_wp2
    go_ret
    exact ⟨by rw [HF.out]; rfl, 0, rfl⟩

/-- the first branches are right -/
def HeadsGood (hs : List Hd) (n : Nat) : Prop := 1 ≤ hs.length ∧ hs.length ≤ 4 ∧ ∀ i, i < hs.length → HdGood hs n i

open Classical in
noncomputable def headsB (hs : List Hd) (n : Nat) : Bool := decide (HeadsGood hs n)

set_option maxRecDepth 100000 in
set_option maxHeartbeats 4000000 in
theorem headsOk_any (a : Option Addr) (cap : Nat) (hs : List Hd) (n : Nat) (w : World) (hp : HeadsAt w a hs) (hl : hs.length ≤ 1048576) (ht : HeadsLen hs 1048576) (hn : n ≤ 1048576) :
    Calls Tryz.prog 103 #[.slice a hs.length cap, .int .i64 n] w fun e w' => e = .returned (.bool (headsB hs n)) ∧ Below w.heap.size w w' := by
  have HP := Lib.hid hp
  have HT := Lib.hid ht
  clear hp ht
  have LC : Hid (∀ (p : Prop), (¬ p) → (HeadsGood hs n → p) → headsB hs n = false) := fun _ h k => by simp [headsB]; exact fun g => h (k g)
  by_cases g1 : (hs.length : Int) < 1
  · have HF : Hid _ := LC.out (1 ≤ hs.length) (by omega) fun g => g.1
    go_enter Tryz.func103, Tryz.ntmps103
    go_wp2
    go_ret
    exact ⟨by rw [HF.out]; rfl, Below.refl _ _⟩
  by_cases g2 : (hs.length : Int) > 4
  · have HF : Hid _ := LC.out (hs.length ≤ 4) (by omega) fun g => g.2.1
    go_enter Tryz.func103, Tryz.ntmps103
    go_wp2
    go_ret
    exact ⟨by rw [HF.out]; rfl, Below.refl _ _⟩
  go_enter Tryz.func103, Tryz.ntmps103
  go_wp2
  go_loopw [6, 17] (fun _ i wr => ∃ k : Nat, k ≤ hs.length ∧ i = .int .i64 k ∧ Below w.heap.size w wr ∧ ∀ j, j < k → wordOk (hdn hs j) = true ∧ 0 ≤ hda hs j ∧ hda hs j < n) (fun _ i _ => hs.length - (intOf i).toNat)
  case atStart => exact ⟨0, Nat.zero_le _, rfl, Below.refl _ _, fun j h => absurd h (Nat.not_lt_zero _)⟩
  case round =>
    obtain ⟨k, hk, rfl, hbel, hall⟩ := hrel
    have HA := Lib.hid hall
    have HB := Lib.hid hbel
    have hsz := hbel.size
    clear hall
    by_cases hlt : k < hs.length
    · obtain ⟨b, off, e', hb, hc1, hc2⟩ := HP.out k hlt
      rw [← hbel.cell (p := ⟨b, _, none⟩) hb] at hc1 hc2
      have hw := HT.out k hlt
      subst e'
      clear hbel
      have A2 : Hid (∀ o, Below wr.heap.size wr (wr.alloc o)) := fun o => (Below.refl _ _).alloc (Nat.le_refl _) _
      go_wp2_with fail
      clear hc1 hc2
      refine (implWordOk_any _ _ (by omega)).mono ?_
      rintro e w1 ⟨rfl, hb1⟩
      have q1 := cell_later hb1 (a := ⟨wr.heap.size, 1, none⟩) (v := .int .i64 (hda hs k)) (by simp [go_sem])
      have B1 : Hid (Below w.heap.size w w1) := HB.out.trans (((A2.out _).trans (hb1.mono (by simp))).mono hsz)
      clear hb1 A2
      by_cases t1 : wordOk (hdn hs k) = true
      · rw [t1]
        have T1 := Lib.hid t1
        clear t1
        go_wp2_with fail
        clear q1
        refine (isPlace_any _ _ _).mono ?_
        rintro e w2 ⟨rfl, rfl⟩
        by_cases t2 : 0 ≤ hda hs k ∧ hda hs k < n
        · rw [decide_eq_true t2]
          have T2 := Lib.hid t2
          clear t2
          go_wp2
          go_roundw
          case rel => exact ⟨k + 1, by omega, by go_num, B1.out, fun j hj => by by_cases e : j = k; (subst e; exact ⟨T1.out, T2.out.1, T2.out.2⟩); exact HA.out j (by omega)⟩
          case measure => simp [intOf]; omega
        · have HF : Hid _ := LC.out _ t2 fun g => ⟨(g.2.2 k hlt).lo, (g.2.2 k hlt).hi⟩
          rw [decide_eq_false t2]
          clear t2
          go_wp2
          go_ret
          exact ⟨by rw [HF.out]; rfl, B1.out⟩
      · have HF : Hid _ := LC.out _ t1 fun g => (g.2.2 k hlt).name
        rw [Bool.not_eq_true] at t1
        rw [t1]
        clear t1
        go_wp2
        go_ret
        exact ⟨by rw [HF.out]; rfl, B1.out⟩
    · obtain rfl : k = hs.length := by omega
      clear hbel
      go_wp2_with fail
      refine (headsByName_any _ _ _ _ (HP.out.below HB.out) hl (HT.out.mono (by omega))).mono ?_
      rintro e w1 ⟨rfl, hown, hb1⟩
      have B1 : Hid (Below w.heap.size w w1) := HB.out.trans (hb1.mono hsz)
      have hlen := hown.len Tryz.underlying146 3
      clear hb1
      by_cases t : Maps.size (mapH hs hs.length) = hs.length
      · have HF : Hid (headsB hs n = true) := by
          have ha := (size_mapH hs hs.length).1 t
          rw [Hid]
          simp [headsB]
          exact ⟨by omega, by omega, fun i hi => ⟨(HA.out i hi).1, fun j hj => ha i j hj hi, (HA.out i hi).2.1, (HA.out i hi).2.2⟩⟩
        have e1 : ((Maps.size (mapH hs hs.length) : Int) == (hs.length : Int)) = true := by simp [t]
        clear t hown
        go_wp2
        go_ret
        exact ⟨by rw [HF.out]; rfl, B1.out⟩
      · have HF : Hid _ := LC.out _ t fun g => (size_mapH hs hs.length).2 fun i j hj hi => (g.2.2 i hi).once j hj
        have e1 : ((Maps.size (mapH hs hs.length) : Int) == (hs.length : Int)) = false := by simp; omega
        clear t hown
        go_wp2
        go_ret
        exact ⟨by rw [HF.out]; rfl, B1.out⟩
end Go.Proofs.YtdchfologicbeaaGreat

namespace Go.Proofs.YtdchfologicbeaaGreat
set_option linter.unusedVariables false
open Go.ChangeShapes Go.WideShapes Go.ChangeAt Go.RowKit

/-- the versions are right -/
def CmsGood (cs : List Cm) : Prop := 1 ≤ cs.length ∧ cs.length ≤ 14 ∧ ∀ i, i < cs.length → CmGood cs i

open Classical in
noncomputable def cmsB (cs : List Cm) : Bool := decide (CmsGood cs)

theorem mg_take {cs : List Cm} {k i : Nat} (h : i < k) : mg (cs.take k) i = mg cs i := by
  unfold mg
  rw [List.getD_eq_getElem?_getD, List.getD_eq_getElem?_getD, List.getElem?_take_of_lt h]

theorem CommitsAt.take {w : World} {a : Option Addr} {cs : List Cm} {k : Nat} (h : CommitsAt w a cs) : CommitsAt w a (cs.take k) := by
  intro i hi
  rw [List.length_take] at hi
  rw [mg_take (by omega)]
  exact h i (by omega)

theorem CmsLen.take {cs : List Cm} {k : Nat} {m : Int} (h : CmsLen cs m) : CmsLen (cs.take k) m := by
  intro i hi
  rw [List.length_take] at hi
  rw [mg_take (by omega)]
  exact h i (by omega)

set_option maxRecDepth 100000 in
set_option maxHeartbeats 16000000 in
theorem commitsOk_any (a : Option Addr) (cap : Nat) (cs : List Cm) (w : World) (hp : CommitsAt w a cs) (hl : cs.length ≤ 1048576) (ht : CmsLen cs 1048576) (hcap : cs.length ≤ cap) :
    Calls Tryz.prog 102 #[.slice a cs.length cap] w fun e w' => e = .returned (.bool (cmsB cs)) ∧ Below w.heap.size w w' := by
  have HP := Lib.hid hp
  have HT := Lib.hid ht
  clear hp ht
  have LC : Hid (∀ (p : Prop), (¬ p) → (CmsGood cs → p) → cmsB cs = false) := fun _ h k => by simp [cmsB]; exact fun g => h (k g)
  by_cases g1 : (cs.length : Int) < 1
  · have HF : Hid _ := LC.out (1 ≤ cs.length) (by omega) fun g => g.1
    go_enter Tryz.func102, Tryz.ntmps102
    go_wp2
    go_ret
    exact ⟨by rw [HF.out]; rfl, Below.refl _ _⟩
  by_cases g2 : (cs.length : Int) > 14
  · have HF : Hid _ := LC.out (cs.length ≤ 14) (by omega) fun g => g.2.1
    go_enter Tryz.func102, Tryz.ntmps102
    go_wp2
    go_ret
    exact ⟨by rw [HF.out]; rfl, Below.refl _ _⟩
  go_enter Tryz.func102, Tryz.ntmps102
  go_wp2
  go_loopw [3, 4, 15] (fun _ _ i wr => ∃ k : Nat, k ≤ cs.length ∧ i = .int .i64 k ∧ Below w.heap.size w wr ∧ ∀ j, j < k → CmGood cs j) (fun _ _ i _ => cs.length - (intOf i).toNat)
  case atStart => exact ⟨0, Nat.zero_le _, rfl, Below.refl _ _, fun j h => absurd h (Nat.not_lt_zero _)⟩
  case round =>
    obtain ⟨k, hk, rfl, hbel, hall⟩ := hrel
    have HA := Lib.hid hall
    have HB := Lib.hid hbel
    have hsz := hbel.size
    clear hall
    by_cases hlt : k < cs.length
    · obtain ⟨b, off, ua, uc, sa, sc, e', hx⟩ := HP.out k hlt
      obtain ⟨zb, c0, c1, c2, hii, hff⟩ := hx.below hbel
      have HI := Lib.hid hii
      have HF0 := Lib.hid hff
      clear hbel hx hii hff
      subst e'
      go_wp2
      have hW : Below wr.heap.size wr (wr.alloc (.cells #[.slice ua (mg cs k).1.length uc, .slice sa (mg cs k).2.1.length sc, .string (mg cs k).2.2] 132)) := (Below.refl _ _).alloc (Nat.le_refl _) _
      have hz := World.size_alloc wr (.cells #[.slice ua (mg cs k).1.length uc, .slice sa (mg cs k).2.1.length sc, .string (mg cs k).2.2] 132)
      have q0 : (wr.alloc (.cells #[.slice ua (mg cs k).1.length uc, .slice sa (mg cs k).2.1.length sc, .string (mg cs k).2.2] 132)).cell? ⟨wr.heap.size, 0, none⟩ = some (.slice ua (mg cs k).1.length uc) := by simp [go_sem]
      have q1 : (wr.alloc (.cells #[.slice ua (mg cs k).1.length uc, .slice sa (mg cs k).2.1.length sc, .string (mg cs k).2.2] 132)).cell? ⟨wr.heap.size, 1, none⟩ = some (.slice sa (mg cs k).2.1.length sc) := by simp [go_sem]
      have q2 : (wr.alloc (.cells #[.slice ua (mg cs k).1.length uc, .slice sa (mg cs k).2.1.length sc, .string (mg cs k).2.2] 132)).cell? ⟨wr.heap.size, 2, none⟩ = some (.string (mg cs k).2.2) := by simp [go_sem]
      clear c0 c1 c2
      generalize wr.alloc (.cells #[.slice ua (mg cs k).1.length uc, .slice sa (mg cs k).2.1.length sc, .string (mg cs k).2.2] 132) = W1 at hW hz q0 q1 q2 ⊢
      have z0 : wr.heap.size < W1.heap.size := by omega
      have B1 : Hid (Below w.heap.size w W1) := HB.out.trans (hW.mono hsz)
      have I1 := Lib.hid (HI.out.below hW)
      have F1 := Lib.hid (HF0.out.below hW)
      have C1 := Lib.hid (HP.out.below B1.out)
      have M := HT.out k hlt
      have U1 : Hid (∀ u, Below W1.heap.size W1 u → Calls Tryz.prog 167 #[.slice ua (mg cs k).1.length uc, .int .i64 k] u fun e w' => e = .returned (.bool (upB (mg cs k).1 k)) ∧ Below u.heap.size u w') := fun u hu =>
        (upOk_any _ _ _ _ _ (I1.out.below hu) (by have := M.1; omega) (by omega)).mono fun e w' h => ⟨h.1, by obtain ⟨n, h2⟩ := h.2; rw [h2]; exact below_drewN (Below.refl _ _) n⟩
      have U2 : Hid (∀ u, Below W1.heap.size W1 u → Calls Tryz.prog 110 #[.slice sa (mg cs k).2.1.length sc] u fun e w' => e = .returned (.bool (sheetOk (mg cs k).2.1)) ∧ Below u.heap.size u w') := fun u hu =>
        implSheetOk_any _ _ _ _ (F1.out.below hu) (by have := M.2.1; omega) M.2.2.1
      have U3 : Hid (∀ u, Below W1.heap.size W1 u → Calls Tryz.prog 111 #[.string (mg cs k).2.2] u fun e w' => e = .returned (.bool (wordOk (mg cs k).2.2)) ∧ Below u.heap.size u w') := fun u hu =>
        implWordOk_any _ _ (by have := M.2.2.2; omega)
      have U4 : Hid (∀ u cp, Below W1.heap.size W1 u → Calls Tryz.prog 168 #[.slice (some ⟨b, off, none⟩) k cp, .agg #[.slice ua (mg cs k).1.length uc, .slice sa (mg cs k).2.1.length sc, .string (mg cs k).2.2]] u fun e w' => (∃ r, e = .returned (.int .i64 r) ∧ FirstCm (cs.take k) (mg cs k) r) ∧ Below u.heap.size u w') := fun u cp hu => by
        have := commitPlace_any (some ⟨b, off, none⟩) cp (cs.take k) (mg cs k) ua sa uc sc u (I1.out.below hu) (F1.out.below hu) ((C1.out.below hu).take) (by rw [List.length_take]; omega) HT.out.take M
        rwa [show (cs.take k).length = k by rw [List.length_take]; omega] at this
      have hk0 : (0 : Int) ≤ (k : Int) := by omega
      have hkc : (k : Int) ≤ (cap : Int) := by omega
      clear hW hz HI HF0 M I1 F1 C1
      by_cases t1 : UpOk (mg cs k).1 k
      · rw [upB_true t1] at U1
        by_cases t2 : sheetOk (mg cs k).2.1 = true
        · rw [t2] at U2
          by_cases t3 : wordOk (mg cs k).2.2 = true
          · rw [t3] at U3
            by_cases t4 : ∀ j, j < k → mg cs j ≠ mg cs k
            · have HG : Hid (CmGood cs k) := ⟨t1, t2, t3, t4⟩
              have R4 : Hid (∀ r, FirstCm (cs.take k) (mg cs k) r → r = -1) := fun r h => by
                rcases h with ⟨h, _⟩ | ⟨j, h1, h2, h3, _⟩
                · exact h
                · rw [List.length_take] at h2
                  rw [mg_take (by omega)] at h3
                  exact absurd h3 (t4 j (by omega))
              clear t1 t2 t3 t4
              go_cut [44] (fun s44 wx => s44 = .bool false ∧ Below w.heap.size w wx)
              case first =>
                first
                  | go_region_held3 (fun w' => w'.cell? ⟨wr.heap.size, 0, none⟩ = some (.slice ua (mg cs k).1.length uc) ∧ w'.cell? ⟨wr.heap.size, 1, none⟩ = some (.slice sa (mg cs k).2.1.length sc) ∧ w'.cell? ⟨wr.heap.size, 2, none⟩ = some (.string (mg cs k).2.2) ∧ Below W1.heap.size W1 w')
                      (first
                        | (with_reducible assumption)
                        | (go_split_ands
                           rename_i hS0 hS1 hS2 hS3
                           with_reducible exact ⟨cell_later hbn hS0, cell_later hbn hS1, cell_later hbn hS2, hS3.trans (hbn.mono hS3.size)⟩)
                        | exact ⟨q0, q1, q2, (Below.refl _ _).drew⟩)
                      (first
                       | (go_at_call 167
                          refine (U1.out _ ?_).mono ?_
                          · (go_split_ands; assumption)
                          rintro e wn ⟨rfl, hbn⟩)
                       | (go_at_call 110
                          refine (U2.out _ ?_).mono ?_
                          · (go_split_ands; assumption)
                          rintro e wn ⟨rfl, hbn⟩)
                       | (go_at_call 111
                          refine (U3.out _ ?_).mono ?_
                          · (go_split_ands; assumption)
                          rintro e wn ⟨rfl, hbn⟩)
                       | (go_at_call 168
                          refine (U4.out _ _ ?_).mono ?_
                          · (go_split_ands; assumption)
                          rintro e wn ⟨⟨r, rfl, hr⟩, hbn⟩
                          obtain rfl := R4.out r hr
                          clear hr))
                  | fail
                all_goals (go_wp2_with fail; go_meet; go_split_ands; exact ⟨by simp_all, B1.out.trans (Below.mono (by assumption) B1.out.size)⟩)
              case rest =>
                obtain ⟨rfl, hB⟩ := hcut
                have B := Lib.hid hB
                clear hB
                go_wp2
                go_roundw
                case rel => exact ⟨k + 1, by omega, by go_num, B.out, fun j hj => by by_cases e : j = k; (subst e; exact HG.out); exact HA.out j (by omega)⟩
                case measure => simp [intOf]; omega
            · have HF : Hid _ := LC.out _ t4 fun g => (g.2.2 k hlt).once
              have R4 : Hid (∀ r, FirstCm (cs.take k) (mg cs k) r → 0 ≤ r) := fun r h => by
                rcases h with ⟨_, h⟩ | ⟨j, h1, _⟩
                · exfalso
                  refine t4 fun j hj => ?_
                  have := h j (by rw [List.length_take]; omega)
                  rwa [mg_take hj] at this
                · omega
              clear t1 t2 t3 t4
              go_cut [44] (fun s44 wx => s44 = .bool true ∧ Below w.heap.size w wx)
              case first =>
                first
                  | go_region_held3 (fun w' => w'.cell? ⟨wr.heap.size, 0, none⟩ = some (.slice ua (mg cs k).1.length uc) ∧ w'.cell? ⟨wr.heap.size, 1, none⟩ = some (.slice sa (mg cs k).2.1.length sc) ∧ w'.cell? ⟨wr.heap.size, 2, none⟩ = some (.string (mg cs k).2.2) ∧ Below W1.heap.size W1 w')
                      (first
                        | (with_reducible assumption)
                        | (go_split_ands
                           rename_i hS0 hS1 hS2 hS3
                           with_reducible exact ⟨cell_later hbn hS0, cell_later hbn hS1, cell_later hbn hS2, hS3.trans (hbn.mono hS3.size)⟩)
                        | exact ⟨q0, q1, q2, (Below.refl _ _).drew⟩)
                      (first
                       | (go_at_call 167
                          refine (U1.out _ ?_).mono ?_
                          · (go_split_ands; assumption)
                          rintro e wn ⟨rfl, hbn⟩)
                       | (go_at_call 110
                          refine (U2.out _ ?_).mono ?_
                          · (go_split_ands; assumption)
                          rintro e wn ⟨rfl, hbn⟩)
                       | (go_at_call 111
                          refine (U3.out _ ?_).mono ?_
                          · (go_split_ands; assumption)
                          rintro e wn ⟨rfl, hbn⟩)
                       | (go_at_call 168
                          refine (U4.out _ _ ?_).mono ?_
                          · (go_split_ands; assumption)
                          rintro e wn ⟨⟨r, rfl, hr⟩, hbn⟩
                          have hr' := R4.out r hr
                          clear hr))
                  | fail
                all_goals (go_wp2_with fail; go_meet; go_split_ands; exact ⟨by simp, B1.out.trans (Below.mono (by assumption) B1.out.size)⟩)
              case rest =>
                obtain ⟨rfl, hB⟩ := hcut
                have B := Lib.hid hB
                clear hB
                go_wp2
                go_ret
                exact ⟨by rw [HF.out]; rfl, B.out⟩
          · have HF : Hid _ := LC.out _ t3 fun g => (g.2.2 k hlt).note
            rw [Bool.not_eq_true] at t3
            rw [t3] at U3
            clear t1 t2 t3 U4
            go_cut [44] (fun s44 wx => s44 = .bool true ∧ Below w.heap.size w wx)
            case first =>
              first
                | go_region_law (first
                    | (go_simp
                       go_at_call 167
                       refine (U1.out _ (Below.refl _ _).drew).mono ?_
                       rintro e wn1 ⟨rfl, hn1⟩
                       have hB1 : Below W1.heap.size W1 wn1 := (Below.refl W1.heap.size W1).drew.trans hn1
                       have p11 := cell_later hn1 (show W1.drew.cell? _ = _ from q1)
                       have p12 := cell_later hn1 (show W1.drew.cell? _ = _ from q2)
                       clear hn1)
                    | (go_simp
                       go_at_call 110
                       refine (U2.out _ hB1).mono ?_
                       rintro e wn2 ⟨rfl, hn2⟩
                       have hB2 : Below W1.heap.size W1 wn2 := hB1.trans (hn2.mono hB1.size)
                       have p21 := cell_later hn2 p11
                       have p22 := cell_later hn2 p12
                       clear hn2)
                    | (go_simp
                       go_at_call 111
                       refine (U3.out _ hB2).mono ?_
                       rintro e wn3 ⟨rfl, hn3⟩
                       have hB3 : Below W1.heap.size W1 wn3 := hB2.trans (hn3.mono hB2.size)
                       have p31 := cell_later hn3 p21
                       have p32 := cell_later hn3 p22
                       clear hn3))
                | fail
              all_goals (go_wp2_with fail; go_meet; exact ⟨by simp, B1.out.trans (hB3.mono B1.out.size)⟩)
            case rest =>
              obtain ⟨rfl, hB⟩ := hcut
              have B := Lib.hid hB
              clear hB
              go_wp2
              go_ret
              exact ⟨by rw [HF.out]; rfl, B.out⟩
        · have HF : Hid _ := LC.out _ t2 fun g => (g.2.2 k hlt).sheet
          rw [Bool.not_eq_true] at t2
          rw [t2] at U2
          clear t1 t2 U3 U4
          go_cut [44] (fun s44 wx => s44 = .bool true ∧ Below w.heap.size w wx)
          case first =>
            first
              | go_region_law (first
                  | (go_simp
                     go_at_call 167
                     refine (U1.out _ (Below.refl _ _).drew).mono ?_
                     rintro e wn1 ⟨rfl, hn1⟩
                     have hB1 : Below W1.heap.size W1 wn1 := (Below.refl W1.heap.size W1).drew.trans hn1
                     have p11 := cell_later hn1 (show W1.drew.cell? _ = _ from q1)
                     have p12 := cell_later hn1 (show W1.drew.cell? _ = _ from q2)
                     clear hn1)
                  | (go_simp
                     go_at_call 110
                     refine (U2.out _ hB1).mono ?_
                     rintro e wn2 ⟨rfl, hn2⟩
                     have hB2 : Below W1.heap.size W1 wn2 := hB1.trans (hn2.mono hB1.size)
                     have p21 := cell_later hn2 p11
                     have p22 := cell_later hn2 p12
                     clear hn2))
              | fail
            all_goals (go_wp2_with fail; go_meet; exact ⟨by simp, B1.out.trans (hB2.mono B1.out.size)⟩)
          case rest =>
            obtain ⟨rfl, hB⟩ := hcut
            have B := Lib.hid hB
            clear hB
            go_wp2
            go_ret
            exact ⟨by rw [HF.out]; rfl, B.out⟩
      · have HF : Hid _ := LC.out _ t1 fun g => (g.2.2 k hlt).up
        rw [upB_false t1] at U1
        clear t1 U2 U3 U4
        go_cut [44] (fun s44 wx => s44 = .bool true ∧ Below w.heap.size w wx)
        case first =>
          first
            | go_region_law (first
                | (go_simp
                   go_at_call 167
                   refine (U1.out _ (Below.refl _ _).drew).mono ?_
                   rintro e wn1 ⟨rfl, hn1⟩
                   have hB1 : Below W1.heap.size W1 wn1 := (Below.refl W1.heap.size W1).drew.trans hn1
                   have p11 := cell_later hn1 (show W1.drew.cell? _ = _ from q1)
                   have p12 := cell_later hn1 (show W1.drew.cell? _ = _ from q2)
                   clear hn1))
            | fail
          all_goals (go_wp2_with fail; go_meet; exact ⟨by simp, B1.out.trans (hB1.mono B1.out.size)⟩)
        case rest =>
          obtain ⟨rfl, hB⟩ := hcut
          have B := Lib.hid hB
          clear hB
          go_wp2
          go_ret
          exact ⟨by rw [HF.out]; rfl, B.out⟩
    · obtain rfl : k = cs.length := by omega
      have HF : Hid (cmsB cs = true) := by
        rw [Hid]
        simp [cmsB]
        exact ⟨by omega, by omega, HA.out⟩
      clear hbel
      go_wp2
      go_ret
      exact ⟨by rw [HF.out]; rfl, HB.out⟩

end Go.Proofs.YtdchfologicbeaaGreat

namespace Go.Proofs.YtdchfologicbeaaGreat
set_option linter.unusedVariables false
open Go.ChangeShapes Go.WideShapes Go.ChangeAt Go.RowKit

theorem good_and (cs : List Cm) (hs : List Hd) : repoOk cs hs = (cmsB cs && headsB hs cs.length) := by
  rw [Bool.eq_iff_iff, repoOk_iff]
  simp only [cmsB, headsB, Bool.and_eq_true, decide_eq_true_iff]
  exact ⟨fun g => ⟨⟨g.c1, g.c2, g.cms⟩, ⟨g.h1, g.h2, g.hds⟩⟩, fun g => ⟨g.1.1, g.1.2.1, g.2.1, g.2.2.1, g.1.2.2, g.2.2.2⟩⟩

theorem RepoGood.apart {cs : List Cm} {hs : List Hd} (g : RepoGood cs hs) : NamesApart hs hs.length := fun i j hj hi => (g.hds i hi).once j hj

set_option maxRecDepth 100000 in
set_option maxHeartbeats 4000000 in
theorem implRepoOk_any (a b : Option Addr) (ca cb : Nat) (cs : List Cm) (hs : List Hd) (w : World) (hr : RepoAt w a b cs hs) (hl : RpLen cs hs 1048576) (hca : cs.length ≤ ca) :
    Calls Tryz.prog 33 #[.agg #[.slice a cs.length ca, .slice b hs.length cb]] w fun e w' => e = .returned (.bool (repoOk cs hs)) ∧ Below w.heap.size w w' := by
  obtain ⟨l1, l2, l3, l4⟩ := hl
  have HR := Lib.hid hr
  have L3 := Lib.hid l3
  have L4 := Lib.hid l4
  clear hr l3 l4
  have A1 : Hid (∀ o, Below w.heap.size w (w.alloc o)) := fun o => (Below.refl _ _).alloc (Nat.le_refl _) _
  go_enter Tryz.func33, Tryz.ntmps33
  go_wp2_with fail
  refine (commitsOk_any _ _ _ _ (HR.out.cms.below (A1.out _)) (by omega) L3.out hca).mono ?_
  rintro e w1 ⟨rfl, hb1⟩
  have c0 := cell_later hb1 (a := ⟨w.heap.size, 0, none⟩) (v := .slice a cs.length ca) (by simp [go_sem])
  have c1 := cell_later hb1 (a := ⟨w.heap.size, 1, none⟩) (v := .slice b hs.length cb) (by simp [go_sem])
  have B1 : Hid (Below w.heap.size w w1) := (A1.out _).trans (hb1.mono (by simp))
  clear hb1
  have HE := Lib.hid (good_and cs hs)
  cases hq : cmsB cs
  · rw [hq] at HE
    go_wp2
    go_ret
    exact ⟨by rw [HE.out]; rfl, B1.out⟩
  · rw [hq] at HE
    clear hq
    go_wp2_with fail
    refine (headsOk_any _ _ _ _ _ (HR.out.hds.below B1.out) (by omega) L4.out (by omega)).mono ?_
    rintro e w2 ⟨rfl, hb2⟩
    have B2 : Hid (Below w.heap.size w w2) := B1.out.trans (hb2.mono B1.out.size)
    clear hb2 c0 c1
    go_wp2
    go_ret
    exact ⟨by rw [HE.out]; rfl, B2.out⟩

/-- the version of a branch -/
noncomputable def atV (cs : List Cm) (hs : List Hd) (x : ByteArray) : Int :=
  if repoOk cs hs then (match lastH hs x hs.length with | some j => hda hs j | none => -1) else -1

set_option maxRecDepth 100000 in
set_option maxHeartbeats 4000000 in
theorem specRepoAt_any (a b : Option Addr) (ca cb : Nat) (cs : List Cm) (hs : List Hd) (x : ByteArray) (w : World) (hr : RepoAt w a b cs hs) (hl : RpLen cs hs 1048576) :
    Calls Tryz.prog 35 #[.agg #[.slice a cs.length ca, .slice b hs.length cb], .string x] w fun e w' => e = .returned (.int .i64 (atV cs hs x)) ∧ Below w.heap.size w w' := by
  have HR := Lib.hid hr
  have HL := Lib.hid hl
  clear hr hl
  have A1 : Hid (∀ o, Below w.heap.size w (w.alloc o)) := fun o => (Below.refl _ _).alloc (Nat.le_refl _) _
  go_enter Tryz.func35, Tryz.ntmps35
  go_wp2_with fail
  refine (l7Head_any _ _ _ _ _ _ _ _ (HR.out.hds.below (A1.out _)) (by have := HL.out.hl; omega)).mono ?_
  rintro e w1 ⟨⟨r, rfl, hr⟩, hb1⟩
  have K1 : Hid (Box2 w1 w.heap.size (.slice a cs.length ca) (.slice b hs.length cb)) := (Box2.new w _ _ _).later hb1
  have B1 : Hid (Below w.heap.size w w1) := (A1.out _).trans (hb1.mono (by simp))
  have R := Lib.hid hr
  clear hb1 hr
  obtain ⟨z0, c0, c1⟩ := K1.out
  go_wp2_with fail
  clear c0 c1
  refine (specRepoOk_any _ _ _ _ _ _ _ (HR.out.below B1.out) HL.out).mono ?_
  rintro e w2 ⟨rfl, hb2⟩
  replace K1 := Lib.hid (K1.out.later hb2)
  have B2 : Hid (Below w.heap.size w w2) := B1.out.trans (hb2.mono B1.out.size)
  have R2 := Lib.hid (HR.out.below B2.out)
  clear hb2 B1
  by_cases hg : RepoGood cs hs
  · rw [repoOk_true hg]
    by_cases h0 : r < 0
    · have HE : Hid (atV cs hs x = -1) := by
        rcases R.out with ⟨_, h⟩ | ⟨k, h1, _⟩
        · have : lastH hs x hs.length = none := by
            cases hq : lastH hs x hs.length with
            | none => rfl
            | some j => obtain ⟨h2, h3, _⟩ := lastH_some hq; exact absurd h3 (h j h2)
          simp [Hid, atV, repoOk_true hg, this]
        · omega
      clear hg
      go_wp2
      go_ret
      exact ⟨by rw [HE.out]; rfl, B2.out⟩
    · obtain ⟨k, rfl, h1, h2, h3⟩ : ∃ k : Nat, r = k ∧ k < hs.length ∧ hdn hs k = x ∧ ∀ j, j < k → hdn hs j ≠ x := by
        rcases R.out with ⟨h, _⟩ | h
        · omega
        · exact h
      have HE : Hid (atV cs hs x = hda hs k) := by simp [Hid, atV, repoOk_true hg, lastH_first hg.apart h1 h2]
      obtain ⟨b', off, e', hb, hc1, hc2⟩ := R2.out.hds k h1
      subst e'
      obtain ⟨z0, c0, c1⟩ := K1.out
      clear hg h2 h3
      go_wp2
      go_ret
      exact ⟨by rw [HE.out]; rfl, B2.out⟩
  · rw [repoOk_false hg]
    have HE : Hid (atV cs hs x = -1) := by simp [Hid, atV, repoOk_false hg]
    clear hg
    go_wp2
    go_ret
    exact ⟨by rw [HE.out]; rfl, B2.out⟩

set_option maxRecDepth 100000 in
set_option maxHeartbeats 4000000 in
theorem implRepoAt_any (a b : Option Addr) (ca cb : Nat) (cs : List Cm) (hs : List Hd) (x : ByteArray) (w : World) (hr : RepoAt w a b cs hs) (hl : RpLen cs hs 1048576) (hca : cs.length ≤ ca) (hx : x.size ≤ 1048576) :
    Calls Tryz.prog 36 #[.agg #[.slice a cs.length ca, .slice b hs.length cb], .string x] w fun e w' => e = .returned (.int .i64 (atV cs hs x)) ∧ Below w.heap.size w w' := by
  have HR := Lib.hid hr
  have HL := Lib.hid hl
  clear hr hl
  have A1 : Hid (∀ o, Below w.heap.size w (w.alloc o)) := fun o => (Below.refl _ _).alloc (Nat.le_refl _) _
  go_enter Tryz.func36, Tryz.ntmps36
  go_wp2_with fail
  refine (implRepoOk_any _ _ _ _ _ _ _ (HR.out.below (A1.out _)) HL.out hca).mono ?_
  rintro e w1 ⟨rfl, hb1⟩
  have K1 : Hid (Box2 w1 w.heap.size (.slice a cs.length ca) (.slice b hs.length cb)) := (Box2.new w _ _ _).later hb1
  have B1 : Hid (Below w.heap.size w w1) := (A1.out _).trans (hb1.mono (by simp))
  clear hb1
  by_cases hg : RepoGood cs hs
  · rw [repoOk_true hg]
    obtain ⟨z0, c0, c1⟩ := K1.out
    go_wp2_with fail
    clear c0 c1
    refine (headsByName_any _ _ _ _ (HR.out.hds.below B1.out) (by have := HL.out.hl; omega) (HL.out.hds.mono (by omega))).mono ?_
    rintro e w2 ⟨rfl, hown, hb2⟩
    replace K1 := Lib.hid (K1.out.later hb2)
    have B2 : Hid (Below w.heap.size w w2) := B1.out.trans (hb2.mono B1.out.size)
    have R2 := Lib.hid (HR.out.below B2.out)
    have hlook := look_head hown x (by unfold maxLen; omega)
    clear hb2 B1 hown
    cases hq : lastH hs x hs.length with
    | none =>
      rw [hq] at hlook
      have HE : Hid (atV cs hs x = -1) := by simp [Hid, atV, repoOk_true hg, hq]
      clear hq hg
      simp only [Option.isSome_none] at hlook
      go_wp2
      go_ret
      exact ⟨by rw [HE.out]; rfl, B2.out⟩
    | some k =>
      rw [hq] at hlook
      have HE : Hid (atV cs hs x = hda hs k) := by simp [Hid, atV, repoOk_true hg, hq]
      obtain ⟨h1, _⟩ := lastH_some hq
      clear hq hg
      simp only [Option.isSome_some] at hlook
      obtain ⟨b', off, e', hb, hc1, hc2⟩ := R2.out.hds k h1
      subst e'
      obtain ⟨z0, c0, c1⟩ := K1.out
      go_wp2
      go_ret
      exact ⟨by rw [HE.out]; rfl, B2.out⟩
  · rw [repoOk_false hg]
    have HE : Hid (atV cs hs x = -1) := by simp [Hid, atV, repoOk_false hg]
    clear hg
    go_wp2
    go_ret
    exact ⟨by rw [HE.out]; rfl, B1.out⟩
end Go.Proofs.YtdchfologicbeaaGreat

namespace Go.Proofs.YtdchfologicbeaaGreat
set_option linter.unusedVariables false
open Go.ChangeShapes Go.WideShapes Go.ChangeAt Go.RowKit

/-- the places of a kind, the greatest first -/
def pastL (B : Nat → Bool) : Nat → List Int
  | 0 => []
  | n + 1 => (if B n then [(n : Int)] else []) ++ pastL B n

theorem pastL_len (B : Nat → Bool) : ∀ n, (pastL B n).length ≤ n
  | 0 => Nat.le_refl _
  | n + 1 => by
    have := pastL_len B n
    unfold pastL
    split <;> simp <;> omega

theorem mem_pastL {B : Nat → Bool} {x : Int} : ∀ {n : Nat}, x ∈ pastL B n ↔ ∃ j : Nat, j < n ∧ x = j ∧ B j = true
  | 0 => by simp [pastL]
  | n + 1 => by
    unfold pastL
    rw [List.mem_append, mem_pastL (n := n)]
    constructor
    · rintro (h | ⟨j, h1, h2, h3⟩)
      · split at h
        · exact ⟨n, by omega, by simpa using h, by assumption⟩
        · simp at h
      · exact ⟨j, by omega, h2, h3⟩
    · rintro ⟨j, h1, h2, h3⟩
      by_cases e : j = n
      · subst e
        exact .inl (by simp [h3, h2])
      · exact .inr ⟨j, by omega, h2, h3⟩

theorem pastL_congr {B C : Nat → Bool} : ∀ {n : Nat}, (∀ j, j < n → B j = C j) → pastL B n = pastL C n
  | 0, _ => rfl
  | n + 1, h => by
    unfold pastL
    rw [h n (by omega), pastL_congr fun j hj => h j (by omega)]

theorem pastL_more {B : Nat → Bool} {n : Nat} : ∀ {m : Nat}, n ≤ m → (∀ j, n ≤ j → B j = false) → pastL B m = pastL B n
  | 0, h, _ => by rw [show n = 0 by omega]
  | m + 1, h, hb => by
    by_cases e : n = m + 1
    · rw [e]
    · have ih := pastL_more (m := m) (by omega) hb
      unfold pastL
      rw [hb m (by omega), ih]
      simp
      cases n <;> rfl

theorem int_one (w : World) (x : Int) (t : TypeId) : IntsAt (w.alloc (.cells #[.int .i64 x] t)) (some ⟨w.heap.size, 0, none⟩) [x] := by
  intro i hi
  obtain rfl : i = 0 := by simp at hi; omega
  exact ⟨w.heap.size, 0, rfl, by simp, by simp [go_sem, ix]⟩

set_option maxRecDepth 100000 in
set_option maxHeartbeats 4000000 in
theorem paintedJust_any (p : Nat → Int) (c : Int) (w : World) :
    Calls Tryz.prog 124 #[.agg (pvals p).toArray, .int .i64 c] w fun e w' => (∃ v, e = .returned v ∧ GrowI (w.heap.size + 1) (pastL (fun j => decide (p j = c)) 14) w' v) ∧ Below w.heap.size w w' := by
  obtain ⟨L, hL⟩ : ∃ L, L = pastL (fun j => decide (p j = c)) 14 := ⟨_, rfl⟩
  rw [← hL]
  have LL := Lib.hid hL
  have hlen : L.length ≤ 14 := by rw [hL]; exact pastL_len _ _
  clear hL
  go_enter Tryz.func124, Tryz.ntmps124
  go_wp2
  go_loopw [5, 6] (fun s5 i wr => ∃ (m : Nat) (acc : List Int), m ≤ 14 ∧ i = .int .i64 ((m : Int) - 1) ∧ acc ++ pastL (fun j => decide (p j = c)) m = L ∧ GrowI (w.heap.size + 1) acc wr s5 ∧ wr.rowIs w.heap.size 163 14 (fun j => .int .i64 (p j)) ∧ Below w.heap.size w wr) (fun _ i _ => (intOf i + 1).toNat)
  case atStart => exact ⟨14, [], Nat.le_refl _, rfl, LL.out.symm, GrowI.nil (by simp), pvals_row w p _, (Below.refl _ _).alloc (Nat.le_refl _) _⟩
  case round =>
    obtain ⟨m, acc, hm, rfl, hacc, hG, hrow, hbel⟩ := hrel
    have HG := Lib.hid hG
    have HR := Lib.hid hrow
    have HB := Lib.hid hbel
    have HA := Lib.hid hacc
    have hsz := hbel.size
    obtain ⟨av, cv, rfl, hcv, _⟩ := hG.form
    rcases m with _ | i
    · simp only [Int.natCast_zero, Int.zero_sub]
      have h1 : decide ((0 : Int) ≤ -1) = false := by decide
      have e : Hid (acc = L) := by rw [Hid, ← hacc]; simp [pastL]
      clear hacc hG hrow hbel
      go_wp2
      go_ret
      exact ⟨⟨_, rfl, by rw [← e.out]; exact HG.out⟩, HB.out⟩
    · have e1 : ((i + 1 : Nat) : Int) - 1 = (i : Int) := by omega
      rw [e1]
      clear e1
      have hd := hrow.cell (i := i) (by omega)
      have q5 : (0 : Int) ≤ (i : Int) := by omega
      have q6 : (i : Int) < 14 := by omega
      have hla : acc.length ≤ 14 := by have : acc.length ≤ L.length := by rw [← hacc, List.length_append]; omega
                                       omega
      clear hacc hG hrow hbel
      by_cases hs : p i = c
      · have he : (p i == c) = true := by simp [hs]
        have HS := Lib.hid hs
        clear hs
        have A1 : Hid (Below wr.heap.size wr (wr.alloc (.cells #[.int .i64 (i : Int)] 3))) := (Below.refl _ _).alloc (Nat.le_refl _) _
        go_wp2_with (at_builtin; refine wpList_moreI (by rfl) _ _ (by rfl) (HG.out.below A1.out) (int_one _ _ _) (by rfl) (by rfl) (by simp; omega) ?_; intro r a2 c2 W2 hr hgrow hG2; have R := Lib.hid hr; have HGR := Lib.hid hgrow; have HG2 := Lib.hid hG2; clear hr hgrow hG2)
        have hblk := (HG.out.below A1.out).block
        have hrow2 : W2.rowIs w.heap.size 163 14 (fun j => .int .i64 (p j)) := (HR.out.alloc _).of_block (HGR.out.block _ (by simp; omega) fun e => by have := hblk _ e.symm; omega)
        go_roundw
        case rel => exact ⟨i, r, by omega, rfl, by rw [R.out, ← HA.out]; simp [pastL, HS.out], HG2.out, hrow2, (HB.out.alloc hsz _).grown HGR.out (by simp; omega) fun k hk => by have := hblk k hk; omega⟩
        case measure => simp [intOf]
      · have he : (p i == c) = false := by simp [hs]
        have HS := Lib.hid hs
        clear hs
        go_wp2
        go_roundw
        case rel => exact ⟨i, acc, by omega, rfl, by rw [← HA.out]; simp [pastL, HS.out], HG.out, HR.out, HB.out⟩
        case measure => simp [intOf]

open Classical in
/-- a version and all that is ahead of it; none, if it is not right -/
noncomputable def pastV (cs : List Cm) (hs : List Hd) (x : Int) : List Int := if RepoGood cs hs ∧ 0 ≤ x ∧ x < cs.length then pastL (aheadB cs x.toNat) 14 else []

theorem pastV_ok {cs : List Cm} {hs : List Hd} {k : Nat} (g : RepoGood cs hs) (h : k < cs.length) : pastV cs hs k = pastL (aheadB cs k) 14 := by
  unfold pastV
  rw [if_pos ⟨g, by omega, by omega⟩]
  simp

theorem pastV_bad {cs : List Cm} {hs : List Hd} {x : Int} (h : ¬ (RepoGood cs hs ∧ 0 ≤ x ∧ x < cs.length)) : pastV cs hs x = [] := if_neg h

theorem and00 : bits .and .i64 0 1 = 0 := by decide
theorem and11 : bits .and .i64 1 1 ≠ 0 := by decide
theorem or01 : bits .or .i64 0 1 = 1 := by decide

set_option maxRecDepth 100000 in
set_option maxHeartbeats 4000000 in
theorem implRepoPast_any (a b : Option Addr) (ca cb : Nat) (cs : List Cm) (hs : List Hd) (x : Int) (w : World) (hr : RepoAt w a b cs hs) (hl : RpLen cs hs 1048576) (hca : cs.length ≤ ca) :
    Calls Tryz.prog 50 #[.agg #[.slice a cs.length ca, .slice b hs.length cb], .int .i64 x] w fun e w' => (∃ v, e = .returned v ∧ GrowI w.heap.size (pastV cs hs x) w' v) ∧ Below w.heap.size w w' := by
  have HR := Lib.hid hr
  have HL := Lib.hid hl
  clear hr hl
  have A1 : Hid (∀ o, Below w.heap.size w (w.alloc o)) := fun o => (Below.refl _ _).alloc (Nat.le_refl _) _
  have hz := run_zeroPaints
  go_enter Tryz.func50, Tryz.ntmps50
  go_wp2_with fail
  refine (implRepoOk_any _ _ _ _ _ _ _ (HR.out.below (A1.out _)) HL.out hca).mono ?_
  rintro e w1 ⟨rfl, hb1⟩
  have K1 : Hid (Box2 w1 w.heap.size (.slice a cs.length ca) (.slice b hs.length cb)) := (Box2.new w _ _ _).later hb1
  have B1 : Hid (Below w.heap.size w w1) := (A1.out _).trans (hb1.mono (by simp))
  clear hb1
  by_cases hg : RepoGood cs hs
  · rw [repoOk_true hg]
    obtain ⟨z0, c0, c1⟩ := K1.out
    go_wp2_with fail
    refine (isPlace_any _ _ _).mono ?_
    rintro e w2 ⟨rfl, rfl⟩
    by_cases hp : 0 ≤ x ∧ x < cs.length
    · rw [decide_eq_true hp]
      obtain ⟨k, rfl⟩ : ∃ k : Nat, x = k := ⟨x.toNat, by omega⟩
      have hk : k < cs.length := by omega
      have HP := Lib.hid (pastV_ok hg hk)
      clear hp
      go_wp2_with fail
      clear c0 c1 hz
      refine (paintPast_any _ _ _ _ _ cs k 1 (fun _ s => cond s 1 0) (fun _ => false) _ (HR.out.cms.below B1.out) hg.ups hg.c2 HL.out.cms hk (fun j h => by simp at h) (fun _ => and00) (fun _ => and11) (fun _ => or01)).mono ?_
      rintro e w3 ⟨rfl, hb3⟩
      have B3 : Hid (Below w.heap.size w w3) := B1.out.trans (hb3.mono B1.out.size)
      clear hb3 hg
      go_wp2_with fail
      refine (paintedJust_any _ _ _).mono ?_
      rintro e w4 ⟨⟨v, rfl, hG⟩, hb4⟩
      have B4 : Hid (Below w.heap.size w w4) := B3.out.trans (hb4.mono B3.out.size)
      have G : Hid (GrowI w.heap.size (pastV cs hs k) w4 v) := by
        have e : pastL (fun j => decide (cond (aheadB cs k j) (1 : Int) 0 = 1)) 14 = pastV cs hs k := by
          rw [HP.out]
          refine pastL_congr fun j _ => ?_
          cases aheadB cs k j <;> rfl
        have hz := B3.out.size
        rw [e] at hG
        obtain ⟨⟨h1, h2⟩, h3⟩ := hG
        refine ⟨⟨h1, h2.imp id ?_⟩, by omega⟩
        rintro ⟨g, cap, cur, q1, q2, q3⟩
        exact ⟨g, cap, cur, q1, by omega, q3⟩
      clear hG hb4
      go_wp2
      go_ret
      exact ⟨⟨_, rfl, G.out⟩, B4.out⟩
    · rw [decide_eq_false hp]
      have HP := Lib.hid (pastV_bad (cs := cs) (hs := hs) (x := x) fun h => hp h.2)
      clear hp hg hz
      go_wp2
      go_ret
      exact ⟨⟨_, rfl, by rw [HP.out]; exact GrowI.nil B1.out.size⟩, B1.out⟩
  · rw [repoOk_false hg]
    have HP := Lib.hid (pastV_bad (cs := cs) (hs := hs) (x := x) fun h => hg h.1)
    clear hg hz
    go_wp2
    go_ret
    exact ⟨⟨_, rfl, by rw [HP.out]; exact GrowI.nil B1.out.size⟩, B1.out⟩
end Go.Proofs.YtdchfologicbeaaGreat

namespace Go.Proofs.YtdchfologicbeaaGreat
set_option linter.unusedVariables false
open Go.ChangeShapes Go.WideShapes Go.ChangeAt Go.RowKit

set_option maxHeartbeats 1000000 in
theorem indexI_any (a : Option Addr) (cap : Nat) (is : List Int) (x : Int) (w : World) (hp : IntsAt w a is) (hl : is.length ≤ 1048576) :
    Calls Tryz.prog 178 #[.slice a is.length cap, .int .i64 x] w fun e w' => (∃ r, e = .returned (.int .i64 r) ∧ ((r = -1 ∧ x ∉ is) ∨ (0 ≤ r ∧ x ∈ is))) ∧ w = w' := by
  have HP := Lib.hid hp
  clear hp
  go_enter Tryz.func178, Tryz.ntmps178
  go_wp2
  go_loop [5, 8] (fun _ i => ∃ k : Nat, k ≤ is.length ∧ i = .int .i64 k ∧ ∀ j, j < k → x ≠ ix is j) (fun _ i => is.length - (intOf i).toNat)
  case atStart => exact ⟨0, Nat.zero_le _, rfl, fun j h => absurd h (Nat.not_lt_zero _)⟩
  case round =>
    obtain ⟨k, hk, rfl, hall⟩ := hrel
    have HA := Lib.hid hall
    clear hall
    by_cases hlt : k < is.length
    · obtain ⟨b, off, rfl, hb, hc1⟩ := HP.out k hlt
      by_cases h1 : x = ix is k
      · have e1 : (x == ix is k) = true := by simp [h1]
        have HM : Hid (x ∈ is) := mem_ix.2 ⟨k, hlt, h1.symm⟩
        clear h1
        go_wp2
        go_ret
        exact ⟨⟨_, rfl, .inr ⟨by omega, HM.out⟩⟩, rfl⟩
      · have e1 : (x == ix is k) = false := by simp [h1]
        have H1 := Lib.hid h1
        clear h1
        go_wp2
        go_round
        case rel => exact ⟨k + 1, by omega, by go_num, fun j hj => by by_cases e : j = k; (subst e; exact H1.out); exact HA.out j (by omega)⟩
        case measure => simp [intOf]; omega
    · obtain rfl : k = is.length := by omega
      have HM : Hid (x ∉ is) := fun h => by
        obtain ⟨i, hi, e⟩ := mem_ix.1 h
        exact HA.out i hi e.symm
      go_wp2
      go_ret
      exact ⟨⟨_, rfl, .inl ⟨rfl, HM.out⟩⟩, rfl⟩

set_option maxHeartbeats 1000000 in
theorem containsI_any (a : Option Addr) (cap : Nat) (is : List Int) (x : Int) (w : World) (hp : IntsAt w a is) (hl : is.length ≤ 1048576) :
    Calls Tryz.prog 126 #[.slice a is.length cap, .int .i64 x] w fun e w' => e = .returned (.bool (decide (x ∈ is))) ∧ w = w' := by
  have HP := Lib.hid hp
  clear hp
  go_enter Tryz.func126, Tryz.ntmps126
  go_wp2_with fail
  refine (indexI_any _ _ _ _ _ HP.out hl).mono ?_
  rintro e w1 ⟨⟨r, rfl, hr⟩, rfl⟩
  rcases hr with ⟨rfl, h⟩ | ⟨h0, h⟩
  · have HE : Hid (decide (x ∈ is) = false) := by simp [Hid, h]
    clear h
    go_wp2
    go_ret
    exact ⟨by rw [HE.out]; rfl, rfl⟩
  · have HE : Hid (decide (x ∈ is) = true) := by simp [Hid, h]
    clear h
    go_wp2
    go_ret
    exact ⟨by rw [HE.out]; rfl, rfl⟩

/-- whether one is ahead of the other, or it -/
noncomputable def aheadV (cs : List Cm) (hs : List Hd) (x y : Int) : Bool := decide (x ∈ pastV cs hs y)

set_option maxRecDepth 100000 in
set_option maxHeartbeats 2000000 in
theorem implRepoAhead_any (a b : Option Addr) (ca cb : Nat) (cs : List Cm) (hs : List Hd) (x y : Int) (w : World) (hr : RepoAt w a b cs hs) (hl : RpLen cs hs 1048576) (hca : cs.length ≤ ca) :
    Calls Tryz.prog 57 #[.agg #[.slice a cs.length ca, .slice b hs.length cb], .int .i64 x, .int .i64 y] w fun e w' => e = .returned (.bool (aheadV cs hs x y)) ∧ Below w.heap.size w w' := by
  have HR := Lib.hid hr
  have HL := Lib.hid hl
  clear hr hl
  have A1 : Hid (∀ o, Below w.heap.size w (w.alloc o)) := fun o => (Below.refl _ _).alloc (Nat.le_refl _) _
  go_enter Tryz.func57, Tryz.ntmps57
  go_wp2_with fail
  refine (implRepoPast_any _ _ _ _ cs hs y _ (HR.out.below (A1.out _)) HL.out hca).mono ?_
  rintro e w1 ⟨⟨v, rfl, hG⟩, hb1⟩
  have B1 : Hid (Below w.heap.size w w1) := (A1.out _).trans (hb1.mono (by simp))
  obtain ⟨av, cv, rfl, hcv, hia⟩ := hG.form
  have IA := Lib.hid hia
  have hlen : (pastV cs hs y).length ≤ 1048576 := by
    unfold pastV
    split
    · have := pastL_len (aheadB cs y.toNat) 14
      omega
    · simp
  clear hb1 hG hia
  go_wp2_with fail
  refine (containsI_any _ _ _ _ _ IA.out hlen).mono ?_
  rintro e w2 ⟨rfl, rfl⟩
  go_wp2
  go_ret
  exact ⟨rfl, B1.out⟩
end Go.Proofs.YtdchfologicbeaaGreat

namespace Go.Proofs.YtdchfologicbeaaGreat
set_option linter.unusedVariables false
open Go.ChangeShapes Go.WideShapes Go.ChangeAt Go.RowKit

open Classical in
noncomputable def inB (cs : List Cm) (hs : List Hd) (x : Int) : Bool := decide (RepoGood cs hs ∧ 0 ≤ x ∧ x < cs.length)

set_option maxRecDepth 100000 in
set_option maxHeartbeats 2000000 in
theorem l7In_any (a b : Option Addr) (ca cb : Nat) (cs : List Cm) (hs : List Hd) (x : Int) (w : World) (hr : RepoAt w a b cs hs) (hl : RpLen cs hs 1048576) :
    Calls Tryz.prog 121 #[.agg #[.slice a cs.length ca, .slice b hs.length cb], .int .i64 x] w fun e w' => e = .returned (.bool (inB cs hs x)) ∧ Below w.heap.size w w' := by
  have HR := Lib.hid hr
  have HL := Lib.hid hl
  clear hr hl
  have A1 : Hid (∀ o, Below w.heap.size w (w.alloc o)) := fun o => (Below.refl _ _).alloc (Nat.le_refl _) _
  go_enter Tryz.func121, Tryz.ntmps121
  go_wp2_with fail
  refine (specRepoOk_any _ _ _ _ _ _ _ (HR.out.below (A1.out _)) HL.out).mono ?_
  rintro e w1 ⟨rfl, hb1⟩
  have c0 := cell_later hb1 (a := ⟨w.heap.size, 0, none⟩) (v := .slice a cs.length ca) (by simp [go_sem])
  have B1 : Hid (Below w.heap.size w w1) := (A1.out _).trans (hb1.mono (by simp))
  have hll := HL.out.cl
  clear hb1
  by_cases hg : RepoGood cs hs
  · rw [repoOk_true hg]
    by_cases h0 : 0 ≤ x
    · have HE : Hid (inB cs hs x = decide (x < cs.length)) := by simp [Hid, inB, hg, h0]
      clear hg
      go_wp2
      go_ret
      exact ⟨by rw [HE.out]; rfl, B1.out⟩
    · have HE : Hid (inB cs hs x = false) := by simp [Hid, inB]; intro _ _; omega
      clear hg
      go_wp2
      go_ret
      exact ⟨by rw [HE.out]; rfl, B1.out⟩
  · rw [repoOk_false hg]
    have HE : Hid (inB cs hs x = false) := by simp [Hid, inB, hg]
    clear hg
    go_wp2
    go_ret
    exact ⟨by rw [HE.out]; rfl, B1.out⟩

theorem marks_one (cs : List Cm) (k j : Nat) : marksV cs [(k : Int)] j = aheadB cs k j := by
  rw [Bool.eq_iff_iff, aheadB_iff]
  simp only [marksV, decide_eq_true_iff]
  constructor
  · rintro ⟨f, hf, h⟩
    have : (f : Int) = (k : Int) := by simpa using hf
    rwa [show f = k by omega] at h
  · exact fun h => ⟨k, by simp, h⟩

theorem aheadV_true {cs : List Cm} {hs : List Hd} {i k : Nat} (g : RepoGood cs hs) (h : k < cs.length) (hi : i < cs.length) : aheadV cs hs i k = aheadB cs k i := by
  have hn := g.c2
  rw [Bool.eq_iff_iff]
  simp only [aheadV, decide_eq_true_iff]
  rw [pastV_ok g h, mem_pastL]
  constructor
  · rintro ⟨j, h1, h2, h3⟩
    rwa [show i = j by omega]
  · exact fun h3 => ⟨i, by omega, rfl, h3⟩

theorem aheadV_in {cs : List Cm} {hs : List Hd} {x y : Int} (h : aheadV cs hs x y = true) : inB cs hs x = true ∧ inB cs hs y = true := by
  simp only [aheadV, decide_eq_true_iff] at h
  by_cases hp : RepoGood cs hs ∧ 0 ≤ y ∧ y < cs.length
  · obtain ⟨k, rfl⟩ : ∃ k : Nat, y = k := ⟨y.toNat, by omega⟩
    have hk : k < cs.length := by omega
    rw [pastV_ok hp.1 hk, mem_pastL] at h
    obtain ⟨j, h1, rfl, h3⟩ := h
    have := (aheadB_iff.1 h3).le hp.1.ups hk
    simp only [inB, decide_eq_true_iff]
    exact ⟨⟨hp.1, by omega, by omega⟩, hp⟩
  · rw [pastV_bad hp] at h
    simp at h

set_option maxRecDepth 100000 in
set_option maxHeartbeats 4000000 in
theorem specRepoAhead_any (a b : Option Addr) (ca cb : Nat) (cs : List Cm) (hs : List Hd) (x y : Int) (w : World) (hr : RepoAt w a b cs hs) (hl : RpLen cs hs 1048576) :
    Calls Tryz.prog 56 #[.agg #[.slice a cs.length ca, .slice b hs.length cb], .int .i64 x, .int .i64 y] w fun e w' => e = .returned (.bool (aheadV cs hs x y)) ∧ Below w.heap.size w w' := by
  have HR := Lib.hid hr
  have HL := Lib.hid hl
  clear hr hl
  have A1 : Hid (∀ o, Below w.heap.size w (w.alloc o)) := fun o => (Below.refl _ _).alloc (Nat.le_refl _) _
  go_enter Tryz.func56, Tryz.ntmps56
  go_wp2_with fail
  refine (l7In_any _ _ _ _ _ _ _ _ (HR.out.below (A1.out _)) HL.out).mono ?_
  rintro e w1 ⟨rfl, hb1⟩
  have K1 : Hid (Box2 w1 w.heap.size (.slice a cs.length ca) (.slice b hs.length cb)) := (Box2.new w _ _ _).later hb1
  have B1 : Hid (Below w.heap.size w w1) := (A1.out _).trans (hb1.mono (by simp))
  clear hb1
  cases hx : inB cs hs x
  · have HE : Hid (aheadV cs hs x y = false) := by
      rw [Hid, ← Bool.not_eq_true]
      intro h
      rw [(aheadV_in h).1] at hx
      cases hx
    clear hx
    go_wp2
    go_ret
    exact ⟨by rw [HE.out]; rfl, B1.out⟩
  · have HX := Lib.hid hx
    clear hx
    obtain ⟨z0, c0, c1⟩ := K1.out
    go_wp2_with fail
    clear c0 c1
    refine (l7In_any _ _ _ _ _ _ _ _ (HR.out.below B1.out) HL.out).mono ?_
    rintro e w2 ⟨rfl, hb2⟩
    replace K1 := Lib.hid (K1.out.later hb2)
    have B2 : Hid (Below w.heap.size w w2) := B1.out.trans (hb2.mono B1.out.size)
    clear hb2 B1
    cases hy : inB cs hs y
    · have HE : Hid (aheadV cs hs x y = false) := by
        rw [Hid, ← Bool.not_eq_true]
        intro h
        rw [(aheadV_in h).2] at hy
        cases hy
      clear hy
      go_wp2
      go_ret
      exact ⟨by rw [HE.out]; rfl, B2.out⟩
    · have hX := HX.out
      simp only [inB, decide_eq_true_iff] at hX hy
      obtain ⟨i, rfl⟩ : ∃ i : Nat, x = i := ⟨x.toNat, by omega⟩
      obtain ⟨k, rfl⟩ : ∃ k : Nat, y = k := ⟨y.toNat, by omega⟩
      have hi : i < cs.length := by omega
      have hk : k < cs.length := by omega
      have HY := Lib.hid hy
      have q0 : (0 : Int) ≤ (i : Int) := by omega
      have q1 : (i : Int) < (cs.length : Int) := by omega
      have HE := Lib.hid (aheadV_true hX.1 hk hi)
      have HGG := Lib.hid hX.1
      clear hX hy
      have A2 : Hid (Below w2.heap.size w2 (w2.alloc (.cells #[.int .i64 (k : Int)] 3))) := (Below.refl _ _).alloc (Nat.le_refl _) _
      obtain ⟨z0, c0, c1⟩ := K1.out
      go_wp2_with fail
      clear c0 c1
      refine (l7Marks_any _ _ _ _ _ _ _ cs [(k : Int)] _ (HR.out.cms.below (B2.out.trans (A2.out.mono B2.out.size))) HGG.out.ups HGG.out.c2 HL.out.cms (int_one _ _ _) (by simp) (fun z hz => ⟨k, by simpa using hz, hk⟩)).mono ?_
      rintro e w3 ⟨p, rfl, hrow, _, hb3⟩
      have hd := hrow.cell (i := i) hi
      rw [marks_one] at hd
      have B3 : Hid (Below w.heap.size w w3) := B2.out.trans ((A2.out.trans (hb3.mono (by simp))).mono B2.out.size)
      clear hb3 hrow
      go_wp2
      go_ret
      exact ⟨by rw [HE.out]; rfl, B3.out⟩

set_option maxRecDepth 100000 in
set_option maxHeartbeats 4000000 in
theorem specRepoPast_any (a b : Option Addr) (ca cb : Nat) (cs : List Cm) (hs : List Hd) (x : Int) (w : World) (hr : RepoAt w a b cs hs) (hl : RpLen cs hs 1048576) :
    Calls Tryz.prog 49 #[.agg #[.slice a cs.length ca, .slice b hs.length cb], .int .i64 x] w fun e w' => (∃ v, e = .returned v ∧ GrowI w.heap.size (pastV cs hs x) w' v) ∧ Below w.heap.size w w' := by
  have HR := Lib.hid hr
  have HL := Lib.hid hl
  clear hr hl
  have A1 : Hid (∀ o o', Below w.heap.size w ((w.alloc o).alloc o')) := fun o o' => ((Below.refl _ _).alloc (Nat.le_refl _) _).alloc (by simp) _
  have G0 : Hid (GrowI w.heap.size [] ((w.alloc (.cells #[.slice a cs.length ca, .slice b hs.length cb] 62)).alloc (.cells #[] 3)) (.slice (some ⟨w.heap.size + 1, 0, none⟩) 0 0)) := by
    have := World.ownsRow_made (w.alloc (.cells #[.slice a cs.length ca, .slice b hs.length cb] 62)) #[] 0 (base := w.heap.size) (e := 3) (size := 1) (by simp) (by unfold maxLen; omega) rfl
    rw [World.size_alloc] at this
    exact ⟨this, by simp; omega⟩
  go_enter Tryz.func49, Tryz.ntmps49
  go_wp2_with fail
  refine (l7In_any _ _ _ _ _ _ _ _ (HR.out.below (A1.out _ _)) HL.out).mono ?_
  rintro e w1 ⟨rfl, hb1⟩
  have K1 : Hid (Box2 w1 w.heap.size (.slice a cs.length ca) (.slice b hs.length cb)) := ((Box2.new w _ _ _).later ((Below.refl _ _).alloc (Nat.le_refl _) _)).later hb1
  have B1 : Hid (Below w.heap.size w w1) := (A1.out _ _).trans (hb1.mono (by simp; omega))
  have G1 := Lib.hid (G0.out.below hb1)
  clear hb1 G0
  cases hx : inB cs hs x
  · have HE : Hid (pastV cs hs x = []) := pastV_bad fun h => by simp [inB, h] at hx
    clear hx
    go_wp2
    go_ret
    exact ⟨⟨_, rfl, by rw [HE.out]; exact G1.out⟩, B1.out⟩
  · simp only [inB, decide_eq_true_iff] at hx
    obtain ⟨k, rfl⟩ : ∃ k : Nat, x = k := ⟨x.toNat, by omega⟩
    have hk : k < cs.length := by omega
    have HGG := Lib.hid hx.1
    have HE : Hid (pastV cs hs k = pastL (marksV cs [(k : Int)]) (k + 1)) := by
      have hn := hx.1.c2
      rw [Hid, pastV_ok hx.1 hk]
      rw [pastL_more (n := k + 1) (m := 14) (by omega) fun j hj => ?_]
      · exact pastL_congr fun j _ => (marks_one cs k j).symm
      · rw [← Bool.not_eq_true, aheadB_iff]
        intro h
        have := h.le hx.1.ups hk
        omega
    clear hx
    have A2 : Hid (Below w1.heap.size w1 (w1.alloc (.cells #[.int .i64 (k : Int)] 3))) := (Below.refl _ _).alloc (Nat.le_refl _) _
    obtain ⟨z0, c0, c1⟩ := K1.out
    go_wp2_with fail
    clear c0 c1
    refine (l7Marks_any _ _ _ _ _ _ _ cs [(k : Int)] _ (HR.out.cms.below (B1.out.trans (A2.out.mono B1.out.size))) HGG.out.ups HGG.out.c2 HL.out.cms (int_one _ _ _) (by simp) (fun z hz => ⟨k, by simpa using hz, hk⟩)).mono ?_
    rintro e w2 ⟨p, rfl, hrow, hpp, hb2⟩
    have hb12 : Below w1.heap.size w1 w2 := A2.out.trans (hb2.mono (by simp))
    have B2 : Hid (Below w.heap.size w w2) := B1.out.trans (hb12.mono B1.out.size)
    have G2 := Lib.hid (G1.out.below hb12)
    have HRow := Lib.hid hrow
    have hz1 := B1.out.size
    have hz12 := hb12.size
    have z1 : w.heap.size + 1 < w1.heap.size := by have := G1.out.form; have h := G1.out.own.lt (w.heap.size + 1) rfl; omega
    have hne : ¬ (w.heap.size + 1 = p) := by simp at hpp; omega
    clear hb2 hrow hb12 G1 B1 A2 K1 hpp
    obtain ⟨L, hL⟩ : ∃ L, L = pastL (marksV cs [(k : Int)]) (k + 1) := ⟨_, rfl⟩
    rw [← hL] at HE
    have LL := Lib.hid hL
    have hlen : L.length ≤ 14 := by rw [hL]; have := pastL_len (marksV cs [(k : Int)]) (k + 1); have := HGG.out.c2; omega
    clear hL
    have hcl := HGG.out.c2
    go_wp2
    go_loopw [5, 7] (fun s5 i wr => ∃ (q : Nat) (acc : List Int), q ≤ k + 1 ∧ i = .int .i64 ((q : Int) - 1) ∧ acc ++ pastL (marksV cs [(k : Int)]) q = L ∧ GrowI w.heap.size acc wr s5 ∧ (∀ g, s5.ownBlock = some g → ¬ g = p) ∧ wr.rowIs p 4 cs.length (fun j => .bool (marksV cs [(k : Int)] j)) ∧ Below w.heap.size w wr) (fun _ i _ => (intOf i + 1).toNat)
    case atStart => exact ⟨k + 1, [], Nat.le_refl _, by simp, LL.out.symm, G2.out, fun g hg => by cases hg; exact hne, HRow.out, B2.out⟩
    case round =>
      clear G2 HRow B2 HR
      obtain ⟨q, acc, hq, rfl, hacc, hG, hown, hrow, hbel⟩ := hrel
      have HG := Lib.hid hG
      have HRo := Lib.hid hrow
      have HB := Lib.hid hbel
      have HA := Lib.hid hacc
      have HO := Lib.hid hown
      have hsz := hbel.size
      obtain ⟨av, cv, rfl, hcv, _⟩ := hG.form
      rcases q with _ | i
      · simp only [Int.natCast_zero, Int.zero_sub]
        have h1 : decide ((0 : Int) ≤ -1) = false := by decide
        have e : Hid (acc = L) := by rw [Hid, ← hacc]; simp [pastL]
        clear hacc hG hrow hbel hown
        go_wp2
        go_ret
        exact ⟨⟨_, rfl, by rw [HE.out, ← e.out]; exact HG.out⟩, HB.out⟩
      · have e1 : ((i + 1 : Nat) : Int) - 1 = (i : Int) := by omega
        rw [e1]
        clear e1
        have hd := hrow.cell (i := i) (by omega)
        have q5 : (0 : Int) ≤ (i : Int) := by omega
        have q6 : (i : Int) < (cs.length : Int) := by omega
        have hpl := hrow.lt
        have hla : acc.length ≤ 14 := by have : acc.length ≤ L.length := by rw [← hacc, List.length_append]; omega
                                         omega
        clear hacc hG hrow hbel hown
        cases hM : marksV cs [(k : Int)] i
        · rw [hM] at hd
          have HM := Lib.hid hM
          clear hM
          go_wp2
          go_roundw
          case rel => exact ⟨i, acc, by omega, rfl, by rw [← HA.out]; simp [pastL, HM.out], HG.out, HO.out, HRo.out, HB.out⟩
          case measure => simp [intOf]
        · rw [hM] at hd
          have HM := Lib.hid hM
          clear hM
          have A1 : Hid (Below wr.heap.size wr (wr.alloc (.cells #[.int .i64 (i : Int)] 3))) := (Below.refl _ _).alloc (Nat.le_refl _) _
          go_wp2_with (at_builtin; refine wpList_moreJ (by rfl) _ _ (by rfl) (HG.out.below A1.out) (int_one _ _ _) (by rfl) (by rfl) (by simp; omega) ?_; intro r a2 c2 W2 hr hgrow hG2 hat; have R := Lib.hid hr; have HGR := Lib.hid hgrow; have HG2 := Lib.hid hG2; have HAT := Lib.hid hat.out; clear hr hgrow hG2 hat)
          have hblk := (HG.out.below A1.out).block
          have hrow2 : W2.rowIs p 4 cs.length (fun j => .bool (marksV cs [(k : Int)] j)) := (HRo.out.alloc _).of_block (HGR.out.block _ (by simp; omega) fun e => HO.out _ e.symm rfl)
          go_roundw
          case rel => exact ⟨i, r, by omega, rfl, by rw [R.out, ← HA.out]; simp [pastL, HM.out], HG2.out, fun g hg e => by
            rcases HAT.out g hg with h1 | h1
            · exact HO.out g h1 e
            · simp at h1; omega, hrow2, (HB.out.alloc hsz _).grown HGR.out (by simp; omega) fun j hj => hblk j hj⟩
          case measure => simp [intOf]

theorem pastV_len (cs : List Cm) (hs : List Hd) (x : Int) : (pastV cs hs x).length ≤ 14 := by
  unfold pastV
  split
  · exact pastL_len _ _
  · simp
end Go.Proofs.YtdchfologicbeaaGreat

namespace Go.Proofs.YtdchfologicbeaaGreat
set_option linter.unusedVariables false
open Go.ChangeShapes Go.WideShapes Go.ChangeAt Go.RowKit

/-- one of these, from a place on, has it as one of its Up -/
def Struck (cs : List Cm) (B : Nat → Bool) (m j : Nat) : Prop := ∃ q, m ≤ q ∧ B q = true ∧ (j : Int) ∈ (mg cs q).1
open Classical in
noncomputable def struckB (cs : List Cm) (B : Nat → Bool) (m j : Nat) : Bool := decide (Struck cs B m j)
theorem struckB_iff {cs : List Cm} {B : Nat → Bool} {m j : Nat} : struckB cs B m j = true ↔ Struck cs B m j := by simp [struckB]

/-- those that are ahead of none of them -/
noncomputable def lastB (cs : List Cm) (B : Nat → Bool) (j : Nat) : Bool := B j && !struckB cs B 0 j

theorem struck_here {cs : List Cm} {B : Nat → Bool} {i : Nat} (g : UpsOk cs) : struckB cs B (i + 1) i = struckB cs B 0 i := by
  rw [Bool.eq_iff_iff, struckB_iff, struckB_iff]
  constructor
  · rintro ⟨q, h1, h2, h3⟩
    exact ⟨q, Nat.zero_le _, h2, h3⟩
  · rintro ⟨q, _, h2, h3⟩
    refine ⟨q, ?_, h2, h3⟩
    by_cases hq : q < cs.length
    · obtain ⟨u, e, hlt⟩ := g.mem hq h3
      omega
    · rw [mg_none (by omega)] at h3
      simp at h3

theorem struck_none (cs : List Cm) (B : Nat → Bool) (j : Nat) : struckB cs B cs.length j = false := by
  rw [← Bool.not_eq_true, struckB_iff]
  rintro ⟨q, h1, _, h3⟩
  rw [mg_none h1] at h3
  simp at h3

theorem struck_skip {cs : List Cm} {B : Nat → Bool} {i : Nat} (h : B i = false) (j : Nat) : struckB cs B (i + 1) j = struckB cs B i j := by
  rw [Bool.eq_iff_iff, struckB_iff, struckB_iff]
  constructor
  · rintro ⟨q, h1, h2, h3⟩
    exact ⟨q, by omega, h2, h3⟩
  · rintro ⟨q, h1, h2, h3⟩
    refine ⟨q, ?_, h2, h3⟩
    by_cases e : q = i
    · subst e; rw [h] at h2; cases h2
    · omega

theorem struck_step {cs : List Cm} {B : Nat → Bool} {i : Nat} (h : B i = true) (j : Nat) : (struckB cs B (i + 1) j || amongB (mg cs i).1 (mg cs i).1.length j) = struckB cs B i j := by
  rw [Bool.eq_iff_iff, Bool.or_eq_true, struckB_iff, struckB_iff]
  unfold amongB
  rw [decide_eq_true_iff, List.take_length]
  constructor
  · rintro (⟨q, h1, h2, h3⟩ | h3)
    · exact ⟨q, by omega, h2, h3⟩
    · exact ⟨i, Nat.le_refl _, h, h3⟩
  · rintro ⟨q, h1, h2, h3⟩
    by_cases e : q = i
    · subst e; exact .inr h3
    · exact .inl ⟨q, by omega, h2, h3⟩

/-- what the versions of these places have as their Up -/
def StrL (cs : List Cm) (l : List Int) (j : Nat) : Prop := ∃ q : Nat, (q : Int) ∈ l ∧ (j : Int) ∈ (mg cs q).1
open Classical in
noncomputable def strL (cs : List Cm) (l : List Int) (j : Nat) : Bool := decide (StrL cs l j)
theorem strL_iff {cs : List Cm} {l : List Int} {j : Nat} : strL cs l j = true ↔ StrL cs l j := by simp [strL]

theorem strL_nil (cs : List Cm) (j : Nat) : strL cs [] j = false := by
  rw [← Bool.not_eq_true, strL_iff]
  rintro ⟨q, h, _⟩
  simp at h

theorem strL_step {cs : List Cm} {l : List Int} {m q : Nat} (h : m < l.length) (e : ix l m = (q : Int)) (j : Nat) : (strL cs (l.take m) j || amongB (mg cs q).1 (mg cs q).1.length j) = strL cs (l.take (m + 1)) j := by
  have e2 : l.take (m + 1) = l.take m ++ [(q : Int)] := by
    rw [← e, ix_get h]
    exact List.take_succ_eq_append_getElem h
  rw [Bool.eq_iff_iff, Bool.or_eq_true, strL_iff, strL_iff, e2]
  unfold amongB
  rw [decide_eq_true_iff, List.take_length]
  constructor
  · rintro (⟨r, h1, h2⟩ | h2)
    · exact ⟨r, by simp [h1], h2⟩
    · exact ⟨q, by simp, h2⟩
  · rintro ⟨r, h1, h2⟩
    rcases List.mem_append.1 h1 with h3 | h3
    · exact .inl ⟨r, h3, h2⟩
    · have h4 : (r : Int) = (q : Int) := by simpa using h3
      have : r = q := by omega
      subst this
      exact .inr h2

theorem strL_past {cs : List Cm} {B : Nat → Bool} (hn : cs.length ≤ 14) (j : Nat) : strL cs (pastL B 14) j = struckB cs B 0 j := by
  rw [Bool.eq_iff_iff, strL_iff, struckB_iff]
  constructor
  · rintro ⟨q, h1, h2⟩
    obtain ⟨r, _, e, hB⟩ := mem_pastL.1 h1
    have : q = r := by omega
    subst this
    exact ⟨q, Nat.zero_le _, hB, h2⟩
  · rintro ⟨q, _, hB, h2⟩
    refine ⟨q, mem_pastL.2 ⟨q, ?_, rfl, hB⟩, h2⟩
    by_cases hq : q < cs.length
    · omega
    · rw [mg_none (by omega)] at h2
      simp at h2

/-- both lead to it -/
noncomputable def bothB (cs : List Cm) (i k j : Nat) : Bool := aheadB cs i j && aheadB cs k j

open Classical in
/-- the last versions that are ahead of both; none, if the room or one of them is not right -/
noncomputable def basesV (cs : List Cm) (hs : List Hd) (x y : Int) : List Int :=
  if RepoGood cs hs ∧ (0 ≤ x ∧ x < cs.length) ∧ 0 ≤ y ∧ y < cs.length then pastL (lastB cs (bothB cs x.toNat y.toNat)) 14 else []

theorem basesV_ok {cs : List Cm} {hs : List Hd} {i k : Nat} (g : RepoGood cs hs) (hi : i < cs.length) (hk : k < cs.length) : basesV cs hs i k = pastL (lastB cs (bothB cs i k)) 14 := by
  unfold basesV
  rw [if_pos ⟨g, ⟨by omega, by omega⟩, by omega, by omega⟩]
  simp

theorem basesV_bad {cs : List Cm} {hs : List Hd} {x y : Int} (h : ¬ (RepoGood cs hs ∧ (0 ≤ x ∧ x < cs.length) ∧ 0 ≤ y ∧ y < cs.length)) : basesV cs hs x y = [] := if_neg h

theorem basesV_len (cs : List Cm) (hs : List Hd) (x y : Int) : (basesV cs hs x y).length ≤ 14 := by
  unfold basesV
  split
  · exact pastL_len _ _
  · simp

theorem basesV_few {cs : List Cm} {hs : List Hd} {i k : Nat} (g : RepoGood cs hs) (hi : i < cs.length) (hk : k < cs.length) : basesV cs hs i k = pastL (lastB cs (bothB cs i k)) cs.length := by
  have hn := g.c2
  rw [basesV_ok g hi hk]
  refine pastL_more hn fun j hj => ?_
  unfold lastB bothB
  have : aheadB cs i j = false := by
    rw [← Bool.not_eq_true, aheadB_iff]
    intro h
    have := h.le g.ups hi
    omega
  rw [this]
  rfl
end Go.Proofs.YtdchfologicbeaaGreat
