/- Proved here: the law FnSheetIn answers true at every code, and leaves it as it was; no condition. -/
import Derived.Test.YtkklmdmdnehaeaaMDraw
import Derived.Test.YtkklmdmdnehaeaaWSheetInI
import Derived.Test.YtkklmdmdnehaeaaWInMath
import Derived.Test.YtkklmdmdnehaeaaWArg
namespace Go.Proofs.Ytkklmdmdnehaeaa
set_option linter.unusedVariables false
open Go.ChangeShapes Go.WideShapes Go.ChangeAt Go.RowKit Go.Deep

/-- where the two corners lie -/
def Cors (k : Nat) (ax ay bx bY : Int) (u : World) : Prop := u.cell? ⟨k, 0, none⟩ = some (.int .i64 ax) ∧ u.cell? ⟨k, 1, none⟩ = some (.int .i64 ay) ∧ u.cell? ⟨k + 1, 0, none⟩ = some (.int .i64 bx) ∧ u.cell? ⟨k + 1, 1, none⟩ = some (.int .i64 bY)
theorem Cors.below {k : Nat} {ax ay bx bY : Int} {u u' : World} (h : Cors k ax ay bx bY u) (hb : Below u.heap.size u u') : Cors k ax ay bx bY u' := ⟨cell_later hb h.1, cell_later hb h.2.1, cell_later hb h.2.2.1, cell_later hb h.2.2.2⟩
theorem Cors.lt {k : Nat} {ax ay bx bY : Int} {u : World} (h : Cors k ax ay bx bY u) : k + 1 < u.heap.size := World.block_lt_of_cell? _ _ h.2.2.1

theorem inAll_len (ax ay bx bY : Int) (fs : List Ft) : (inAll ax ay bx bY fs).length ≤ fs.length := by
  unfold inAll
  split
  · exact inN_len _ _ _ _ _ _
  · exact Nat.zero_le _

set_option maxRecDepth 100000 in
set_option maxHeartbeats 12800000 in
theorem fnSheetIn_walk (a : Option Addr) (n cap : Nat) (w : World) (h : CodeAt w a n) (hl : n ≤ 1048576) (hc : n ≤ cap) :
    Calls Try.prog 3 #[.slice a n cap] w fun e w' => e = .returned (.bool true) ∧ Below w.heap.size w w' := by
  have HC := Lib.hid h
  clear h
  go_enter Try.func3, Try.ntmps3
  go_wp2_with fail
  refine (drawSheetIn_any _ _ _ _ HC.out hl hc).mono ?_
  rintro e w1 ⟨sa, sc, fs, ax, ay, bx, bY, rfl, hF, hlen, hFL, ⟨x1, x2⟩, ⟨x3, x4⟩, ⟨x5, x6⟩, ⟨x7, x8⟩, hb1⟩
  have HF := Lib.hid hF
  have L2 : Hid (FeatsLen fs 1048576) := hFL.mono (by omega)
  have B := Lib.hid hb1
  clear hF hFL hb1 HC
  have A0 : Hid (∀ o o', Below w1.heap.size w1 ((w1.alloc o).alloc o')) := fun o o' => ((Below.refl _ _).alloc (Nat.le_refl _) _).alloc (by simp) _
  have m1 : fs.length ≤ 1048576 := by omega
  go_wp2_with fail
  refine (implSheetIn_any _ _ fs ax ay bx bY _ (HF.out.below (A0.out _ _)) m1 L2.out).mono ?_
  rintro e w2 ⟨⟨v, rfl, hN⟩, hb2⟩
  obtain ⟨la, lc, rfl, hS, _⟩ := owned_strs hN rfl
  have C : Hid (Cors w1.heap.size ax ay bx bY w2) := ⟨cell_later hb2 (by simp [go_sem]), cell_later hb2 (by simp [go_sem]), cell_later hb2 (by simp [go_sem]), cell_later hb2 (by simp [go_sem])⟩
  have HS := Lib.hid hS
  have b12 : Below w1.heap.size w1 w2 := (A0.out _ _).trans (hb2.mono (by simp; omega))
  have F2 := Lib.hid (HF.out.below b12)
  have B2 : Hid (Below w.heap.size w w2) := B.out.trans (b12.mono B.out.size)
  obtain ⟨c0, c1, d0, d1⟩ := C.out
  clear hN hb2 b12 hS HF B A0
  go_wp2_with fail
  refine (specSheetIn_any _ _ fs ax ay bx bY _ F2.out m1 L2.out).mono ?_
  rintro e w3 ⟨⟨v, rfl, hN⟩, hb3⟩
  obtain ⟨ma, mc, rfl, _, _⟩ := owned_strs hN rfl
  replace C := Lib.hid (C.out.below hb3)
  replace HS := Lib.hid (HS.out.below hb3)
  have F3 := Lib.hid (F2.out.below hb3)
  have B3 : Hid (Below w.heap.size w w3) := B2.out.trans (hb3.mono B2.out.size)
  clear hN hb3 F2 B2 c0 c1 d0 d1
  have hgl := inAll_len ax ay bx bY fs
  have HOK : Hid (sheetOk fs = true → inAll ax ay bx bY fs = inN ax ay bx bY fs fs.length) := fun h => by simp [inAll, h]
  have HNO : Hid (sheetOk fs = false → inAll ax ay bx bY fs = []) := fun h => by simp [inAll, h]
  generalize inAll ax ay bx bY fs = gs at *
  have hne : ((gs.length : Int) != (gs.length : Int)) = false := by simp
  go_wp2
  go_loopw [8, 9] (fun q i wr => ∃ j : Nat, j ≤ fs.length ∧ i = .int .i64 j ∧ q = .int .i64 ((inN ax ay bx bY fs j).length : Nat) ∧ (0 < j → sheetOk fs = true) ∧ Below w3.heap.size w3 wr) (fun _ i _ => fs.length - (intOf i).toNat)
  case atStart => exact ⟨0, Nat.zero_le _, rfl, rfl, fun h => absurd h (Nat.lt_irrefl 0), Below.refl _ _⟩
  case round =>
    obtain ⟨j, hj, rfl, rfl, hjo, hbel⟩ := hrel
    have HJO := Lib.hid hjo
    have HB := Lib.hid hbel
    have hsz := hbel.size
    clear hjo hne
    by_cases hlt : j < fs.length
    · clear hbel
      go_wp2_with fail
      refine (specSheetOk_any _ _ _ _ (F3.out.below HB.out) m1 L2.out).mono ?_
      rintro e w4 ⟨rfl, hb4⟩
      have B34 : Hid (Below w3.heap.size w3 w4) := HB.out.trans (hb4.mono hsz)
      clear hb4
      by_cases hok : sheetOk fs = true
      · rw [hok]
        have hg1 := HOK.out hok
        subst hg1
        obtain ⟨b, off, pa, pc, ta, tc, rfl, hb, hc1, hc2, hc3, hc4, hpp, htt⟩ := F3.out.below B34.out j hlt
        have PP := Lib.hid hpp
        have HK := Lib.hid hok
        have hid1 := Lib.hid hc1
        clear hpp htt hok hgl
        go_wp2_with fail
        refine (implShapeBox_any _ _ _ _ _ PP.out).mono ?_
        rintro e w5 ⟨rfl, hb5⟩
        have B35 : Hid (Below w3.heap.size w3 w5) := B34.out.trans (hb5.mono B34.out.size)
        have hc := cell_later hb5 hid1.out
        obtain ⟨c0, c1, d0, d1⟩ := C.out.below B35.out
        have z5 : w1.heap.size + 1 < w5.heap.size := World.block_lt_of_cell? _ _ d0
        have zb : b < w5.heap.size := World.block_lt_of_cell? _ _ hc
        have AA : ∀ o o', Below w5.heap.size w5 ((w5.alloc o).alloc o') := fun o o' => ((Below.refl _ _).alloc (Nat.le_refl _) _).alloc (by simp) _
        have e0 : ∀ o o', ((w5.alloc o).alloc o').cell? ⟨w1.heap.size, 0, none⟩ = some (.int .i64 ax) := fun o o' => cell_later (AA o o') c0
        have e1 : ∀ o o', ((w5.alloc o).alloc o').cell? ⟨w1.heap.size, 1, none⟩ = some (.int .i64 ay) := fun o o' => cell_later (AA o o') c1
        have f0 : ∀ o o', ((w5.alloc o).alloc o').cell? ⟨w1.heap.size + 1, 0, none⟩ = some (.int .i64 bx) := fun o o' => cell_later (AA o o') d0
        have f1 : ∀ o o', ((w5.alloc o).alloc o').cell? ⟨w1.heap.size + 1, 1, none⟩ = some (.int .i64 bY) := fun o o' => cell_later (AA o o') d1
        have g0 : ∀ o o', ((w5.alloc o).alloc o').cell? ⟨b, off + j * 4, none⟩ = some (.string (fid fs j)) := fun o o' => cell_later (AA o o') hc
        have BE : Hid (∀ o o', Below w3.heap.size w3 ((w5.alloc o).alloc o')) := fun o o' => B35.out.trans ((AA o o').mono B35.out.size)
        have HT : Hid (touches ax ay bx bY (fkd fs j) (fps fs j) = (decide (boxLX (fkd fs j) (fps fs j) ≤ bx) && (decide (boxLY (fkd fs j) (fps fs j) ≤ bY) && (decide (ax ≤ boxHX (fkd fs j) (fps fs j)) && decide (ay ≤ boxHY (fkd fs j) (fps fs j)))))) := rfl
        have NO : Hid (touches ax ay bx bY (fkd fs j) (fps fs j) = false → inN ax ay bx bY fs (j + 1) = inN ax ay bx bY fs j) := fun h => by simp [inN, h]
        have YES : Hid (touches ax ay bx bY (fkd fs j) (fps fs j) = true → (inN ax ay bx bY fs (j + 1)).length = (inN ax ay bx bY fs j).length + 1) := fun h => by simp [inN, h]
        have AT : Hid (touches ax ay bx bY (fkd fs j) (fps fs j) = true → _) := fun h => inN_at (ax := ax) (ay := ay) (bx := bx) (bY := bY) (fs := fs) (m := fs.length) hlt h
        have hln := inN_len ax ay bx bY fs j
        clear hc c0 c1 d0 d1 hc2 hc3 hc4 hb5 AA hc1
        generalize boxLX (fkd fs j) (fps fs j) = lx at *
        generalize boxLY (fkd fs j) (fps fs j) = ly at *
        generalize boxHX (fkd fs j) (fps fs j) = hx at *
        generalize boxHY (fkd fs j) (fps fs j) = hy at *
        by_cases h1 : lx ≤ bx
        · by_cases h2 : ax ≤ hx
          · by_cases h3 : ly ≤ bY
            · by_cases h4 : ay ≤ hy
              · have ht : touches ax ay bx bY (fkd fs j) (fps fs j) = true := by rw [HT.out]; simp [h1, h2, h3, h4]
                obtain ⟨hq1, hq2⟩ := AT.out ht
                have HY := Lib.hid (YES.out ht)
                obtain ⟨b', off', rfl, hb', u1⟩ := HS.out _ hq1
                rw [hq2] at u1
                have g1 : ∀ o o', ((w5.alloc o).alloc o').cell? ⟨b', off' + (inN ax ay bx bY fs j).length, none⟩ = some (.string (fid fs j)) := fun o o' => cell_later (BE.out o o') u1
                have hge : decide ((inN ax ay bx bY fs fs.length).length ≤ (inN ax ay bx bY fs j).length) = false := by simpa using hq1
                have zb' : b' < w5.heap.size := Nat.lt_of_lt_of_le hb' B35.out.size
                have hbq : ((fid fs j).toList == (fid fs j).toList) = true := by simp
                clear ht hq2 u1 HT NO YES AT
                go_wp2
                go_quiet (fail)
                go_wp2
                go_roundw
                case rel => exact ⟨j + 1, by omega, by go_num, by rw [HY.out]; go_num, fun _ => HK.out, below_drewN (BE.out _ _) nq⟩
                case measure => simp [intOf]; omega
              · have HNO' := Lib.hid (NO.out (by rw [HT.out]; simp [h1, h2, h3, h4]))
                go_wp2
                go_roundw
                case rel => exact ⟨j + 1, by omega, by go_num, by rw [HNO'.out], fun _ => HK.out, BE.out _ _⟩
                case measure => simp [intOf]; omega
            · have HNO' := Lib.hid (NO.out (by rw [HT.out]; simp [h1, h2, h3]))
              go_wp2
              go_roundw
              case rel => exact ⟨j + 1, by omega, by go_num, by rw [HNO'.out], fun _ => HK.out, BE.out _ _⟩
              case measure => simp [intOf]; omega
          · have HNO' := Lib.hid (NO.out (by rw [HT.out]; simp [h1, h2]))
            go_wp2
            go_roundw
            case rel => exact ⟨j + 1, by omega, by go_num, by rw [HNO'.out], fun _ => HK.out, BE.out _ _⟩
            case measure => simp [intOf]; omega
        · have HNO' := Lib.hid (NO.out (by rw [HT.out]; simp [h1]))
          go_wp2
          go_roundw
          case rel => exact ⟨j + 1, by omega, by go_num, by rw [HNO'.out], fun _ => HK.out, BE.out _ _⟩
          case measure => simp [intOf]; omega
      · have hok' : sheetOk fs = false := by simpa using hok
        have hg1 := HNO.out hok'
        subst hg1
        obtain rfl : j = 0 := by
          by_cases h0 : 0 < j
          · exact absurd (HJO.out h0) hok
          · omega
        have HK := Lib.hid hok'
        have HZ : Hid (inAll (-1000) (-1000) 1000 1000 fs = []) := by show _ = _; simp [inAll, hok']
        rw [hok']
        clear hok hok' hgl
        go_wp2_with fail
        refine (implSheetIn_any _ _ fs (-1000) (-1000) 1000 1000 _ (F3.out.below B34.out) m1 L2.out).mono ?_
        rintro e w5 ⟨⟨v, rfl, hN⟩, hb5⟩
        obtain ⟨ra, rc, rfl, _, _⟩ := owned_strs hN rfl
        rw [HZ.out]
        have B35 : Hid (Below w3.heap.size w3 w5) := B34.out.trans (hb5.mono B34.out.size)
        clear hN hb5
        go_wp2_with (go_at_call 10; refine (specSheetOk_any _ _ fs _ (F3.out.below (by first | exact B36.out | exact B35.out)) m1 L2.out).mono ?_; rintro e w6 ⟨rfl, hb6⟩; rw [HK.out]; first | have B37 : Hid (Below w3.heap.size w3 w6) := B36.out.trans (hb6.mono B36.out.size) | have B36 : Hid (Below w3.heap.size w3 w6) := B35.out.trans (hb6.mono B35.out.size); clear hb6)
        go_ret
        exact ⟨rfl, B3.out.trans (B37.out.mono B3.out.size)⟩
    · obtain rfl : j = fs.length := by omega
      have hok : sheetOk fs = true := by
        by_cases h : 0 < fs.length
        · exact HJO.out h
        · have : fs = [] := List.eq_nil_of_length_eq_zero (by omega)
          subst this
          rfl
      have hg1 := HOK.out hok
      subst hg1
      have HK := Lib.hid hok
      have HZ := Lib.hid (inAll_every hok)
      clear hok hbel hgl
      go_wp2_with fail
      refine (implSheetIn_any _ _ fs (-1000) (-1000) 1000 1000 _ (F3.out.below HB.out) m1 L2.out).mono ?_
      rintro e w5 ⟨⟨v, rfl, hN⟩, hb5⟩
      obtain ⟨ra, rc, rfl, _, _⟩ := owned_strs hN rfl
      rw [HZ.out]
      have B35 : Hid (Below w3.heap.size w3 w5) := HB.out.trans (hb5.mono hsz)
      clear hN hb5
      go_wp2_with fail
      refine (specSheetOk_any _ _ fs _ (F3.out.below B35.out) m1 L2.out).mono ?_
      rintro e w6 ⟨rfl, hb6⟩
      rw [HK.out]
      have B36 : Hid (Below w3.heap.size w3 w6) := B35.out.trans (hb6.mono B35.out.size)
      clear hb6
      go_wp2
      go_ret
      exact ⟨rfl, B3.out.trans (B36.out.mono B3.out.size)⟩

set_option maxHeartbeats 400000 in
theorem fnSheetIn_large (a : Option Addr) (n cap : Nat) (w : World) (hn : 1048576 < n) :
    Calls Try.prog 3 #[.slice a n cap] w fun e w' => e = .returned (.bool true) ∧ Below w.heap.size w w' := by
  have hg : (1048576 : Int) < (n : Int) := by omega
  go_enter Try.func3, Try.ntmps3
  go_wp2
  go_ret
  exact ⟨rfl, Below.refl _ _⟩

theorem fnSheetIn_all (a : Option Addr) (n cap : Nat) (w : World) (h : CodeAt w a n) (hc : n ≤ cap) (_ : n ≤ maxLen) :
    Calls Try.prog 3 #[.slice a n cap] w fun e w' => e = .returned (.bool true) ∧ Below w.heap.size w w' := by
  by_cases h1 : n ≤ 1048576
  · exact fnSheetIn_walk a n cap w h h1 hc
  · exact fnSheetIn_large a n cap w (by omega)

set_option maxRecDepth 100000 in
theorem fnSheetIn_lifted (os : Os) (started : os.Started) (H : Type) (enc : TypeId × Value → H) :
    ReturnsInHanded {} Try.checked os 3 .any (Rows.fnSheetInSpec.pre6 enc Try.prog Try.f3 Rows.fnSheetInRow.domain false) (Rows.fnSheetInSpec.post enc Try.prog Try.f3 false true false false) := by
  refine returnsInHanded_of_change (C := Try.checked) own started (by kernel_rfl) Try.func3
    (ChangeSpec.witness6 (enc := enc) (C := Try.checked) false ⟨#[], #[.slice none 0 0], []⟩ 8 (by kernel_rfl) (by kernel_rfl) (by kernel_rfl) (by kernel_rfl)) ?_
  intro W base args ds gs before hval0 hW _ _
  have hval : ∀ (j : Nat) t v, Try.f3.params[j]? = some t → args[j]? = some v → Value.okWide Try.prog W .any base t v := hval0
  have hW' := hW
  obtain ⟨p, q, hA0, hV, rfl, _, _⟩ := hW
  have hA : DataW.TrodAll enc Try.prog W 0 (fun _ => true) true Try.f3.params.toList args.toList ds p := hA0
  rw [Try.params3] at hA hval
  obtain ⟨v0, vs0, d0, ds0, p0, q0, hargs, rfl, rfl, h0, r0⟩ := trodAll_cons hA
  obtain ⟨rfl, rfl, rfl⟩ := trodAll_nil r0
  obtain rfl : args = #[v0] := by cases args; simp_all
  obtain ⟨rfl, rfl⟩ := trodVars_none hV
  have k0 := h0
  have lt0 : ∀ x ∈ p0, x.block < W.heap.size := by obtain ⟨m, hm⟩ := k0; exact DataW.trod_lt m _ _ _ hm
  obtain ⟨a0, n0, c0, rfl, f0, g0, m0⟩ := open_code (hval 0 22 v0 rfl rfl) h0
  clear hA0 hval0
  refine (fnSheetIn_all a0 n0 c0 W f0 g0 m0).mono fun e W' ⟨he, bel⟩ => ?_
  subst he
  exact ⟨_, rfl, _, _, _, [], _, [], hW', trodAll_mk1 (shut_bool Try.underlying4 _), (trodAll_cons_mk (Below.trod laidOut (by kernel_rfl) (of_decide_eq_true (by kernel_rfl)) k0 bel lt0) trodAll_mk0), rfl, bel.frame _, fun h => by cases h⟩

theorem fnSheetIn_over : Rows.fnSheetInRow.holds Try.pinned (OpenSpec.ofChange Rows.fnSheetInSpec) :=
  OpenClaim.holds_of_wide 3 Try.f3 rfl rfl rfl rfl rfl rfl rfl ⟨rfl, rfl, rfl, rfl, rfl⟩ rfl rfl rfl rfl rfl (by kernel_rfl) Try.func3 (by kernel_rfl)
    (of_decide_eq_true (by kernel_rfl)) (by unfold Func.isWrapper; first | (rw [if_pos (by decide +kernel)]; kernel_rfl) | (rw [if_neg (by decide +kernel)]; exact ⟨rfl, rfl⟩))
    (fun os started H enc _ => fnSheetIn_lifted os started H enc)

/-- the given statement -/
theorem fnSheetIn_holds : Rows.FnSheetInSaid := fnSheetIn_over

end Go.Proofs.Ytkklmdmdnehaeaa
