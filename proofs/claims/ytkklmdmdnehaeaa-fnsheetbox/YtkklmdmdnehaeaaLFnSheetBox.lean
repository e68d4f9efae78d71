/- Proved here: the law FnSheetBox answers true at every code, and leaves it as it was; no condition. -/
import Derived.Test.YtkklmdmdnehaeaaMDraw
import Derived.Test.YtkklmdmdnehaeaaWSheetInI
import Derived.Test.YtkklmdmdnehaeaaWInMath
import Derived.Test.YtkklmdmdnehaeaaWArg
namespace Go.Proofs.Ytkklmdmdnehaeaa
set_option linter.unusedVariables false
open Go.ChangeShapes Go.WideShapes Go.ChangeAt Go.RowKit Go.Deep

/-- where the two corners lie -/
def Cors (k : Nat) (ax ay bx bY : Int) (u : World) : Prop := u.cell? ⟨k, 0, none⟩ = some (.int .i64 ax) ∧ u.cell? ⟨k, 1, none⟩ = some (.int .i64 ay) ∧ u.cell? ⟨k + 1, 0, none⟩ = some (.int .i64 bx) ∧ u.cell? ⟨k + 1, 1, none⟩ = some (.int .i64 bY)
theorem Cors.below {k : Nat} {ax ay bx bY : Int} {u u' : World} (h : Cors k ax ay bx bY u) (hb : Below u.heap.size u u') : Cors k ax ay bx bY u' := ⟨cell_later hb h.1, cell_later hb h.2.1, cell_later hb h.2.2.1, cell_later hb h.2.2.2⟩

theorem inAll_len (ax ay bx bY : Int) (fs : List Ft) : (inAll ax ay bx bY fs).length ≤ fs.length := by
  unfold inAll
  split
  · exact inN_len _ _ _ _ _ _
  · exact Nat.zero_le _

set_option maxRecDepth 100000 in
set_option maxHeartbeats 12800000 in
theorem fnSheetBox_walk (a : Option Addr) (n cap : Nat) (w : World) (h : CodeAt w a n) (hl : n ≤ 1048576) (hc : n ≤ cap) :
    Calls Try.prog 5 #[.slice a n cap] w fun e w' => e = .returned (.bool true) ∧ Below w.heap.size w w' := by
  have HC := Lib.hid h
  clear h
  go_enter Try.func5, Try.ntmps5
  go_wp2_with fail
  refine (drawSheetIn_any _ _ _ _ HC.out hl hc).mono ?_
  rintro e w1 ⟨sa, sc, fs, ax, ay, bx, bY, rfl, hF, hlen, hFL, ⟨x1, x2⟩, ⟨x3, x4⟩, ⟨x5, x6⟩, ⟨x7, x8⟩, hb1⟩
  have HF := Lib.hid hF
  have L2 : Hid (FeatsLen fs 1048576) := hFL.mono (by omega)
  have B := Lib.hid hb1
  clear hF hFL hb1 HC
  have A0 : Hid (∀ o o', Below w1.heap.size w1 ((w1.alloc o).alloc o')) := fun o o' => ((Below.refl _ _).alloc (Nat.le_refl _) _).alloc (by simp) _
  have m1 : fs.length ≤ 1048576 := by omega
  go_wp2_with fail
  refine (implSheetIn_any _ _ fs ax ay bx bY _ (HF.out.below (A0.out _ _)) m1 L2.out).mono ?_
  rintro e w2 ⟨⟨v, rfl, hN⟩, hb2⟩
  obtain ⟨la, lc, rfl, hS, _⟩ := owned_strs hN rfl
  have C : Hid (Cors w1.heap.size ax ay bx bY w2) := ⟨cell_later hb2 (by simp [go_sem]), cell_later hb2 (by simp [go_sem]), cell_later hb2 (by simp [go_sem]), cell_later hb2 (by simp [go_sem])⟩
  have HS := Lib.hid hS
  have b12 : Below w1.heap.size w1 w2 := (A0.out _ _).trans (hb2.mono (by simp; omega))
  have F2 := Lib.hid (HF.out.below b12)
  have B2 : Hid (Below w.heap.size w w2) := B.out.trans (b12.mono B.out.size)
  obtain ⟨c0, c1, d0, d1⟩ := C.out
  clear hN hb2 b12 hS HF B A0
  go_wp2_with fail
  refine (specSheetIn_any _ _ fs ax ay bx bY _ F2.out m1 L2.out).mono ?_
  rintro e w3 ⟨⟨v, rfl, hN⟩, hb3⟩
  obtain ⟨qa, qc, rfl, _, _⟩ := owned_strs hN rfl
  replace C := Lib.hid (C.out.below hb3)
  replace HS := Lib.hid (HS.out.below hb3)
  have F3 := Lib.hid (F2.out.below hb3)
  have B3 : Hid (Below w.heap.size w w3) := B2.out.trans (hb3.mono B2.out.size)
  have hne : (((inAll ax ay bx bY fs).length : Int) != ((inAll ax ay bx bY fs).length : Int)) = false := by simp
  clear hN hb3 F2 B2 c0 c1 d0 d1
  obtain ⟨c0, c1, d0, d1⟩ := C.out
  go_wp2_with fail
  refine (implSheetIn_any _ _ fs (ax - 1) (ay - 1) (bx + 1) (bY + 1) _ F3.out m1 L2.out).mono ?_
  rintro e w4 ⟨⟨v, rfl, hN⟩, hb4⟩
  obtain ⟨ma, mc, rfl, hM, _⟩ := owned_strs hN rfl
  replace C := Lib.hid (C.out.below hb4)
  replace HS := Lib.hid (HS.out.below hb4)
  have HM := Lib.hid hM
  have F4 := Lib.hid (F3.out.below hb4)
  have B4 : Hid (Below w.heap.size w w4) := B3.out.trans (hb4.mono B3.out.size)
  clear hN hb4 hM F3 B3 hne c0 c1 d0 d1
  obtain ⟨c0, c1, d0, d1⟩ := C.out
  go_wp2_with fail
  refine (implSheetIn_any _ _ fs ax ay ax ay _ F4.out m1 L2.out).mono ?_
  rintro e w5 ⟨⟨v, rfl, hN⟩, hb5⟩
  obtain ⟨na, nc, rfl, hO, _⟩ := owned_strs hN rfl
  replace C := Lib.hid (C.out.below hb5)
  replace HS := Lib.hid (HS.out.below hb5)
  replace HM := Lib.hid (HM.out.below hb5)
  have HO := Lib.hid hO
  have B5 : Hid (Below w.heap.size w w5) := B4.out.trans (hb5.mono B4.out.size)
  clear hN hb5 hO F4 B4 c0 c1 d0 d1
  have S1 : Hid ((inAll ax ay bx bY fs).Sublist (inAll (ax - 1) (ay - 1) (bx + 1) (bY + 1) fs)) := inAll_sub (by omega) (by omega) (by omega) (by omega) fs
  have S2 : Hid (ax ≤ bx → ay ≤ bY → (inAll ax ay ax ay fs).Sublist (inAll ax ay bx bY fs)) := fun h1 h2 => inAll_sub (by omega) (by omega) h1 h2 fs
  have l1 := inAll_len ax ay bx bY fs
  have l2 := inAll_len (ax - 1) (ay - 1) (bx + 1) (bY + 1) fs
  have l3 := inAll_len ax ay ax ay fs
  generalize inAll (ax - 1) (ay - 1) (bx + 1) (bY + 1) fs = ms at *
  generalize inAll ax ay bx bY fs = ls at *
  generalize inAll ax ay ax ay fs = ns at *
  go_wp2
  go_loopw [9, 10] (fun q i wr => ∃ k j m : Nat, k ≤ ls.length ∧ j ≤ ms.length ∧ i = .int .i64 j ∧ q = .int .i64 k ∧ (ls.drop k).Sublist (ms.drop j) ∧ wr = w5.drewN m) (fun _ i _ => ms.length - (intOf i).toNat)
  case atStart => exact ⟨0, 0, 0, Nat.zero_le _, Nat.zero_le _, rfl, rfl, by simpa using S1.out, rfl⟩
  case round =>
    obtain ⟨k, j, m, hk, hj, rfl, rfl, hsub, rfl⟩ := hrel
    have HSU := Lib.hid hsub
    clear hsub
    by_cases hlt : j < ms.length
    · obtain ⟨b', off', rfl, hb', u2⟩ := HM.out j hlt
      by_cases hkl : k < ls.length
      · obtain ⟨b, off, rfl, hb, u1⟩ := HS.out k hkl
        have hbq := bytes_beq (sx ls k) (sx ms j)
        by_cases he : sx ls k = sx ms j
        · rw [decide_eq_true he] at hbq
          have HE := Lib.hid he
          clear he
          go_wp2
          go_quiet (fail)
          go_wp2
          go_roundw
          case rel => exact ⟨k + 1, j + 1, _, by omega, by omega, by go_num, by go_num, sub_step_yes hkl hlt HSU.out HE.out, rfl⟩
          case measure => simp [intOf]; omega
        · rw [decide_eq_false he] at hbq
          have HE := Lib.hid he
          clear he
          go_wp2
          go_quiet (fail)
          go_wp2
          go_roundw
          case rel => exact ⟨k, j + 1, _, by omega, by omega, by go_num, rfl, sub_step_no hkl hlt HSU.out HE.out, rfl⟩
          case measure => simp [intOf]; omega
      · have hd : decide (k < ls.length) = false := by simpa using hkl
        go_wp2
        go_quiet (fail)
        go_wp2
        go_roundw
        case rel => exact ⟨k, j + 1, _, by omega, by omega, by go_num, rfl, sub_step_over (by omega), rfl⟩
        case measure => simp [intOf]; omega
    · obtain rfl := sub_end hk (by omega) HSU.out
      go_wp2
      go_loopw [11, 12] (fun q i wr => ∃ k j m : Nat, k ≤ ns.length ∧ j ≤ ls.length ∧ i = .int .i64 j ∧ q = .int .i64 k ∧ (ax ≤ bx → ay ≤ bY → (ns.drop k).Sublist (ls.drop j)) ∧ wr = w5.drewN m) (fun _ i _ => ls.length - (intOf i).toNat)
      case atStart => exact ⟨0, 0, m, Nat.zero_le _, Nat.zero_le _, rfl, rfl, by simpa using S2.out, rfl⟩
      case round =>
        obtain ⟨k, j', m', hk', hj', rfl, rfl, hsub, rfl⟩ := hrel
        have HSU := Lib.hid hsub
        clear hsub
        by_cases hlt' : j' < ls.length
        · obtain ⟨b', off', rfl, hb', u2⟩ := HS.out j' hlt'
          by_cases hkl : k < ns.length
          · obtain ⟨b, off, rfl, hb, u1⟩ := HO.out k hkl
            have hbq := bytes_beq (sx ns k) (sx ls j')
            by_cases he : sx ns k = sx ls j'
            · rw [decide_eq_true he] at hbq
              have HE := Lib.hid he
              clear he
              go_wp2
              go_quiet (fail)
              go_wp2
              go_roundw
              case rel => exact ⟨k + 1, j' + 1, _, by omega, by omega, by go_num, by go_num, fun p q => sub_step_yes hkl hlt' (HSU.out p q) HE.out, rfl⟩
              case measure => simp [intOf]; omega
            · rw [decide_eq_false he] at hbq
              have HE := Lib.hid he
              clear he
              go_wp2
              go_quiet (fail)
              go_wp2
              go_roundw
              case rel => exact ⟨k, j' + 1, _, by omega, by omega, by go_num, rfl, fun p q => sub_step_no hkl hlt' (HSU.out p q) HE.out, rfl⟩
              case measure => simp [intOf]; omega
          · have hd : decide (k < ns.length) = false := by simpa using hkl
            go_wp2
            go_quiet (fail)
            go_wp2
            go_roundw
            case rel => exact ⟨k, j' + 1, _, by omega, by omega, by go_num, rfl, fun p q => sub_step_over (by omega), rfl⟩
            case measure => simp [intOf]; omega
        · obtain ⟨c0, c1, d0, d1⟩ := C.out
          have HE : Hid (ax ≤ bx → ay ≤ bY → k = ns.length) := fun p q => sub_end hk' (by omega) (HSU.out p q)
          have h0 : ((ls.length : Int) == (ls.length : Int)) = true := by simp
          by_cases g1 : bx < ax
          · go_wp2
            go_ret
            exact ⟨rfl, below_drewN B5.out _⟩
          · by_cases g2 : bY < ay
            · go_wp2
              go_ret
              exact ⟨rfl, below_drewN B5.out _⟩
            · obtain rfl := HE.out (by omega) (by omega)
              have h1 : ((ns.length : Int) == (ns.length : Int)) = true := by simp
              go_wp2
              go_ret
              exact ⟨rfl, below_drewN B5.out _⟩

set_option maxHeartbeats 400000 in
theorem fnSheetBox_large (a : Option Addr) (n cap : Nat) (w : World) (hn : 1048576 < n) :
    Calls Try.prog 5 #[.slice a n cap] w fun e w' => e = .returned (.bool true) ∧ Below w.heap.size w w' := by
  have hg : (1048576 : Int) < (n : Int) := by omega
  go_enter Try.func5, Try.ntmps5
  go_wp2
  go_ret
  exact ⟨rfl, Below.refl _ _⟩

theorem fnSheetBox_all (a : Option Addr) (n cap : Nat) (w : World) (h : CodeAt w a n) (hc : n ≤ cap) (_ : n ≤ maxLen) :
    Calls Try.prog 5 #[.slice a n cap] w fun e w' => e = .returned (.bool true) ∧ Below w.heap.size w w' := by
  by_cases h1 : n ≤ 1048576
  · exact fnSheetBox_walk a n cap w h h1 hc
  · exact fnSheetBox_large a n cap w (by omega)

set_option maxRecDepth 100000 in
theorem fnSheetBox_lifted (os : Os) (started : os.Started) (H : Type) (enc : TypeId × Value → H) :
    ReturnsInHanded {} Try.checked os 5 .any (Rows.fnSheetBoxSpec.pre6 enc Try.prog Try.f5 Rows.fnSheetBoxRow.domain false) (Rows.fnSheetBoxSpec.post enc Try.prog Try.f5 false true false false) := by
  refine returnsInHanded_of_change (C := Try.checked) own started (by kernel_rfl) Try.func5
    (ChangeSpec.witness6 (enc := enc) (C := Try.checked) false ⟨#[], #[.slice none 0 0], []⟩ 8 (by kernel_rfl) (by kernel_rfl) (by kernel_rfl) (by kernel_rfl)) ?_
  intro W base args ds gs before hval0 hW _ _
  have hval : ∀ (j : Nat) t v, Try.f5.params[j]? = some t → args[j]? = some v → Value.okWide Try.prog W .any base t v := hval0
  have hW' := hW
  obtain ⟨p, q, hA0, hV, rfl, _, _⟩ := hW
  have hA : DataW.TrodAll enc Try.prog W 0 (fun _ => true) true Try.f5.params.toList args.toList ds p := hA0
  rw [Try.params5] at hA hval
  obtain ⟨v0, vs0, d0, ds0, p0, q0, hargs, rfl, rfl, h0, r0⟩ := trodAll_cons hA
  obtain ⟨rfl, rfl, rfl⟩ := trodAll_nil r0
  obtain rfl : args = #[v0] := by cases args; simp_all
  obtain ⟨rfl, rfl⟩ := trodVars_none hV
  have k0 := h0
  have lt0 : ∀ x ∈ p0, x.block < W.heap.size := by obtain ⟨m, hm⟩ := k0; exact DataW.trod_lt m _ _ _ hm
  obtain ⟨a0, n0, c0, rfl, f0, g0, m0⟩ := open_code (hval 0 22 v0 rfl rfl) h0
  clear hA0 hval0
  refine (fnSheetBox_all a0 n0 c0 W f0 g0 m0).mono fun e W' ⟨he, bel⟩ => ?_
  subst he
  exact ⟨_, rfl, _, _, _, [], _, [], hW', trodAll_mk1 (shut_bool Try.underlying4 _), (trodAll_cons_mk (Below.trod laidOut (by kernel_rfl) (of_decide_eq_true (by kernel_rfl)) k0 bel lt0) trodAll_mk0), rfl, bel.frame _, fun h => by cases h⟩

theorem fnSheetBox_over : Rows.fnSheetBoxRow.holds Try.pinned (OpenSpec.ofChange Rows.fnSheetBoxSpec) :=
  OpenClaim.holds_of_wide 5 Try.f5 rfl rfl rfl rfl rfl rfl rfl ⟨rfl, rfl, rfl, rfl, rfl⟩ rfl rfl rfl rfl rfl (by kernel_rfl) Try.func5 (by kernel_rfl)
    (of_decide_eq_true (by kernel_rfl)) (by unfold Func.isWrapper; first | (rw [if_pos (by decide +kernel)]; kernel_rfl) | (rw [if_neg (by decide +kernel)]; exact ⟨rfl, rfl⟩))
    (fun os started H enc _ => fnSheetBox_lifted os started H enc)

/-- the given statement -/
theorem fnSheetBox_holds : Rows.FnSheetBoxSaid := fnSheetBox_over

end Go.Proofs.Ytkklmdmdnehaeaa
