/- Proved here: the law FnSeqKeep answers true at every code, and leaves it as it was; no condition. -/
import Derived.Test.YtaefibefagbheaaWSeqCalls
namespace Go.Proofs.Ytaefibefagbheaa
set_option linter.unusedVariables false
open Go.ChangeShapes Go.WideShapes Go.ChangeAt Go.RowKit

set_option maxRecDepth 100000 in
set_option maxHeartbeats 2000000 in
theorem fnSeqKeep_walk (a0 : Option Addr) (n0 cap0 : Nat) (w : World) (f0 : CodeAt w a0 n0) (hHC : n0 ≤ 1048576) (kHC : n0 ≤ cap0) :
    Calls Try.prog 6 #[.slice a0 n0 cap0] w fun e w' => e = .returned (.bool true) ∧ Below w.heap.size w w' := by
  have HC := Lib.hid f0
  clear f0
  go_enter Try.func6, Try.ntmps6
  go_wp2_with fail
  refine (drawSeqMerge_any _ _ _ _ HC.out hHC kHC).mono ?_
  rintro e w1 ⟨aO, cO, sO, aA, cA, sA, aB0, cB0, sB0, rfl, hO, hA, hB0, hb1⟩
  have B := Lib.hid hb1
  have PO := Lib.hid hO.pts
  have bO := hO.len
  have kO := hO.cap
  have NO := Lib.hid hO.near
  have lO : sO.length ≤ 1048576 := by omega
  have PA := Lib.hid hA.pts
  have bA := hA.len
  have kA := hA.cap
  have NA := Lib.hid hA.near
  have lA : sA.length ≤ 1048576 := by omega
  have PB0 := Lib.hid hB0.pts
  have bB0 := hB0.len
  have kB0 := hB0.cap
  have NB0 := Lib.hid hB0.near
  have lB0 : sB0.length ≤ 1048576 := by omega
  clear hO hA hB0 hb1
  cases hmo : mergedOf sO sA sB0 with
  | none =>
    have HM : Hid ((mergedOf sO sA sB0).getD [] = []) := by show _ = _; rw [hmo]; rfl
    have HK : Hid ((mergedOf sO sA sB0).isSome = false) := by show _ = _; rw [hmo]; rfl
    clear hmo
    go_wp2_with fail
    refine (implMerge ([] : List (Int × Int)) false _ _ _ _ _ _ (sO) (sA) (sB0) _ HM.out HK.out PO.out PA.out PB0.out lO lA lB0 kO kA kB0).mono ?_
    rintro e w2 ⟨aX, cX, rfl, h2⟩
    replace B := Lib.hid (B.out.trans (h2.bel.mono B.out.size))
    replace PO := Lib.hid (PO.out.below h2.bel)
    replace PA := Lib.hid (PA.out.below h2.bel)
    replace PB0 := Lib.hid (PB0.out.below h2.bel)
    have PX := Lib.hid h2.pts
    have lX : List.length ([] : List (Int × Int)) ≤ 1048576 := (Nat.zero_le _)
    clear h2
    go_wp2_with fail
    refine (specMerge ([] : List (Int × Int)) false _ _ _ _ _ _ (sO) (sA) (sB0) _ HM.out HK.out PO.out PA.out PB0.out lO lA lB0 kO kA kB0).mono ?_
    rintro e w3 ⟨aY, cY, rfl, h3⟩
    replace B := Lib.hid (B.out.trans (h3.bel.mono B.out.size))
    replace PO := Lib.hid (PO.out.below h3.bel)
    replace PA := Lib.hid (PA.out.below h3.bel)
    replace PB0 := Lib.hid (PB0.out.below h3.bel)
    replace PX := Lib.hid (PX.out.below h3.bel)
    have PY := Lib.hid h3.pts
    have lY : List.length ([] : List (Int × Int)) ≤ 1048576 := (Nat.zero_le _)
    clear h3
    go_wp2
    go_ret
    exact ⟨rfl, B.out⟩
  | some m =>
    have HM : Hid ((mergedOf sO sA sB0).getD [] = m) := by show _ = _; rw [hmo]; rfl
    have HK : Hid ((mergedOf sO sA sB0).isSome = true) := by show _ = _; rw [hmo]; rfl
    have hmm : merged sO sA sB0 = some m := by unfold mergedOf at hmo; split at hmo; exact hmo; cases hmo
    obtain ⟨g1, g2, g3, g4⟩ := merged_keep hmm
    have lm : m.length ≤ 32 := by omega
    have K1 := Lib.hid g1
    have K2 := Lib.hid g2
    have K3 := Lib.hid g3
    clear hmo hmm g1 g2 g3
    go_wp2_with fail
    refine (implMerge m true _ _ _ _ _ _ (sO) (sA) (sB0) _ HM.out HK.out PO.out PA.out PB0.out lO lA lB0 kO kA kB0).mono ?_
    rintro e w2 ⟨aX, cX, rfl, h2⟩
    replace B := Lib.hid (B.out.trans (h2.bel.mono B.out.size))
    replace PO := Lib.hid (PO.out.below h2.bel)
    replace PA := Lib.hid (PA.out.below h2.bel)
    replace PB0 := Lib.hid (PB0.out.below h2.bel)
    have PX := Lib.hid h2.pts
    have lX : List.length m ≤ 1048576 := (by omega)
    clear h2
    go_wp2_with fail
    refine (specMerge m true _ _ _ _ _ _ (sO) (sA) (sB0) _ HM.out HK.out PO.out PA.out PB0.out lO lA lB0 kO kA kB0).mono ?_
    rintro e w3 ⟨aY, cY, rfl, h3⟩
    replace B := Lib.hid (B.out.trans (h3.bel.mono B.out.size))
    replace PO := Lib.hid (PO.out.below h3.bel)
    replace PA := Lib.hid (PA.out.below h3.bel)
    replace PB0 := Lib.hid (PB0.out.below h3.bel)
    replace PX := Lib.hid (PX.out.below h3.bel)
    have PY := Lib.hid h3.pts
    have lY : List.length m ≤ 1048576 := (by omega)
    clear h3
    clear PY
    go_wp2
    go_loopw [10] (fun i wr => ∃ j : Nat, j ≤ m.length ∧ i = .int .i64 j ∧ Below w3.heap.size w3 wr) (fun i _ => m.length - (intOf i).toNat)
    case atStart => exact ⟨0, Nat.zero_le _, rfl, Below.refl _ _⟩
    case round =>
      obtain ⟨j, hj, rfl, hbel⟩ := hrel
      obtain ⟨wr4, hwr⟩ : ∃ x, x = wr := ⟨_, rfl⟩
      subst hwr
      replace B := Lib.hid (B.out.trans (hbel.mono B.out.size))
      replace PO := Lib.hid (PO.out.below hbel)
      replace PA := Lib.hid (PA.out.below hbel)
      replace PB0 := Lib.hid (PB0.out.below hbel)
      replace PX := Lib.hid (PX.out.below hbel)
      have HB := Lib.hid hbel
      clear hbel
      by_cases hlt : j < m.length
      · obtain ⟨bb, off, hbe, hbl, hc1, hc2⟩ := PX.out j hlt
        subst hbe
        have hz := HB.out.size
        go_wp2_with fail
        refine (wsHas_any _ _ _ (px m j) (py m j) _ PA.out lA).mono ?_
        rintro e wa ⟨rfl, hba⟩
        have HB1 : Hid (Below _ _ wa) := HB.out.trans (hba.mono hz)
        have hc1a := cell_later hba hc1
        have hc2a := cell_later hba hc2
        have P2 := Lib.hid (PB0.out.below hba)
        have hz2 := hba.size
        clear hba hc1 hc2
        by_cases hin : (px m j, py m j) ∈ sA
        · rw [decide_eq_true hin]
          clear hin
          go_wp2
          go_roundw
          case rel => exact ⟨j + 1, by omega, by go_num, HB1.out⟩
          case measure => simp [intOf]; omega
        · rw [decide_eq_false hin]
          have hin2 : (px m j, py m j) ∈ sB0 := (K1.out _ (mem_getD hlt)).resolve_left hin
          have HI := Lib.hid hin2
          clear hin hin2
          go_wp2_with fail
          refine (wsHas_any _ _ _ (px m j) (py m j) _ P2.out lB0).mono ?_
          rintro e wb ⟨rfl, hbb⟩
          rw [decide_eq_true HI.out]
          have HB2 : Hid (Below _ _ wb) := HB1.out.trans (hbb.mono (Nat.le_trans hz hz2))
          clear hbb
          go_wp2
          go_roundw
          case rel => exact ⟨j + 1, by omega, by go_num, HB2.out⟩
          case measure => simp [intOf]; omega
      · have hge : ¬ (j : Int) < (m.length : Int) := by omega
        clear HB hlt
        go_wp2
        go_loopw [11] (fun i wr => ∃ j : Nat, j ≤ sA.length ∧ i = .int .i64 j ∧ Below wr4.heap.size wr4 wr) (fun i _ => sA.length - (intOf i).toNat)
        case atStart => exact ⟨0, Nat.zero_le _, rfl, Below.refl _ _⟩
        case round =>
          obtain ⟨j, hj, rfl, hbel⟩ := hrel
          obtain ⟨wr5, hwr⟩ : ∃ x, x = wr := ⟨_, rfl⟩
          subst hwr
          replace B := Lib.hid (B.out.trans (hbel.mono B.out.size))
          replace PO := Lib.hid (PO.out.below hbel)
          replace PA := Lib.hid (PA.out.below hbel)
          replace PB0 := Lib.hid (PB0.out.below hbel)
          replace PX := Lib.hid (PX.out.below hbel)
          have HB := Lib.hid hbel
          clear hbel
          by_cases hlt : j < sA.length
          · obtain ⟨bb, off, hbe, hbl, hc1, hc2⟩ := PA.out j hlt
            subst hbe
            have hz := HB.out.size
            go_wp2_with fail
            refine (wsHas_any _ _ _ (px sA j) (py sA j) _ PO.out lO).mono ?_
            rintro e wa ⟨rfl, hba⟩
            have HB1 : Hid (Below _ _ wa) := HB.out.trans (hba.mono hz)
            have hc1a := cell_later hba hc1
            have hc2a := cell_later hba hc2
            have P2 := Lib.hid (PX.out.below hba)
            have hz2 := hba.size
            clear hba hc1 hc2
            by_cases hin : (px sA j, py sA j) ∈ sO
            · rw [decide_eq_true hin]
              clear hin
              go_wp2
              go_roundw
              case rel => exact ⟨j + 1, by omega, by go_num, HB1.out⟩
              case measure => simp [intOf]; omega
            · rw [decide_eq_false hin]
              have hin2 : (px sA j, py sA j) ∈ m := K2.out _ (mem_getD hlt) hin
              have HI := Lib.hid hin2
              clear hin hin2
              go_wp2_with fail
              refine (wsHas_any _ _ _ (px sA j) (py sA j) _ P2.out lX).mono ?_
              rintro e wb ⟨rfl, hbb⟩
              rw [decide_eq_true HI.out]
              have HB2 : Hid (Below _ _ wb) := HB1.out.trans (hbb.mono (Nat.le_trans hz hz2))
              clear hbb
              go_wp2
              go_roundw
              case rel => exact ⟨j + 1, by omega, by go_num, HB2.out⟩
              case measure => simp [intOf]; omega
          · have hge : ¬ (j : Int) < (sA.length : Int) := by omega
            clear HB hlt
            go_wp2
            go_loopw [12] (fun i wr => ∃ j : Nat, j ≤ sB0.length ∧ i = .int .i64 j ∧ Below wr5.heap.size wr5 wr) (fun i _ => sB0.length - (intOf i).toNat)
            case atStart => exact ⟨0, Nat.zero_le _, rfl, Below.refl _ _⟩
            case round =>
              obtain ⟨j, hj, rfl, hbel⟩ := hrel
              obtain ⟨wr6, hwr⟩ : ∃ x, x = wr := ⟨_, rfl⟩
              subst hwr
              replace B := Lib.hid (B.out.trans (hbel.mono B.out.size))
              replace PO := Lib.hid (PO.out.below hbel)
              replace PA := Lib.hid (PA.out.below hbel)
              replace PB0 := Lib.hid (PB0.out.below hbel)
              replace PX := Lib.hid (PX.out.below hbel)
              have HB := Lib.hid hbel
              clear hbel
              by_cases hlt : j < sB0.length
              · obtain ⟨bb, off, hbe, hbl, hc1, hc2⟩ := PB0.out j hlt
                subst hbe
                have hz := HB.out.size
                go_wp2_with fail
                refine (wsHas_any _ _ _ (px sB0 j) (py sB0 j) _ PO.out lO).mono ?_
                rintro e wa ⟨rfl, hba⟩
                have HB1 : Hid (Below _ _ wa) := HB.out.trans (hba.mono hz)
                have hc1a := cell_later hba hc1
                have hc2a := cell_later hba hc2
                have P2 := Lib.hid (PX.out.below hba)
                have hz2 := hba.size
                clear hba hc1 hc2
                by_cases hin : (px sB0 j, py sB0 j) ∈ sO
                · rw [decide_eq_true hin]
                  clear hin
                  go_wp2
                  go_roundw
                  case rel => exact ⟨j + 1, by omega, by go_num, HB1.out⟩
                  case measure => simp [intOf]; omega
                · rw [decide_eq_false hin]
                  have hin2 : (px sB0 j, py sB0 j) ∈ m := K3.out _ (mem_getD hlt) hin
                  have HI := Lib.hid hin2
                  clear hin hin2
                  go_wp2_with fail
                  refine (wsHas_any _ _ _ (px sB0 j) (py sB0 j) _ P2.out lX).mono ?_
                  rintro e wb ⟨rfl, hbb⟩
                  rw [decide_eq_true HI.out]
                  have HB2 : Hid (Below _ _ wb) := HB1.out.trans (hbb.mono (Nat.le_trans hz hz2))
                  clear hbb
                  go_wp2
                  go_roundw
                  case rel => exact ⟨j + 1, by omega, by go_num, HB2.out⟩
                  case measure => simp [intOf]; omega
              · have hge : ¬ (j : Int) < (sB0.length : Int) := by omega
                clear HB hlt
                have x1 : IntKind.i64.wrap ((sA.length : Int) + (sB0.length : Int)) = (sA.length : Int) + (sB0.length : Int) := IntWalk.i64_in _ (by omega)
                have hle : (m.length : Int) ≤ (sA.length : Int) + (sB0.length : Int) := by omega
                go_wp2
                go_ret
                exact ⟨rfl, B.out⟩

theorem fnSeqKeep_large0 (a0 : Option Addr) (n0 cap0 : Nat) (w : World)  (hn : 1048576 < n0) :
    Calls Try.prog 6 #[.slice a0 n0 cap0] w fun e w' => e = .returned (.bool true) ∧ Below w.heap.size w w' := by
  have hn' : (1048576 : Int) < (n0 : Int) := by omega
  go_enter Try.func6, Try.ntmps6
  go_wp2
  go_ret
  exact ⟨rfl, Below.refl _ _⟩

theorem fnSeqKeep_all (a0 : Option Addr) (n0 cap0 : Nat) (w : World) (f0 : CodeAt w a0 n0) (g0 : n0 ≤ cap0 ∧ n0 ≤ maxLen) :
    Calls Try.prog 6 #[.slice a0 n0 cap0] w fun e w' => e = .returned (.bool true) ∧ Below w.heap.size w w' := by
  by_cases h0 : n0 ≤ 1048576
  · exact fnSeqKeep_walk a0 n0 cap0 w f0 h0 g0.1
  · exact fnSeqKeep_large0 a0 n0 cap0 w (by omega)

set_option maxRecDepth 100000 in
theorem fnSeqKeep_lifted (os : Os) (started : os.Started) (H : Type) (enc : TypeId × Value → H) :
    ReturnsInHanded {} Try.checked os 6 .any (Rows.fnSeqKeepSpec.pre6 enc Try.prog Try.f6 Rows.fnSeqKeepRow.domain false) (Rows.fnSeqKeepSpec.post enc Try.prog Try.f6 false true false false) := by
  refine returnsInHanded_of_change (C := Try.checked) own started (by kernel_rfl) Try.func6
    (ChangeSpec.witness6 (enc := enc) (C := Try.checked) false ⟨#[], #[.slice none 0 0], []⟩ 8 (by kernel_rfl) (by kernel_rfl) (by kernel_rfl) (by kernel_rfl)) ?_
  intro W base args ds gs before hval0 hW _ _
  have hval : ∀ (j : Nat) t v, Try.f6.params[j]? = some t → args[j]? = some v → Value.okWide Try.prog W .any base t v := hval0
  have hW' := hW
  obtain ⟨p, q, hA0, hV, rfl, _, _⟩ := hW
  have hA : DataW.TrodAll enc Try.prog W 0 (fun _ => true) true Try.f6.params.toList args.toList ds p := hA0
  rw [Try.params6] at hA hval
  obtain ⟨v0, vs0, d0, ds0, p0, q0, hargs, rfl, rfl, h0, r0⟩ := trodAll_cons hA
  obtain ⟨rfl, rfl, rfl⟩ := trodAll_nil r0
  obtain rfl : args = #[v0] := by cases args; simp_all
  obtain ⟨rfl, rfl⟩ := trodVars_none hV
  have k0 := h0
  have lt0 : ∀ x ∈ p0, x.block < W.heap.size := by obtain ⟨m, hm⟩ := k0; exact DataW.trod_lt m _ _ _ hm
  obtain ⟨a0, c0, s0, rfl, f0, g0⟩ := open_codeC (hval 0 22 v0 rfl rfl) h0
  clear hA0 hval0
  refine (fnSeqKeep_all a0 c0 s0 W f0 g0).mono fun e W' ⟨he, bel⟩ => ?_
  subst he
  exact ⟨_, rfl, _, _, _, [], _, [], hW', trodAll_mk1 (shut_bool Try.underlying4 _), (trodAll_cons_mk (Below.trod laidOut (by kernel_rfl) (of_decide_eq_true (by kernel_rfl)) k0 bel lt0) trodAll_mk0), rfl, bel.frame _, fun h => by cases h⟩

theorem fnSeqKeep_over : Rows.fnSeqKeepRow.holds Try.pinned (OpenSpec.ofChange Rows.fnSeqKeepSpec) :=
  OpenClaim.holds_of_wide 6 Try.f6 rfl rfl rfl rfl rfl rfl rfl ⟨rfl, rfl, rfl, rfl, rfl⟩ rfl rfl rfl rfl rfl (by kernel_rfl) Try.func6 (by kernel_rfl)
    (of_decide_eq_true (by kernel_rfl)) (by unfold Func.isWrapper; first | (rw [if_pos (by decide +kernel)]; kernel_rfl) | (rw [if_neg (by decide +kernel)]; exact ⟨rfl, rfl⟩))
    (fun os started H enc _ => fnSeqKeep_lifted os started H enc)

/-- the given statement -/
theorem fnSeqKeep_holds : Rows.FnSeqKeepSaid := fnSeqKeep_over

end Go.Proofs.Ytaefibefagbheaa
