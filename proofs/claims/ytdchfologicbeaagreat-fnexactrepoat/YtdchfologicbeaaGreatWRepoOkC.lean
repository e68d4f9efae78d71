/- Proved here: the program asks whether versions and branches are right just as the plain definition says; lists of at most 1,048,576. -/
import Derived.Test.YtdchfologicbeaaGreatWRepoOkI
namespace Go.Proofs.YtdchfologicbeaaGreat
set_option linter.unusedVariables false
open Go.ChangeShapes Go.WideShapes Go.ChangeAt Go.RowKit

/-- the versions are right -/
def CmsGood (cs : List Cm) : Prop := 1 ≤ cs.length ∧ cs.length ≤ 14 ∧ ∀ i, i < cs.length → CmGood cs i

open Classical in
noncomputable def cmsB (cs : List Cm) : Bool := decide (CmsGood cs)

theorem mg_take {cs : List Cm} {k i : Nat} (h : i < k) : mg (cs.take k) i = mg cs i := by
  unfold mg
  rw [List.getD_eq_getElem?_getD, List.getD_eq_getElem?_getD, List.getElem?_take_of_lt h]

theorem CommitsAt.take {w : World} {a : Option Addr} {cs : List Cm} {k : Nat} (h : CommitsAt w a cs) : CommitsAt w a (cs.take k) := by
  intro i hi
  rw [List.length_take] at hi
  rw [mg_take (by omega)]
  exact h i (by omega)

theorem CmsLen.take {cs : List Cm} {k : Nat} {m : Int} (h : CmsLen cs m) : CmsLen (cs.take k) m := by
  intro i hi
  rw [List.length_take] at hi
  rw [mg_take (by omega)]
  exact h i (by omega)

set_option maxRecDepth 100000 in
set_option maxHeartbeats 16000000 in
theorem commitsOk_any (a : Option Addr) (cap : Nat) (cs : List Cm) (w : World) (hp : CommitsAt w a cs) (hl : cs.length ≤ 1048576) (ht : CmsLen cs 1048576) (hcap : cs.length ≤ cap) :
    Calls Tryz.prog 102 #[.slice a cs.length cap] w fun e w' => e = .returned (.bool (cmsB cs)) ∧ Below w.heap.size w w' := by
  have HP := Lib.hid hp
  have HT := Lib.hid ht
  clear hp ht
  have LC : Hid (∀ (p : Prop), (¬ p) → (CmsGood cs → p) → cmsB cs = false) := fun _ h k => by simp [cmsB]; exact fun g => h (k g)
  by_cases g1 : (cs.length : Int) < 1
  · have HF : Hid _ := LC.out (1 ≤ cs.length) (by omega) fun g => g.1
    go_enter Tryz.func102, Tryz.ntmps102
    go_wp2
    go_ret
    exact ⟨by rw [HF.out]; rfl, Below.refl _ _⟩
  by_cases g2 : (cs.length : Int) > 14
  · have HF : Hid _ := LC.out (cs.length ≤ 14) (by omega) fun g => g.2.1
    go_enter Tryz.func102, Tryz.ntmps102
    go_wp2
    go_ret
    exact ⟨by rw [HF.out]; rfl, Below.refl _ _⟩
  go_enter Tryz.func102, Tryz.ntmps102
  go_wp2
  go_loopw [3, 4, 15] (fun _ _ i wr => ∃ k : Nat, k ≤ cs.length ∧ i = .int .i64 k ∧ Below w.heap.size w wr ∧ ∀ j, j < k → CmGood cs j) (fun _ _ i _ => cs.length - (intOf i).toNat)
  case atStart => exact ⟨0, Nat.zero_le _, rfl, Below.refl _ _, fun j h => absurd h (Nat.not_lt_zero _)⟩
  case round =>
    obtain ⟨k, hk, rfl, hbel, hall⟩ := hrel
    have HA := Lib.hid hall
    have HB := Lib.hid hbel
    have hsz := hbel.size
    clear hall
    by_cases hlt : k < cs.length
    · obtain ⟨b, off, ua, uc, sa, sc, e', hx⟩ := HP.out k hlt
      obtain ⟨zb, c0, c1, c2, hii, hff⟩ := hx.below hbel
      have HI := Lib.hid hii
      have HF0 := Lib.hid hff
      clear hbel hx hii hff
      subst e'
      go_wp2
      have hW : Below wr.heap.size wr (wr.alloc (.cells #[.slice ua (mg cs k).1.length uc, .slice sa (mg cs k).2.1.length sc, .string (mg cs k).2.2] 132)) := (Below.refl _ _).alloc (Nat.le_refl _) _
      have hz := World.size_alloc wr (.cells #[.slice ua (mg cs k).1.length uc, .slice sa (mg cs k).2.1.length sc, .string (mg cs k).2.2] 132)
      have q0 : (wr.alloc (.cells #[.slice ua (mg cs k).1.length uc, .slice sa (mg cs k).2.1.length sc, .string (mg cs k).2.2] 132)).cell? ⟨wr.heap.size, 0, none⟩ = some (.slice ua (mg cs k).1.length uc) := by simp [go_sem]
      have q1 : (wr.alloc (.cells #[.slice ua (mg cs k).1.length uc, .slice sa (mg cs k).2.1.length sc, .string (mg cs k).2.2] 132)).cell? ⟨wr.heap.size, 1, none⟩ = some (.slice sa (mg cs k).2.1.length sc) := by simp [go_sem]
      have q2 : (wr.alloc (.cells #[.slice ua (mg cs k).1.length uc, .slice sa (mg cs k).2.1.length sc, .string (mg cs k).2.2] 132)).cell? ⟨wr.heap.size, 2, none⟩ = some (.string (mg cs k).2.2) := by simp [go_sem]
      clear c0 c1 c2
      generalize wr.alloc (.cells #[.slice ua (mg cs k).1.length uc, .slice sa (mg cs k).2.1.length sc, .string (mg cs k).2.2] 132) = W1 at hW hz q0 q1 q2 ⊢
      have z0 : wr.heap.size < W1.heap.size := by omega
      have B1 : Hid (Below w.heap.size w W1) := HB.out.trans (hW.mono hsz)
      have I1 := Lib.hid (HI.out.below hW)
      have F1 := Lib.hid (HF0.out.below hW)
      have C1 := Lib.hid (HP.out.below B1.out)
      have M := HT.out k hlt
      have U1 : Hid (∀ u, Below W1.heap.size W1 u → Calls Tryz.prog 167 #[.slice ua (mg cs k).1.length uc, .int .i64 k] u fun e w' => e = .returned (.bool (upB (mg cs k).1 k)) ∧ Below u.heap.size u w') := fun u hu =>
        (upOk_any _ _ _ _ _ (I1.out.below hu) (by have := M.1; omega) (by omega)).mono fun e w' h => ⟨h.1, by obtain ⟨n, h2⟩ := h.2; rw [h2]; exact below_drewN (Below.refl _ _) n⟩
      have U2 : Hid (∀ u, Below W1.heap.size W1 u → Calls Tryz.prog 110 #[.slice sa (mg cs k).2.1.length sc] u fun e w' => e = .returned (.bool (sheetOk (mg cs k).2.1)) ∧ Below u.heap.size u w') := fun u hu =>
        implSheetOk_any _ _ _ _ (F1.out.below hu) (by have := M.2.1; omega) M.2.2.1
      have U3 : Hid (∀ u, Below W1.heap.size W1 u → Calls Tryz.prog 111 #[.string (mg cs k).2.2] u fun e w' => e = .returned (.bool (wordOk (mg cs k).2.2)) ∧ Below u.heap.size u w') := fun u hu =>
        implWordOk_any _ _ (by have := M.2.2.2; omega)
      have U4 : Hid (∀ u cp, Below W1.heap.size W1 u → Calls Tryz.prog 168 #[.slice (some ⟨b, off, none⟩) k cp, .agg #[.slice ua (mg cs k).1.length uc, .slice sa (mg cs k).2.1.length sc, .string (mg cs k).2.2]] u fun e w' => (∃ r, e = .returned (.int .i64 r) ∧ FirstCm (cs.take k) (mg cs k) r) ∧ Below u.heap.size u w') := fun u cp hu => by
        have := commitPlace_any (some ⟨b, off, none⟩) cp (cs.take k) (mg cs k) ua sa uc sc u (I1.out.below hu) (F1.out.below hu) ((C1.out.below hu).take) (by rw [List.length_take]; omega) HT.out.take M
        rwa [show (cs.take k).length = k by rw [List.length_take]; omega] at this
      have hk0 : (0 : Int) ≤ (k : Int) := by omega
      have hkc : (k : Int) ≤ (cap : Int) := by omega
      clear hW hz HI HF0 M I1 F1 C1
      by_cases t1 : UpOk (mg cs k).1 k
      · rw [upB_true t1] at U1
        by_cases t2 : sheetOk (mg cs k).2.1 = true
        · rw [t2] at U2
          by_cases t3 : wordOk (mg cs k).2.2 = true
          · rw [t3] at U3
            by_cases t4 : ∀ j, j < k → mg cs j ≠ mg cs k
            · have HG : Hid (CmGood cs k) := ⟨t1, t2, t3, t4⟩
              have R4 : Hid (∀ r, FirstCm (cs.take k) (mg cs k) r → r = -1) := fun r h => by
                rcases h with ⟨h, _⟩ | ⟨j, h1, h2, h3, _⟩
                · exact h
                · rw [List.length_take] at h2
                  rw [mg_take (by omega)] at h3
                  exact absurd h3 (t4 j (by omega))
              clear t1 t2 t3 t4
              go_cut [44] (fun s44 wx => s44 = .bool false ∧ Below w.heap.size w wx)
              case first =>
                first
                  | go_region_held3 (fun w' => w'.cell? ⟨wr.heap.size, 0, none⟩ = some (.slice ua (mg cs k).1.length uc) ∧ w'.cell? ⟨wr.heap.size, 1, none⟩ = some (.slice sa (mg cs k).2.1.length sc) ∧ w'.cell? ⟨wr.heap.size, 2, none⟩ = some (.string (mg cs k).2.2) ∧ Below W1.heap.size W1 w')
                      (first
                        | (with_reducible assumption)
                        | (go_split_ands
                           rename_i hS0 hS1 hS2 hS3
                           with_reducible exact ⟨cell_later hbn hS0, cell_later hbn hS1, cell_later hbn hS2, hS3.trans (hbn.mono hS3.size)⟩)
                        | exact ⟨q0, q1, q2, (Below.refl _ _).drew⟩)
                      (first
                       | (go_at_call 167
                          refine (U1.out _ ?_).mono ?_
                          · (go_split_ands; assumption)
                          rintro e wn ⟨rfl, hbn⟩)
                       | (go_at_call 110
                          refine (U2.out _ ?_).mono ?_
                          · (go_split_ands; assumption)
                          rintro e wn ⟨rfl, hbn⟩)
                       | (go_at_call 111
                          refine (U3.out _ ?_).mono ?_
                          · (go_split_ands; assumption)
                          rintro e wn ⟨rfl, hbn⟩)
                       | (go_at_call 168
                          refine (U4.out _ _ ?_).mono ?_
                          · (go_split_ands; assumption)
                          rintro e wn ⟨⟨r, rfl, hr⟩, hbn⟩
                          obtain rfl := R4.out r hr
                          clear hr))
                  | fail
                all_goals (go_wp2_with fail; go_meet; go_split_ands; exact ⟨by simp_all, B1.out.trans (Below.mono (by assumption) B1.out.size)⟩)
              case rest =>
                obtain ⟨rfl, hB⟩ := hcut
                have B := Lib.hid hB
                clear hB
                go_wp2
                go_roundw
                case rel => exact ⟨k + 1, by omega, by go_num, B.out, fun j hj => by by_cases e : j = k; (subst e; exact HG.out); exact HA.out j (by omega)⟩
                case measure => simp [intOf]; omega
            · have HF : Hid _ := LC.out _ t4 fun g => (g.2.2 k hlt).once
              have R4 : Hid (∀ r, FirstCm (cs.take k) (mg cs k) r → 0 ≤ r) := fun r h => by
                rcases h with ⟨_, h⟩ | ⟨j, h1, _⟩
                · exfalso
                  refine t4 fun j hj => ?_
                  have := h j (by rw [List.length_take]; omega)
                  rwa [mg_take hj] at this
                · omega
              clear t1 t2 t3 t4
              go_cut [44] (fun s44 wx => s44 = .bool true ∧ Below w.heap.size w wx)
              case first =>
                first
                  | go_region_held3 (fun w' => w'.cell? ⟨wr.heap.size, 0, none⟩ = some (.slice ua (mg cs k).1.length uc) ∧ w'.cell? ⟨wr.heap.size, 1, none⟩ = some (.slice sa (mg cs k).2.1.length sc) ∧ w'.cell? ⟨wr.heap.size, 2, none⟩ = some (.string (mg cs k).2.2) ∧ Below W1.heap.size W1 w')
                      (first
                        | (with_reducible assumption)
                        | (go_split_ands
                           rename_i hS0 hS1 hS2 hS3
                           with_reducible exact ⟨cell_later hbn hS0, cell_later hbn hS1, cell_later hbn hS2, hS3.trans (hbn.mono hS3.size)⟩)
                        | exact ⟨q0, q1, q2, (Below.refl _ _).drew⟩)
                      (first
                       | (go_at_call 167
                          refine (U1.out _ ?_).mono ?_
                          · (go_split_ands; assumption)
                          rintro e wn ⟨rfl, hbn⟩)
                       | (go_at_call 110
                          refine (U2.out _ ?_).mono ?_
                          · (go_split_ands; assumption)
                          rintro e wn ⟨rfl, hbn⟩)
                       | (go_at_call 111
                          refine (U3.out _ ?_).mono ?_
                          · (go_split_ands; assumption)
                          rintro e wn ⟨rfl, hbn⟩)
                       | (go_at_call 168
                          refine (U4.out _ _ ?_).mono ?_
                          · (go_split_ands; assumption)
                          rintro e wn ⟨⟨r, rfl, hr⟩, hbn⟩
                          have hr' := R4.out r hr
                          clear hr))
                  | fail
                all_goals (go_wp2_with fail; go_meet; go_split_ands; exact ⟨by simp, B1.out.trans (Below.mono (by assumption) B1.out.size)⟩)
              case rest =>
                obtain ⟨rfl, hB⟩ := hcut
                have B := Lib.hid hB
                clear hB
                go_wp2
                go_ret
                exact ⟨by rw [HF.out]; rfl, B.out⟩
          · have HF : Hid _ := LC.out _ t3 fun g => (g.2.2 k hlt).note
            rw [Bool.not_eq_true] at t3
            rw [t3] at U3
            clear t1 t2 t3 U4
            go_cut [44] (fun s44 wx => s44 = .bool true ∧ Below w.heap.size w wx)
            case first =>
              first
                | go_region_law (first
                    | (go_simp
                       go_at_call 167
                       refine (U1.out _ (Below.refl _ _).drew).mono ?_
                       rintro e wn1 ⟨rfl, hn1⟩
                       have hB1 : Below W1.heap.size W1 wn1 := (Below.refl W1.heap.size W1).drew.trans hn1
                       have p11 := cell_later hn1 (show W1.drew.cell? _ = _ from q1)
                       have p12 := cell_later hn1 (show W1.drew.cell? _ = _ from q2)
                       clear hn1)
                    | (go_simp
                       go_at_call 110
                       refine (U2.out _ hB1).mono ?_
                       rintro e wn2 ⟨rfl, hn2⟩
                       have hB2 : Below W1.heap.size W1 wn2 := hB1.trans (hn2.mono hB1.size)
                       have p21 := cell_later hn2 p11
                       have p22 := cell_later hn2 p12
                       clear hn2)
                    | (go_simp
                       go_at_call 111
                       refine (U3.out _ hB2).mono ?_
                       rintro e wn3 ⟨rfl, hn3⟩
                       have hB3 : Below W1.heap.size W1 wn3 := hB2.trans (hn3.mono hB2.size)
                       have p31 := cell_later hn3 p21
                       have p32 := cell_later hn3 p22
                       clear hn3))
                | fail
              all_goals (go_wp2_with fail; go_meet; exact ⟨by simp, B1.out.trans (hB3.mono B1.out.size)⟩)
            case rest =>
              obtain ⟨rfl, hB⟩ := hcut
              have B := Lib.hid hB
              clear hB
              go_wp2
              go_ret
              exact ⟨by rw [HF.out]; rfl, B.out⟩
        · have HF : Hid _ := LC.out _ t2 fun g => (g.2.2 k hlt).sheet
          rw [Bool.not_eq_true] at t2
          rw [t2] at U2
          clear t1 t2 U3 U4
          go_cut [44] (fun s44 wx => s44 = .bool true ∧ Below w.heap.size w wx)
          case first =>
            first
              | go_region_law (first
                  | (go_simp
                     go_at_call 167
                     refine (U1.out _ (Below.refl _ _).drew).mono ?_
                     rintro e wn1 ⟨rfl, hn1⟩
                     have hB1 : Below W1.heap.size W1 wn1 := (Below.refl W1.heap.size W1).drew.trans hn1
                     have p11 := cell_later hn1 (show W1.drew.cell? _ = _ from q1)
                     have p12 := cell_later hn1 (show W1.drew.cell? _ = _ from q2)
                     clear hn1)
                  | (go_simp
                     go_at_call 110
                     refine (U2.out _ hB1).mono ?_
                     rintro e wn2 ⟨rfl, hn2⟩
                     have hB2 : Below W1.heap.size W1 wn2 := hB1.trans (hn2.mono hB1.size)
                     have p21 := cell_later hn2 p11
                     have p22 := cell_later hn2 p12
                     clear hn2))
              | fail
            all_goals (go_wp2_with fail; go_meet; exact ⟨by simp, B1.out.trans (hB2.mono B1.out.size)⟩)
          case rest =>
            obtain ⟨rfl, hB⟩ := hcut
            have B := Lib.hid hB
            clear hB
            go_wp2
            go_ret
            exact ⟨by rw [HF.out]; rfl, B.out⟩
      · have HF : Hid _ := LC.out _ t1 fun g => (g.2.2 k hlt).up
        rw [upB_false t1] at U1
        clear t1 U2 U3 U4
        go_cut [44] (fun s44 wx => s44 = .bool true ∧ Below w.heap.size w wx)
        case first =>
          first
            | go_region_law (first
                | (go_simp
                   go_at_call 167
                   refine (U1.out _ (Below.refl _ _).drew).mono ?_
                   rintro e wn1 ⟨rfl, hn1⟩
                   have hB1 : Below W1.heap.size W1 wn1 := (Below.refl W1.heap.size W1).drew.trans hn1
                   have p11 := cell_later hn1 (show W1.drew.cell? _ = _ from q1)
                   have p12 := cell_later hn1 (show W1.drew.cell? _ = _ from q2)
                   clear hn1))
            | fail
          all_goals (go_wp2_with fail; go_meet; exact ⟨by simp, B1.out.trans (hB1.mono B1.out.size)⟩)
        case rest =>
          obtain ⟨rfl, hB⟩ := hcut
          have B := Lib.hid hB
          clear hB
          go_wp2
          go_ret
          exact ⟨by rw [HF.out]; rfl, B.out⟩
    · obtain rfl : k = cs.length := by omega
      have HF : Hid (cmsB cs = true) := by
        rw [Hid]
        simp [cmsB]
        exact ⟨by omega, by omega, HA.out⟩
      clear hbel
      go_wp2
      go_ret
      exact ⟨by rw [HF.out]; rfl, HB.out⟩

end Go.Proofs.YtdchfologicbeaaGreat
