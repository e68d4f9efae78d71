/- Proved here: the model holds two rooms of versions against each other, version by version and branch by branch; lists of at most 1,048,576. -/
import Derived.Test.YtdchfologicbeaaWRepo
import Derived.Test.YtdchfologicbeaaWBK
namespace Go.Proofs.Ytdchfologicbeaa
set_option linter.unusedVariables false
open Go.ChangeShapes Go.WideShapes Go.ChangeAt Go.RowKit

theorem rpEq_no1 {cs ds : List Cm} {hs gs : List Hd} (h : cmsEq cs ds = false) : rpEq cs ds hs gs = false := by simp [rpEq, h]
theorem rpEq_no2 {cs ds : List Cm} {hs gs : List Hd} (h : hdsEq hs gs = false) : rpEq cs ds hs gs = false := by simp [rpEq, h]

set_option maxRecDepth 100000 in
set_option maxHeartbeats 8000000 in
theorem specRepoSame_any (a b a' b' : Option Addr) (ca cb ca' cb' : Nat) (cs ds : List Cm) (hs gs : List Hd) (w : World) (hr : RepoAt w a b cs hs) (hr' : RepoAt w a' b' ds gs) (hl : RpLen cs hs 1048576) (hl' : RpLen ds gs 1048576) :
    Calls Try.prog 6 #[.agg #[.slice a cs.length ca, .slice b hs.length cb], .agg #[.slice a' ds.length ca', .slice b' gs.length cb']] w fun e w' => e = .returned (.bool (rpEq cs ds hs gs)) ∧ Below w.heap.size w w' := by
  obtain ⟨l1, l2, l3, l4⟩ := hl
  obtain ⟨m1, m2, m3, m4⟩ := hl'
  have HR := Lib.hid hr
  have HR' := Lib.hid hr'
  have L3 := Lib.hid l3
  have M3 := Lib.hid m3
  clear hr hr' l3 m3 l4 m4
  have B0 : Hid (∀ o o', Below w.heap.size w ((w.alloc o).alloc o')) := fun o o' => ((Below.refl _ _).alloc (Nat.le_refl _) _).alloc (by simp) _
  by_cases g1 : cs.length = ds.length
  · by_cases g2 : hs.length = gs.length
    · have h1 : ((cs.length : Int) != (ds.length : Int)) = false := by simp [g1]
      have h2 : ((hs.length : Int) != (gs.length : Int)) = false := by simp [g2]
      have G1 := Lib.hid g1
      have G2 := Lib.hid g2
      clear g1 g2
      go_enter Try.func6, Try.ntmps6
      go_wp2
      clear h1 h2
      go_loopw [5] (fun i wr => ∃ k : Nat, k ≤ cs.length ∧ i = .int .i64 k ∧ BK wr w.heap.size #[.slice a cs.length ca, .slice b hs.length cb] 31 ∧ BK wr (w.heap.size + 1) #[.slice a' ds.length ca', .slice b' gs.length cb'] 31 ∧ Below w.heap.size w wr ∧ ∀ j, j < k → mg cs j = mg ds j) (fun i _ => cs.length - (intOf i).toNat)
      case atStart => exact ⟨0, Nat.zero_le _, rfl, (BK.new _ _ _).alloc _, BK.at _ _ _ (by simp), B0.out _ _, fun j h => absurd h (Nat.not_lt_zero _)⟩
      case round =>
        obtain ⟨k, hk, rfl, hk1, hk2, hbel, hall⟩ := hrel
        have HA := Lib.hid hall
        have HB := Lib.hid hbel
        have K1 := Lib.hid hk1
        have K2 := Lib.hid hk2
        have hsz := hbel.size
        have r0 := hk1.cell 0 rfl
        have r1 := hk1.cell 1 rfl
        have s0 := hk2.cell 0 rfl
        have s1 := hk2.cell 1 rfl
        have z1 := hk2.lt
        clear hall hk1 hk2
        by_cases hlt : k < cs.length
        · obtain ⟨b1, off, ua, uc, sa, sc, e1, hx⟩ := HR.out.cms k hlt
          obtain ⟨b2, off', ua', uc', sa', sc', e2, hx'⟩ := HR'.out.cms k (by have := G1.out; omega)
          have hltd : (k : Int) < (ds.length : Int) := by have := G1.out; omega
          obtain ⟨zb, c0, c1, c2, hii, hff⟩ := hx.below hbel
          obtain ⟨zb', d0, d1, d2, hii', hff'⟩ := hx'.below hbel
          have D1 : Hid (IntsAt wr.drew ua (mg cs k).1) := hii.below (Below.refl _ _).drew
          have D2 : Hid (FeatsAt wr.drew sa (mg cs k).2.1) := hff.below (Below.refl _ _).drew
          have D3 : Hid (IntsAt wr.drew ua' (mg ds k).1) := hii'.below (Below.refl _ _).drew
          have D4 : Hid (FeatsAt wr.drew sa' (mg ds k).2.1) := hff'.below (Below.refl _ _).drew
          clear hbel hii hff hii' hff' hx hx'
          subst e1 e2
          go_wp2
          go_still_tail 10, (by kernel_rfl)
          go_wp2_with fail
          clear r0 r1 s0 s1 c0 c1 c2 d0 d1 d2
          refine (l7Same_any _ _ _ _ _ _ _ _ _ _ _ D1.out D2.out D3.out D4.out (L3.out k hlt) (M3.out k (by have := G1.out; omega))).mono ?_
          rintro e w1 ⟨rfl, hb2⟩
          have B2 : Hid (Below w.heap.size w w1) := HB.out.drew.trans (hb2.mono hsz)
          have J1 := Lib.hid (BK.later (K1.out.drew) hb2)
          have J2 := Lib.hid (BK.later (K2.out.drew) hb2)
          clear hb2
          by_cases hs' : mg cs k = mg ds k
          · rw [cmEq_iff.2 hs']
            have HG := Lib.hid hs'
            clear hs'
            go_wp2
            go_roundw
            case rel => exact ⟨k + 1, by omega, by go_num, J1.out, J2.out, B2.out, fun j hj => by by_cases e : j = k; (subst e; exact HG.out); exact HA.out j (by omega)⟩
            case measure => simp [intOf]; omega
          · rw [cmEq_no hs']
            have HG : Hid (rpEq cs ds hs gs = false) := rpEq_no1 (cmsEq_ne hs')
            clear hs'
            go_wp2
            go_ret
            exact ⟨by rw [HG.out]; rfl, B2.out⟩
        · obtain rfl : k = cs.length := by omega
          have HC : Hid (cmsEq cs ds = true) := cmsEq_of G1.out HA.out
          clear HA hbel
          go_wp2
          clear r0 r1 s0 s1
          go_loopw [6] (fun i wx => ∃ k : Nat, k ≤ hs.length ∧ i = .int .i64 k ∧ BK wx w.heap.size #[.slice a cs.length ca, .slice b hs.length cb] 31 ∧ BK wx (w.heap.size + 1) #[.slice a' ds.length ca', .slice b' gs.length cb'] 31 ∧ Below w.heap.size w wx ∧ ∀ j, j < k → hdn hs j = hdn gs j ∧ hda hs j = hda gs j) (fun i _ => hs.length - (intOf i).toNat)
          case atStart => exact ⟨0, Nat.zero_le _, rfl, K1.out, K2.out, HB.out, fun j h => absurd h (Nat.not_lt_zero _)⟩
          case round =>
            clear K1 K2 HB hsz z1
            obtain ⟨k, hk, rfl, hk1, hk2, hbel, hall⟩ := hrel
            have HA := Lib.hid hall
            have HB := Lib.hid hbel
            have K1 := Lib.hid hk1
            have K2 := Lib.hid hk2
            have hsz := hbel.size
            have r1 := hk1.cell 1 rfl
            have s1 := hk2.cell 1 rfl
            clear hall hk1 hk2
            by_cases hlt : k < hs.length
            · obtain ⟨b1, off, e1, hb, hc1, hc2⟩ := HR.out.hds k hlt
              obtain ⟨b2, off', e2, hb', hd1, hd2⟩ := HR'.out.hds k (by have := G2.out; omega)
              have hltd : (k : Int) < (gs.length : Int) := by have := G2.out; omega
              rw [← hbel.cell (p := ⟨b1, _, none⟩) hb] at hc1 hc2
              rw [← hbel.cell (p := ⟨b2, _, none⟩) hb'] at hd1 hd2
              have hn := run_hdNeq
              clear hbel
              subst e1 e2
              by_cases hs' : hdn hs k = hdn gs k ∧ hda hs k = hda gs k
              · have hb1 : hdEq (hdn hs k, hda hs k) (hdn gs k, hda gs k) = true := by simp [hdEq, hs']
                have HS := Lib.hid hs'
                clear hs'
                go_wp2
                go_quiet (fail)
                go_wp2
                go_roundw
                case rel => exact ⟨k + 1, by omega, by go_num, K1.out, K2.out, below_drewN HB.out _, fun j hj => by by_cases e : j = k; (subst e; exact HS.out); exact HA.out j (by omega)⟩
                case measure => simp [intOf]; omega
              · have hb1 : hdEq (hdn hs k, hda hs k) (hdn gs k, hda gs k) = false := by simpa [hdEq] using hs'
                have HS : Hid (rpEq cs ds hs gs = false) := rpEq_no2 (hdsEq_ne hs')
                clear hs'
                go_wp2
                go_quiet (fail)
                go_wp2
                go_ret
                exact ⟨by rw [HS.out]; rfl, below_drewN HB.out _⟩
            · obtain rfl : k = hs.length := by omega
              have HT : Hid (rpEq cs ds hs gs = true) := by rw [Hid]; simp [rpEq, HC.out, hdsEq_of G2.out HA.out]
              clear hbel
              go_wp2
              go_ret
              exact ⟨by rw [HT.out]; rfl, HB.out⟩
    · have h1 : ((cs.length : Int) != (ds.length : Int)) = false := by simp [g1]
      have h2 : ((hs.length : Int) != (gs.length : Int)) = true := by simp; omega
      have HT : Hid (rpEq cs ds hs gs = false) := rpEq_no2 (hdsEq_len g2)
      clear g1 g2
      go_enter Try.func6, Try.ntmps6
      go_wp2
      go_ret
      exact ⟨by rw [HT.out]; rfl, B0.out _ _⟩
  · have h1 : ((cs.length : Int) != (ds.length : Int)) = true := by simp; omega
    have HT : Hid (rpEq cs ds hs gs = false) := rpEq_no1 (cmsEq_len g1)
    clear g1
    go_enter Try.func6, Try.ntmps6
    go_wp2
    go_ret
    exact ⟨by rw [HT.out]; rfl, B0.out _ _⟩

set_option maxRecDepth 100000 in
set_option maxHeartbeats 4000000 in
theorem implRepoSame_any (a b a' b' : Option Addr) (ca cb ca' cb' : Nat) (cs ds : List Cm) (hs gs : List Hd) (w : World) (hr : RepoAt w a b cs hs) (hr' : RepoAt w a' b' ds gs) (hl : RpLen cs hs 1048576) (hl' : RpLen ds gs 1048576) :
    Calls Try.prog 8 #[.agg #[.slice a cs.length ca, .slice b hs.length cb], .agg #[.slice a' ds.length ca', .slice b' gs.length cb']] w fun e w' => e = .returned (.bool (rpEq cs ds hs gs)) ∧ Below w.heap.size w w' := by
  obtain ⟨l1, l2, l3, l4⟩ := hl
  obtain ⟨m1, m2, m3, m4⟩ := hl'
  have HR := Lib.hid hr
  have HR' := Lib.hid hr'
  have L3 := Lib.hid l3
  have M3 := Lib.hid m3
  clear hr hr' l3 m3 l4 m4
  have B0 : Hid (∀ o o', Below w.heap.size w ((w.alloc o).alloc o')) := fun o o' => ((Below.refl _ _).alloc (Nat.le_refl _) _).alloc (by simp) _
  go_enter Try.func8, Try.ntmps8
  go_wp2_with fail
  refine (equalFuncC_any _ _ _ _ _ _ _ (HR.out.cms.below (B0.out _ _)) (HR'.out.cms.below (B0.out _ _)) (by omega) (by omega) L3.out M3.out).mono ?_
  rintro e w1 ⟨rfl, hb1⟩
  have c1 := cell_later hb1 (a := ⟨w.heap.size, 1, none⟩) (v := .slice b hs.length cb) (by simp [go_sem])
  have d1 := cell_later hb1 (a := ⟨w.heap.size + 1, 1, none⟩) (v := .slice b' gs.length cb') (by simp [go_sem])
  have B1 : Hid (Below w.heap.size w w1) := (B0.out _ _).trans (hb1.mono (by simp; omega))
  clear hb1
  by_cases q1 : cmsEq cs ds = true
  · rw [q1]
    have HE : Hid (rpEq cs ds hs gs = hdsEq hs gs) := by rw [Hid]; simp [rpEq, q1]
    clear q1
    go_wp2_with fail
    refine (slicesEqualH_any _ _ _ _ _ _ _ (HR.out.hds.below B1.out) (HR'.out.hds.below B1.out) (by omega) (by omega)).mono ?_
    rintro e w2 ⟨rfl, n, rfl⟩
    go_wp2
    go_ret
    exact ⟨by rw [HE.out]; rfl, below_drewN B1.out _⟩
  · rw [Bool.not_eq_true] at q1
    rw [q1]
    have HE : Hid (rpEq cs ds hs gs = false) := rpEq_no1 q1
    clear q1
    go_wp2
    go_ret
    exact ⟨by rw [HE.out]; rfl, B1.out⟩
end Go.Proofs.Ytdchfologicbeaa
