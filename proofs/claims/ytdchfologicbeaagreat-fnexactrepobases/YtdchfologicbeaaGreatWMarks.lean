/- Proved here: the model's marks of versions that are ahead of some, or among them; rooms of at most 14 versions. -/
import Derived.Test.YtdchfologicbeaaGreatWReach
import Derived.Test.YtdchfologicbeaaGreatWGrowI
namespace Go.Proofs.YtdchfologicbeaaGreat
set_option linter.unusedVariables false
open Go.ChangeShapes Go.WideShapes Go.ChangeAt Go.RowKit

theorem mg_none {cs : List Cm} {j : Nat} (h : cs.length ≤ j) : (mg cs j).1 = [] := by simp [mg, h]

/-- whether a version is ahead of one of these, or one of them -/
def AheadOf (cs : List Cm) (fr : List Int) (j : Nat) : Prop := ∃ f : Nat, (f : Int) ∈ fr ∧ Ahead cs f j
open Classical in
noncomputable def marksV (cs : List Cm) (fr : List Int) (j : Nat) : Bool := decide (AheadOf cs fr j)

/-- while the places from m on have told -/
structure Told (cs : List Cm) (fr : List Int) (M : Nat → Bool) (m : Nat) : Prop where
  sub : ∀ j, M j = true → AheadOf cs fr j
  sup : ∀ f : Nat, (f : Int) ∈ fr → M f = true
  cl : ∀ j, m ≤ j → M j = true → ∀ u : Nat, (u : Int) ∈ (mg cs j).1 → M u = true

theorem Told.done {cs : List Cm} {fr : List Int} {M : Nat → Bool} (h : Told cs fr M 0) (j : Nat) : M j = marksV cs fr j := by
  rw [Bool.eq_iff_iff]
  simp only [marksV, decide_eq_true_iff]
  constructor
  · exact h.sub j
  · rintro ⟨f, hf, ha⟩
    exact ha.sub (S := fun i => M i = true) (h.sup f hf) fun i hi u hu => h.cl i (Nat.zero_le _) hi u hu

theorem Told.mark {cs : List Cm} {fr : List Int} {M : Nat → Bool} {m i u : Nat} (g : UpsOk cs) (h : Told cs fr M m) (him : i < m) (hi : M i = true) (hu : (u : Int) ∈ (mg cs i).1) (hin : i < cs.length) : Told cs fr (markIt M u) m := by
  obtain ⟨u', e, hlt⟩ := g.mem hin hu
  refine ⟨fun j hj => ?_, fun f hf => markIt_of (h.sup f hf), fun j hj hM v hv => ?_⟩
  · by_cases e2 : j = u
    · subst e2
      obtain ⟨f, hf, ha⟩ := h.sub i hi
      exact ⟨f, hf, ha.step hu⟩
    · rw [markIt_ne e2] at hj
      exact h.sub j hj
  · rw [markIt_ne (by omega)] at hM
    exact markIt_of (h.cl j hj hM v hv)

theorem infoBool : (Tryz.prog.info? 4).map (fun i => (i.zero, i.size, i.bytes)) = some (some (.bool false), 1, 1) := by kernel_rfl

/-- which are among the first of them -/
def amongB (fr : List Int) (k j : Nat) : Bool := decide ((j : Int) ∈ fr.take k)

theorem amongB_step {fr : List Int} {k f : Nat} (h : k < fr.length) (e : ix fr k = (f : Int)) (j : Nat) : amongB fr (k + 1) j = (if j = f then true else amongB fr k j) := by
  have e2 : fr.take (k + 1) = fr.take k ++ [(f : Int)] := by
    rw [← e, ix_get h]
    exact List.take_succ_eq_append_getElem h
  unfold amongB
  rw [e2]
  by_cases h2 : j = f
  · subst h2
    simp
  · rw [if_neg h2]
    have : ¬ (j : Int) = (f : Int) := by omega
    simp [this]

set_option maxRecDepth 100000 in
set_option maxHeartbeats 8000000 in
theorem l7Marks_any (a b fa : Option Addr) (ca cb m fc : Nat) (cs : List Cm) (fr : List Int) (w : World) (hc : CommitsAt w a cs) (g : UpsOk cs) (hn : cs.length ≤ 14) (hL : CmsLen cs 1048576) (hf : IntsAt w fa fr) (hfl : fr.length ≤ 1048576) (hfr : ∀ x ∈ fr, ∃ j : Nat, x = j ∧ j < cs.length) :
    Calls Tryz.prog 122 #[.agg #[.slice a cs.length ca, .slice b m cb], .slice fa fr.length fc] w fun e w' => ∃ p, e = .returned (.slice (some ⟨p, 0, none⟩) cs.length cs.length) ∧ w'.rowIs p 4 cs.length (fun j => .bool (marksV cs fr j)) ∧ w.heap.size ≤ p ∧ Below w.heap.size w w' := by
  obtain ⟨i0, hi, hz0, hz1, hz2⟩ := info_parts infoBool
  have hmk : ∀ u : World, (Instr.makeSlice 157 (.int .i64 (cs.length : Int)) (.int .i64 (cs.length : Int))).run Tryz.prog u =
      .ok (.slice (some ⟨u.heap.size, 0, none⟩) cs.length cs.length) (u.alloc (.cells (madeCells #[.bool false] cs.length) 4)) := fun u => by
    have h := run_make (P := Tryz.prog) u 157 4 i0 (.bool false) Tryz.underlying157 hi hz0 .i64 .i64 (cs.length : Int) (cs.length : Int) (by omega) (Int.le_refl _) (by rw [hz2]; omega) (by omega)
    simpa [hz1, Value.cells] using h
  have HC := Lib.hid hc
  have HG := Lib.hid g
  have HL := Lib.hid hL
  have HF := Lib.hid hf
  have HFR := Lib.hid hfr
  clear hc g hL hf hz0 hz1 hz2 hi hfr
  go_enter Tryz.func122, Tryz.ntmps122
  go_wp2
  clear hmk
  go_loopw [6] (fun i wr => ∃ k : Nat, k ≤ fr.length ∧ i = .int .i64 k ∧ BK wr w.heap.size #[.slice a cs.length ca, .slice b m cb] 62 ∧ wr.rowIs (w.heap.size + 1) 4 cs.length (fun j => .bool (amongB fr k j)) ∧ Below w.heap.size w wr) (fun i _ => fr.length - (intOf i).toNat)
  case atStart =>
    refine ⟨0, Nat.zero_le _, rfl, (BK.new _ _ _).alloc _, ?_, ((Below.refl _ _).alloc (Nat.le_refl _) _).alloc (by simp) _⟩
    have := World.rowIs_made (w.alloc (.cells #[.slice a cs.length ca, .slice b m cb] 62)) (.bool false) cs.length 4
    rw [World.size_alloc] at this
    exact this.congr fun j _ => by simp [amongB]
  case round =>
    obtain ⟨k, hk, rfl, hk1, hrow, hbel⟩ := hrel
    have K1 := Lib.hid hk1
    have HR := Lib.hid hrow
    have HB := Lib.hid hbel
    have hsz := hbel.size
    by_cases hlt : k < fr.length
    · obtain ⟨bf, off, e', hb, hc1⟩ := HF.out k hlt
      obtain ⟨f, ef, hf⟩ := HFR.out (ix fr k) (mem_ix.2 ⟨k, hlt, rfl⟩)
      rw [← hbel.cell (p := ⟨bf, _, none⟩) hb, ef] at hc1
      have EF := Lib.hid ef
      have hd := hrow.cell (i := f) hf
      have hfz := hrow.frozen f
      have q0 : (0 : Int) ≤ (f : Int) := by omega
      have q1 : (f : Int) < (cs.length : Int) := by omega
      subst e'
      clear hbel hrow hk1 ef
      go_wp2
      go_roundw
      case rel => exact ⟨k + 1, by omega, by go_num, K1.out.setOther _ _ (by omega), (HR.out.set f _).congr fun j _ => (by rw [amongB_step hlt EF.out j]; by_cases e : j = f <;> simp [e]), HB.out.setCell (by simp) _⟩
      case measure => simp [intOf]; omega
    · obtain rfl : k = fr.length := by omega
      have T0 : Hid (Told cs fr (amongB fr fr.length) cs.length) := by
        refine ⟨fun j hj => ⟨j, by simpa [amongB] using hj, .refl⟩, fun f hf => by simpa [amongB] using hf, fun j hj _ u hu => ?_⟩
        rw [mg_none hj] at hu
        simp at hu
      have r0 := hk1.cell 0 rfl
      clear hbel hrow hk1
      go_wp2
      clear r0
      go_loopw [7, 8] (fun i _ wr => ∃ (p : Nat) (M : Nat → Bool), p ≤ cs.length ∧ i = .int .i64 ((p : Int) - 1) ∧ Told cs fr M p ∧ BK wr w.heap.size #[.slice a cs.length ca, .slice b m cb] 62 ∧ wr.rowIs (w.heap.size + 1) 4 cs.length (fun j => .bool (M j)) ∧ Below w.heap.size w wr) (fun i _ _ => (intOf i + 1).toNat)
      case atStart => exact ⟨cs.length, _, Nat.le_refl _, rfl, T0.out, K1.out, HR.out, HB.out⟩
      case round =>
        clear T0 K1 HR HB hsz
        obtain ⟨p, M, hp, rfl, ht, hk1, hrow, hbel⟩ := hrel
        have K1 := Lib.hid hk1
        have HR := Lib.hid hrow
        have HB := Lib.hid hbel
        have HT := Lib.hid ht
        have hsz := hbel.size
        clear ht hbel hrow hk1
        rcases p with _ | i
        · simp only [Int.natCast_zero, Int.zero_sub]
          have h1 : decide ((0 : Int) ≤ -1) = false := by decide
          go_wp2
          go_ret
          exact ⟨_, rfl, HR.out.congr fun j _ => by rw [HT.out.done j], by omega, HB.out⟩
        · have e1 : ((i + 1 : Nat) : Int) - 1 = (i : Int) := by omega
          rw [e1]
          clear e1
          have hin : i < cs.length := by omega
          go_wp2
          go_loopw [8] (fun s wr => ∃ (t : Nat) (M : Nat → Bool), s = .int .i64 t ∧ t ≤ (mg cs i).1.length ∧ Told cs fr M (i + 1) ∧ (M i = true → ∀ j, j < t → ∀ u : Nat, ix (mg cs i).1 j = (u : Int) → M u = true) ∧ BK wr w.heap.size #[.slice a cs.length ca, .slice b m cb] 62 ∧ wr.rowIs (w.heap.size + 1) 4 cs.length (fun j => .bool (M j)) ∧ Below w.heap.size w wr) (fun s _ => (mg cs i).1.length - (intOf s).toNat)
          case atStart => exact ⟨0, M, rfl, Nat.zero_le _, HT.out, fun _ j h => absurd h (Nat.not_lt_zero _), K1.out, HR.out, HB.out⟩
          case round =>
            clear HT K1 HR HB hsz
            obtain ⟨t, M, rfl, htl, ht, hmk, hk1, hrow, hbel⟩ := hrel
            have K1 := Lib.hid hk1
            have HR := Lib.hid hrow
            have HB := Lib.hid hbel
            have HT := Lib.hid ht
            have HM := Lib.hid hmk
            have hsz := hbel.size
            have r0 := hk1.cell 0 rfl
            have hd := hrow.cell (i := i) hin
            obtain ⟨bc, oc, ua, uc, sa, sc, e', hx⟩ := HC.out i hin
            obtain ⟨zb, c0, c1, c2, hii, hff⟩ := hx.below hbel
            have ne1 : ¬ (bc = w.heap.size + 1) := by have := hx.lt; omega
            have ne2 : ¬ (w.heap.size + 1 = bc) := by omega
            have q0 : (0 : Int) ≤ (i : Int) := by omega
            have q1 : (i : Int) < (cs.length : Int) := by omega
            have q2 : (mg cs i).1.length ≤ 2 := (HG.out i hin).2.1
            subst e'
            by_cases hlt : t < (mg cs i).1.length
            · cases hM : M i
              · rw [hM] at hd
                clear ht hmk hk1 hrow hx hff hbel hii
                go_wp2
                go_roundw
                case rel => exact ⟨i, M, by omega, rfl, ⟨HT.out.sub, HT.out.sup, fun j hj hMj u hu => by
                  by_cases e : j = i
                  · subst e; rw [hM] at hMj; cases hMj
                  · exact HT.out.cl j (by omega) hMj u hu⟩, K1.out, HR.out, HB.out⟩
                case measure => simp [intOf]
              · rw [hM] at hd
                obtain ⟨bu, ou, eu, hbu, hcu⟩ := hii t hlt
                obtain ⟨b2, o2, eu2, hbu2, _⟩ := hx.ints t hlt
                obtain ⟨u, hu, hult⟩ := HG.out.mem hin (mem_ix.2 ⟨t, hlt, rfl⟩)
                rw [hu] at hcu
                obtain ⟨rfl, rfl⟩ : bu = b2 ∧ ou = o2 := by rw [eu] at eu2; simpa using eu2
                subst eu
                have ne3 : ¬ (bu = w.heap.size + 1) := by omega
                have ne4 : ¬ (w.heap.size + 1 = bu) := by omega
                have hfz := hrow.frozen u
                have hdu := hrow.cell (i := u) (by omega)
                have q3 : (0 : Int) ≤ (u : Int) := by omega
                have q4 : (u : Int) < (cs.length : Int) := by omega
                have HU := Lib.hid hu
                clear ht hmk hk1 hrow hx hff hbel hii hu
                go_wp2
                go_roundw
                case rel =>
                  refine ⟨t + 1, markIt M u, by go_num, by omega, HT.out.mark HG.out (by omega) hM (by rw [← HU.out]; exact mem_ix.2 ⟨t, hlt, rfl⟩) hin, fun _ j hj v hv => ?_, K1.out.setOther _ _ (by omega), (HR.out.set u _).congr fun j _ => (by unfold markIt; by_cases e : j = u <;> simp [e]), HB.out.setCell (by simp) _⟩
                  by_cases e : j = t
                  · subst e
                    have : v = u := by have h1 := hv.symm.trans HU.out; omega
                    subst this
                    exact markIt_at _ _
                  · exact markIt_of (HM.out hM j (by omega) v hv)
                case measure => simp [intOf]; omega
            · obtain rfl : t = (mg cs i).1.length := by omega
              clear ht hmk hk1 hrow hx hff hbel hii
              go_wp2
              go_roundw
              case rel => exact ⟨i, M, by omega, rfl, ⟨HT.out.sub, HT.out.sup, fun j hj hMj u hu => by
                by_cases e : j = i
                · subst e
                  obtain ⟨v, hv, ev⟩ := mem_ix.1 hu
                  exact HM.out hMj v hv u ev
                · exact HT.out.cl j (by omega) hMj u hu⟩, K1.out, HR.out, HB.out⟩
              case measure => simp [intOf]
end Go.Proofs.YtdchfologicbeaaGreat
