/- Proved here: facts of the translated program alone that every law's claim asks for; no condition. Proved here: plain facts on what is ahead of a version; no condition. Proved here: the model's marks of versions that are ahead of some, or among them; rooms of at most 14 versions. Proved here: the program lays a colour on a version and all that is ahead of it; rooms of at most 14 versions. Proved here: a version and all that is ahead of it, by the program; rooms of at most 14 versions. Proved here: whether a version is ahead of another one, or it, by the program; rooms of at most 14 versions. Proved here: a version and all that is ahead of it, and whether one is ahead of another one, by the model; rooms of at most 14 versions. -/
import Derived.Test.YtdfadpejddhbkaaGreatG3
import Derived.Test.YtdfadpejddhbkaaGreatRows
import Derived.Test.YtdfadpejddhbkaaGreatG7
import Derived.Test.YtdfadpejddhbkaaGreatG2
import Derived.Deep.MidRow
import Derived.Deep.WholeRow
import Derived.IntWalk
import Derived.Test.YtdfadpejddhbkaaGreatG8
namespace Go.Proofs.YtdfadpejddhbkaaGreat
set_option linter.unusedVariables false
open Go.ChangeShapes Go.WideShapes Go.ChangeAt Go.RowKit

theorem pf_mapsRowed : mapsRowed Tryz.prog = true := by kernel_rfl
theorem pf_mayEnter : Tryz.prog.mayEnter = true := by kernel_rfl
theorem pf_stopsHeard : Tryz.prog.stopsHeard = true := by kernel_rfl
theorem pf_plainKeys : (Rows.fnExactRepoDropRow.plainKeys == Tryz.prog.plainKeys) = true := by kernel_rfl
theorem pf_lifted : (Rows.fnExactRepoDropRow.lifted == Tryz.prog.liftsFinal) = true := by kernel_rfl
theorem pf_make : (Tryz.prog.make == some Rows.fnExactRepoDropRow.make) = true := by kernel_rfl
end Go.Proofs.YtdfadpejddhbkaaGreat

namespace Go.Proofs.YtdfadpejddhbkaaGreat
set_option linter.unusedVariables false
open Go.ChangeShapes Go.WideShapes Go.ChangeAt Go.RowKit

/-- what is ahead of a version, or it -/
inductive Ahead (cs : List Cm) (a : Nat) : Nat → Prop
  | refl : Ahead cs a a
  | step {j u : Nat} : Ahead cs a j → (u : Int) ∈ (mg cs j).1 → Ahead cs a u

theorem Ahead.sub {cs : List Cm} {a b : Nat} {S : Nat → Prop} (ha : S a) (hc : ∀ j, S j → ∀ u : Nat, (u : Int) ∈ (mg cs j).1 → S u) (h : Ahead cs a b) : S b := by
  induction h with
  | refl => exact ha
  | step _ hu ih => exact hc _ ih _ hu

theorem mem_ix {l : List Int} {x : Int} : x ∈ l ↔ ∃ i, i < l.length ∧ ix l i = x := by
  rw [List.mem_iff_getElem]
  constructor
  · rintro ⟨i, h, e⟩
    exact ⟨i, h, by rw [ix_get h, e]⟩
  · rintro ⟨i, h, e⟩
    exact ⟨i, h, by rw [← ix_get h, e]⟩

/-- the versions ahead of the version of a place lie ahead of it -/
def UpsOk (cs : List Cm) : Prop := ∀ i, i < cs.length → UpOk (mg cs i).1 i

theorem RepoGood.ups {cs : List Cm} {hs : List Hd} (g : RepoGood cs hs) : UpsOk cs := fun i hi => (g.cms i hi).up

theorem UpsOk.mem {cs : List Cm} (g : UpsOk cs) {j : Nat} (hj : j < cs.length) {x : Int} (hx : x ∈ (mg cs j).1) : ∃ u : Nat, x = u ∧ u < j := by
  obtain ⟨i, hi, rfl⟩ := mem_ix.1 hx
  obtain ⟨h1, h2⟩ := (g j hj).1 i hi
  exact ⟨(ix (mg cs j).1 i).toNat, by omega, by omega⟩

theorem Ahead.le {cs : List Cm} (g : UpsOk cs) {a b : Nat} (ha : a < cs.length) (h : Ahead cs a b) : b ≤ a := by
  induction h with
  | refl => exact Nat.le_refl _
  | step h hu ih =>
    obtain ⟨u', e, hlt⟩ := g.mem (by omega) hu
    omega

open Classical in
noncomputable def aheadB (cs : List Cm) (a b : Nat) : Bool := decide (Ahead cs a b)
theorem aheadB_iff {cs : List Cm} {a b : Nat} : aheadB cs a b = true ↔ Ahead cs a b := by simp [aheadB]

/-- how many of the places are not marked -/
def unm (M : Nat → Bool) : Nat := ((List.range 14).filter (fun j => !M j)).length

def markIt (M : Nat → Bool) (j : Nat) : Nat → Bool := fun i => if i = j then true else M i
theorem markIt_at (M : Nat → Bool) (j : Nat) : markIt M j j = true := if_pos rfl
theorem markIt_ne {M : Nat → Bool} {j i : Nat} (h : i ≠ j) : markIt M j i = M i := if_neg h
theorem markIt_of {M : Nat → Bool} {j i : Nat} (h : M i = true) : markIt M j i = true := by
  unfold markIt
  split
  · rfl
  · exact h

theorem count_mark {M : Nat → Bool} {j : Nat} (hj : M j = false) : ∀ (l : List Nat), l.Nodup → (l.filter (fun i => !markIt M j i)).length + (if j ∈ l then 1 else 0) = (l.filter (fun i => !M i)).length
  | [], _ => by simp
  | x :: r, h => by
    obtain ⟨h1, h2⟩ := List.nodup_cons.1 h
    have ih := count_mark hj r h2
    by_cases e : x = j
    · subst e
      have h3 : (r.filter (fun i => !markIt M x i)).length = (r.filter (fun i => !M i)).length := by
        rw [if_neg h1] at ih
        simpa using ih
      simp [markIt_at, hj, h3]
    · have e' : ¬ j = x := fun h => e h.symm
      simp only [List.filter_cons, markIt_ne e, List.mem_cons, e', false_or]
      split
      · simp only [List.length_cons]
        omega
      · exact ih

theorem unm_mark {M : Nat → Bool} {j : Nat} (hj : M j = false) (hlt : j < 14) : unm (markIt M j) + 1 = unm M := by
  have := count_mark hj (List.range 14) List.nodup_range
  rwa [if_pos (List.mem_range.2 hlt)] at this

theorem unm_le (M : Nat → Bool) : unm M ≤ 14 := by
  unfold unm
  have := List.length_filter_le (fun j => !M j) (List.range 14)
  simpa using this

/-- what holds while what is ahead is walked: S was marked ahead of it, M is marked now, st is still to be walked -/
structure Walk (cs : List Cm) (at_ : Nat) (S M : Nat → Bool) (st : List Int) : Prop where
  ahd : ∀ x ∈ st, ∃ j : Nat, x = j ∧ j < cs.length ∧ Ahead cs at_ j
  old : ∀ j, S j = true → M j = true
  new : ∀ j, M j = true → S j = true ∨ Ahead cs at_ j
  cl : ∀ j, M j = true → ∀ u : Nat, (u : Int) ∈ (mg cs j).1 → M u = true ∨ (u : Int) ∈ st
  beg : M at_ = true ∨ (at_ : Int) ∈ st
  few : st.length + 3 * unm M ≤ 43

theorem Walk.start {cs : List Cm} {at_ : Nat} {S : Nat → Bool} (hc : ∀ j, S j = true → ∀ u : Nat, (u : Int) ∈ (mg cs j).1 → S u = true) (ha : at_ < cs.length) : Walk cs at_ S S [(at_ : Int)] :=
  ⟨fun x hx => ⟨at_, by simpa using hx, ha, .refl⟩, fun _ h => h, fun _ h => .inl h, fun j h u hu => .inl (hc j h u hu), .inr (by simp), by have := unm_le S; simp; omega⟩

theorem Walk.skip {cs : List Cm} {at_ : Nat} {S M : Nat → Bool} {st : List Int} {j : Nat} (h : Walk cs at_ S M (st ++ [(j : Int)])) (hm : M j = true) : Walk cs at_ S M st := by
  refine ⟨fun x hx => h.ahd x (by simp [hx]), h.old, h.new, fun i hi u hu => ?_, ?_, by have := h.few; simp at this; omega⟩
  · rcases h.cl i hi u hu with h1 | h1
    · exact .inl h1
    · rcases List.mem_append.1 h1 with h2 | h2
      · exact .inr h2
      · have h3 : (u : Int) = (j : Int) := by simpa using h2
        have : u = j := by omega
        subst this
        exact .inl hm
  · rcases h.beg with h1 | h1
    · exact .inl h1
    · rcases List.mem_append.1 h1 with h2 | h2
      · exact .inr h2
      · have h3 : (at_ : Int) = (j : Int) := by simpa using h2
        have : at_ = j := by omega
        subst this
        exact .inl hm

theorem Walk.mark {cs : List Cm} {at_ : Nat} {S M : Nat → Bool} {st : List Int} {j : Nat} (g : UpsOk cs) (hn : cs.length ≤ 14) (h : Walk cs at_ S M (st ++ [(j : Int)])) (hm : M j = false) : Walk cs at_ S (markIt M j) (st ++ (mg cs j).1) := by
  obtain ⟨j', e, hj, hA⟩ := h.ahd (j : Int) (by simp)
  obtain rfl : j = j' := by omega
  have hu2 := (g j hj).2.1
  refine ⟨fun x hx => ?_, fun i hi => markIt_of (h.old i hi), fun i hi => ?_, fun i hi u hu => ?_, ?_, ?_⟩
  · rcases List.mem_append.1 hx with h1 | h1
    · exact h.ahd x (by simp [h1])
    · obtain ⟨u, rfl, hlt⟩ := g.mem hj h1
      exact ⟨u, rfl, by omega, hA.step h1⟩
  · by_cases e2 : i = j
    · subst e2
      exact .inr hA
    · rw [markIt_ne e2] at hi
      exact h.new i hi
  · by_cases e2 : i = j
    · subst e2
      exact .inr (by simp [hu])
    · rw [markIt_ne e2] at hi
      rcases h.cl i hi u hu with h1 | h1
      · exact .inl (markIt_of h1)
      · rcases List.mem_append.1 h1 with h2 | h2
        · exact .inr (by simp [h2])
        · have h3 : (u : Int) = (j : Int) := by simpa using h2
          have : u = j := by omega
          subst this
          exact .inl (markIt_at _ _)
  · rcases h.beg with h1 | h1
    · exact .inl (markIt_of h1)
    · rcases List.mem_append.1 h1 with h2 | h2
      · exact .inr (by simp [h2])
      · have h3 : (at_ : Int) = (j : Int) := by simpa using h2
        have : at_ = j := by omega
        subst this
        exact .inl (markIt_at _ _)
  · have h1 := h.few
    have h2 := unm_mark hm (by omega)
    simp only [List.length_append, List.length_cons, List.length_nil] at h1 ⊢
    omega

theorem Walk.done {cs : List Cm} {at_ : Nat} {S M : Nat → Bool} (h : Walk cs at_ S M []) (j : Nat) : M j = (S j || aheadB cs at_ j) := by
  rw [Bool.eq_iff_iff, Bool.or_eq_true, aheadB_iff]
  constructor
  · exact h.new j
  · rintro (h1 | h1)
    · exact h.old j h1
    · refine h1.sub (S := fun i => M i = true) ?_ fun i hi u hu => ?_
      · rcases h.beg with h2 | h2
        · exact h2
        · simp at h2
      · rcases h.cl i hi u hu with h2 | h2
        · exact h2
        · simp at h2
end Go.Proofs.YtdfadpejddhbkaaGreat

namespace Go.Proofs.YtdfadpejddhbkaaGreat
set_option linter.unusedVariables false
open Go.ChangeShapes Go.WideShapes Go.ChangeAt Go.RowKit

theorem mg_none {cs : List Cm} {j : Nat} (h : cs.length ≤ j) : (mg cs j).1 = [] := by simp [mg, h]

/-- whether a version is ahead of one of these, or one of them -/
def AheadOf (cs : List Cm) (fr : List Int) (j : Nat) : Prop := ∃ f : Nat, (f : Int) ∈ fr ∧ Ahead cs f j
open Classical in
noncomputable def marksV (cs : List Cm) (fr : List Int) (j : Nat) : Bool := decide (AheadOf cs fr j)

/-- while the places from m on have told -/
structure Told (cs : List Cm) (fr : List Int) (M : Nat → Bool) (m : Nat) : Prop where
  sub : ∀ j, M j = true → AheadOf cs fr j
  sup : ∀ f : Nat, (f : Int) ∈ fr → M f = true
  cl : ∀ j, m ≤ j → M j = true → ∀ u : Nat, (u : Int) ∈ (mg cs j).1 → M u = true

theorem Told.done {cs : List Cm} {fr : List Int} {M : Nat → Bool} (h : Told cs fr M 0) (j : Nat) : M j = marksV cs fr j := by
  rw [Bool.eq_iff_iff]
  simp only [marksV, decide_eq_true_iff]
  constructor
  · exact h.sub j
  · rintro ⟨f, hf, ha⟩
    exact ha.sub (S := fun i => M i = true) (h.sup f hf) fun i hi u hu => h.cl i (Nat.zero_le _) hi u hu

theorem Told.mark {cs : List Cm} {fr : List Int} {M : Nat → Bool} {m i u : Nat} (g : UpsOk cs) (h : Told cs fr M m) (him : i < m) (hi : M i = true) (hu : (u : Int) ∈ (mg cs i).1) (hin : i < cs.length) : Told cs fr (markIt M u) m := by
  obtain ⟨u', e, hlt⟩ := g.mem hin hu
  refine ⟨fun j hj => ?_, fun f hf => markIt_of (h.sup f hf), fun j hj hM v hv => ?_⟩
  · by_cases e2 : j = u
    · subst e2
      obtain ⟨f, hf, ha⟩ := h.sub i hi
      exact ⟨f, hf, ha.step hu⟩
    · rw [markIt_ne e2] at hj
      exact h.sub j hj
  · rw [markIt_ne (by omega)] at hM
    exact markIt_of (h.cl j hj hM v hv)

theorem infoBool : (Tryz.prog.info? 4).map (fun i => (i.zero, i.size, i.bytes)) = some (some (.bool false), 1, 1) := by kernel_rfl

/-- which are among the first of them -/
def amongB (fr : List Int) (k j : Nat) : Bool := decide ((j : Int) ∈ fr.take k)

theorem amongB_step {fr : List Int} {k f : Nat} (h : k < fr.length) (e : ix fr k = (f : Int)) (j : Nat) : amongB fr (k + 1) j = (if j = f then true else amongB fr k j) := by
  have e2 : fr.take (k + 1) = fr.take k ++ [(f : Int)] := by
    rw [← e, ix_get h]
    exact List.take_succ_eq_append_getElem h
  unfold amongB
  rw [e2]
  by_cases h2 : j = f
  · subst h2
    simp
  · rw [if_neg h2]
    have : ¬ (j : Int) = (f : Int) := by omega
    simp [this]

set_option maxRecDepth 100000 in
set_option maxHeartbeats 8000000 in
theorem l7Marks_any (a b fa : Option Addr) (ca cb m fc : Nat) (cs : List Cm) (fr : List Int) (w : World) (hc : CommitsAt w a cs) (g : UpsOk cs) (hn : cs.length ≤ 14) (hL : CmsLen cs 1048576) (hf : IntsAt w fa fr) (hfl : fr.length ≤ 1048576) (hfr : ∀ x ∈ fr, ∃ j : Nat, x = j ∧ j < cs.length) :
    Calls Tryz.prog 81 #[.agg #[.slice a cs.length ca, .slice b m cb], .slice fa fr.length fc] w fun e w' => ∃ p, e = .returned (.slice (some ⟨p, 0, none⟩) cs.length cs.length) ∧ w'.rowIs p 4 cs.length (fun j => .bool (marksV cs fr j)) ∧ w.heap.size ≤ p ∧ Below w.heap.size w w' := by
  obtain ⟨i0, hi, hz0, hz1, hz2⟩ := info_parts infoBool
  have hmk : ∀ u : World, (Instr.makeSlice 109 (.int .i64 (cs.length : Int)) (.int .i64 (cs.length : Int))).run Tryz.prog u =
      .ok (.slice (some ⟨u.heap.size, 0, none⟩) cs.length cs.length) (u.alloc (.cells (madeCells #[.bool false] cs.length) 4)) := fun u => by
    have h := run_make (P := Tryz.prog) u 109 4 i0 (.bool false) Tryz.underlying109 hi hz0 .i64 .i64 (cs.length : Int) (cs.length : Int) (by omega) (Int.le_refl _) (by rw [hz2]; omega) (by omega)
    simpa [hz1, Value.cells] using h
  have HC := Lib.hid hc
  have HG := Lib.hid g
  have HL := Lib.hid hL
  have HF := Lib.hid hf
  have HFR := Lib.hid hfr
  clear hc g hL hf hz0 hz1 hz2 hi hfr
  go_enter Tryz.func81, Tryz.ntmps81
  go_wp2
  clear hmk
  go_loopw [6] (fun i wr => ∃ k : Nat, k ≤ fr.length ∧ i = .int .i64 k ∧ BK wr w.heap.size #[.slice a cs.length ca, .slice b m cb] 46 ∧ wr.rowIs (w.heap.size + 1) 4 cs.length (fun j => .bool (amongB fr k j)) ∧ Below w.heap.size w wr) (fun i _ => fr.length - (intOf i).toNat)
  case atStart =>
    refine ⟨0, Nat.zero_le _, rfl, (BK.new _ _ _).alloc _, ?_, ((Below.refl _ _).alloc (Nat.le_refl _) _).alloc (by simp) _⟩
    have := World.rowIs_made (w.alloc (.cells #[.slice a cs.length ca, .slice b m cb] 46)) (.bool false) cs.length 4
    rw [World.size_alloc] at this
    exact this.congr fun j _ => by simp [amongB]
  case round =>
    obtain ⟨k, hk, rfl, hk1, hrow, hbel⟩ := hrel
    have K1 := Lib.hid hk1
    have HR := Lib.hid hrow
    have HB := Lib.hid hbel
    have hsz := hbel.size
    by_cases hlt : k < fr.length
    · obtain ⟨bf, off, e', hb, hc1⟩ := HF.out k hlt
      obtain ⟨f, ef, hf⟩ := HFR.out (ix fr k) (mem_ix.2 ⟨k, hlt, rfl⟩)
      rw [← hbel.cell (p := ⟨bf, _, none⟩) hb, ef] at hc1
      have EF := Lib.hid ef
      have hd := hrow.cell (i := f) hf
      have hfz := hrow.frozen f
      have q0 : (0 : Int) ≤ (f : Int) := by omega
      have q1 : (f : Int) < (cs.length : Int) := by omega
      subst e'
      clear hbel hrow hk1 ef
      go_wp2
      go_roundw
      case rel => exact ⟨k + 1, by omega, by go_num, K1.out.setOther _ _ (by omega), (HR.out.set f _).congr fun j _ => (by rw [amongB_step hlt EF.out j]; by_cases e : j = f <;> simp [e]), HB.out.setCell (by simp) _⟩
      case measure => simp [intOf]; omega
    · obtain rfl : k = fr.length := by omega
      have T0 : Hid (Told cs fr (amongB fr fr.length) cs.length) := by
        refine ⟨fun j hj => ⟨j, by simpa [amongB] using hj, .refl⟩, fun f hf => by simpa [amongB] using hf, fun j hj _ u hu => ?_⟩
        rw [mg_none hj] at hu
        simp at hu
      have r0 := hk1.cell 0 rfl
      clear hbel hrow hk1
      go_wp2
      clear r0
      go_loopw [7, 8] (fun i _ wr => ∃ (p : Nat) (M : Nat → Bool), p ≤ cs.length ∧ i = .int .i64 ((p : Int) - 1) ∧ Told cs fr M p ∧ BK wr w.heap.size #[.slice a cs.length ca, .slice b m cb] 46 ∧ wr.rowIs (w.heap.size + 1) 4 cs.length (fun j => .bool (M j)) ∧ Below w.heap.size w wr) (fun i _ _ => (intOf i + 1).toNat)
      case atStart => exact ⟨cs.length, _, Nat.le_refl _, rfl, T0.out, K1.out, HR.out, HB.out⟩
      case round =>
        clear T0 K1 HR HB hsz
        obtain ⟨p, M, hp, rfl, ht, hk1, hrow, hbel⟩ := hrel
        have K1 := Lib.hid hk1
        have HR := Lib.hid hrow
        have HB := Lib.hid hbel
        have HT := Lib.hid ht
        have hsz := hbel.size
        clear ht hbel hrow hk1
        rcases p with _ | i
        · simp only [Int.natCast_zero, Int.zero_sub]
          have h1 : decide ((0 : Int) ≤ -1) = false := by decide
          go_wp2
          go_ret
          exact ⟨_, rfl, HR.out.congr fun j _ => by rw [HT.out.done j], by omega, HB.out⟩
        · have e1 : ((i + 1 : Nat) : Int) - 1 = (i : Int) := by omega
          rw [e1]
          clear e1
          have hin : i < cs.length := by omega
          go_wp2
          go_loopw [8] (fun s wr => ∃ (t : Nat) (M : Nat → Bool), s = .int .i64 t ∧ t ≤ (mg cs i).1.length ∧ Told cs fr M (i + 1) ∧ (M i = true → ∀ j, j < t → ∀ u : Nat, ix (mg cs i).1 j = (u : Int) → M u = true) ∧ BK wr w.heap.size #[.slice a cs.length ca, .slice b m cb] 46 ∧ wr.rowIs (w.heap.size + 1) 4 cs.length (fun j => .bool (M j)) ∧ Below w.heap.size w wr) (fun s _ => (mg cs i).1.length - (intOf s).toNat)
          case atStart => exact ⟨0, M, rfl, Nat.zero_le _, HT.out, fun _ j h => absurd h (Nat.not_lt_zero _), K1.out, HR.out, HB.out⟩
          case round =>
            clear HT K1 HR HB hsz
            obtain ⟨t, M, rfl, htl, ht, hmk, hk1, hrow, hbel⟩ := hrel
            have K1 := Lib.hid hk1
            have HR := Lib.hid hrow
            have HB := Lib.hid hbel
            have HT := Lib.hid ht
            have HM := Lib.hid hmk
            have hsz := hbel.size
            have r0 := hk1.cell 0 rfl
            have hd := hrow.cell (i := i) hin
            obtain ⟨bc, oc, ua, uc, sa, sc, e', hx⟩ := HC.out i hin
            obtain ⟨zb, c0, c1, c2, hii, hff⟩ := hx.below hbel
            have ne1 : ¬ (bc = w.heap.size + 1) := by have := hx.lt; omega
            have ne2 : ¬ (w.heap.size + 1 = bc) := by omega
            have q0 : (0 : Int) ≤ (i : Int) := by omega
            have q1 : (i : Int) < (cs.length : Int) := by omega
            have q2 : (mg cs i).1.length ≤ 2 := (HG.out i hin).2.1
            subst e'
            by_cases hlt : t < (mg cs i).1.length
            · cases hM : M i
              · rw [hM] at hd
                clear ht hmk hk1 hrow hx hff hbel hii
                go_wp2
                go_roundw
                case rel => exact ⟨i, M, by omega, rfl, ⟨HT.out.sub, HT.out.sup, fun j hj hMj u hu => by
                  by_cases e : j = i
                  · subst e; rw [hM] at hMj; cases hMj
                  · exact HT.out.cl j (by omega) hMj u hu⟩, K1.out, HR.out, HB.out⟩
                case measure => simp [intOf]
              · rw [hM] at hd
                obtain ⟨bu, ou, eu, hbu, hcu⟩ := hii t hlt
                obtain ⟨b2, o2, eu2, hbu2, _⟩ := hx.ints t hlt
                obtain ⟨u, hu, hult⟩ := HG.out.mem hin (mem_ix.2 ⟨t, hlt, rfl⟩)
                rw [hu] at hcu
                obtain ⟨rfl, rfl⟩ : bu = b2 ∧ ou = o2 := by rw [eu] at eu2; simpa using eu2
                subst eu
                have ne3 : ¬ (bu = w.heap.size + 1) := by omega
                have ne4 : ¬ (w.heap.size + 1 = bu) := by omega
                have hfz := hrow.frozen u
                have hdu := hrow.cell (i := u) (by omega)
                have q3 : (0 : Int) ≤ (u : Int) := by omega
                have q4 : (u : Int) < (cs.length : Int) := by omega
                have HU := Lib.hid hu
                clear ht hmk hk1 hrow hx hff hbel hii hu
                go_wp2
                go_roundw
                case rel =>
                  refine ⟨t + 1, markIt M u, by go_num, by omega, HT.out.mark HG.out (by omega) hM (by rw [← HU.out]; exact mem_ix.2 ⟨t, hlt, rfl⟩) hin, fun _ j hj v hv => ?_, K1.out.setOther _ _ (by omega), (HR.out.set u _).congr fun j _ => (by unfold markIt; by_cases e : j = u <;> simp [e]), HB.out.setCell (by simp) _⟩
                  by_cases e : j = t
                  · subst e
                    have : v = u := by have h1 := hv.symm.trans HU.out; omega
                    subst this
                    exact markIt_at _ _
                  · exact markIt_of (HM.out hM j (by omega) v hv)
                case measure => simp [intOf]; omega
            · obtain rfl : t = (mg cs i).1.length := by omega
              clear ht hmk hk1 hrow hx hff hbel hii
              go_wp2
              go_roundw
              case rel => exact ⟨i, M, by omega, rfl, ⟨HT.out.sub, HT.out.sup, fun j hj hMj u hu => by
                by_cases e : j = i
                · subst e
                  obtain ⟨v, hv, ev⟩ := mem_ix.1 hu
                  exact HM.out hMj v hv u ev
                · exact HT.out.cl j (by omega) hMj u hu⟩, K1.out, HR.out, HB.out⟩
              case measure => simp [intOf]
end Go.Proofs.YtdfadpejddhbkaaGreat

namespace Go.Proofs.YtdfadpejddhbkaaGreat
set_option linter.unusedVariables false
open Go.ChangeShapes Go.WideShapes Go.ChangeAt Go.RowKit

/-- the colours of 14 places, as values -/
def pvals (p : Nat → Int) : List Value := (List.range 14).map fun j => .int .i64 (p j)
theorem pvals_len (p : Nat → Int) : (pvals p).length = 14 := by simp [pvals]
theorem pvals_at (p : Nat → Int) {j : Nat} (h : j < 14) : (pvals p)[j]? = some (.int .i64 (p j)) := by simp [pvals, h]
theorem pvals_row (w : World) (p : Nat → Int) (t : TypeId) : (w.alloc (.cells (pvals p).toArray t)).rowIs w.heap.size t 14 (fun j => .int .i64 (p j)) := by
  have := World.rowIs_alloc w (pvals p).toArray t (fun j => .int .i64 (p j)) (by
    intro i hi
    have hi' : i < 14 := by simpa [pvals_len] using hi
    simpa using pvals_at p hi')
  simpa [pvals_len] using this
theorem pvals_congr {p q : Nat → Int} (h : ∀ j, p j = q j) : pvals p = pvals q := by rw [show p = q from funext h]
theorem info_paints : (Tryz.prog.info? 106).map (fun i => (i.zero, i.size)) = some (some (.agg (pvals fun _ => 0).toArray), 14) := by kernel_rfl
theorem info_paints2 (p : Nat → Int) : (Tryz.prog.info? 106).map (·.size) = some (pvals p).length := by
  have h := info_paints
  rw [pvals_len]
  cases hq : Tryz.prog.info? 106 with
  | none => simp [hq] at h
  | some i => simp [hq] at h ⊢; exact h.2
theorem run_zeroPaints (u : World) : (zeroValue 106).run Tryz.prog u = .ok (.agg (pvals fun _ => 0).toArray) u := by
  have h := info_paints
  cases hq : Tryz.prog.info? 106 with
  | none => simp [hq] at h
  | some i =>
    obtain ⟨h1, h2⟩ : i.zero = some (.agg (pvals fun _ => 0).toArray) ∧ i.size = 14 := by simpa [hq] using h
    simp [zeroValue, typeInfo, Sem.run_bind, hq, h1]
theorem pvals_one (p : Nat → Int) : (pvals p).toArray.all (·.oneCell') = true := all_oneCell_toArray fun v hv => by
  simp only [pvals, List.mem_map] at hv
  obtain ⟨j, _, rfl⟩ := hv
  rfl
theorem pvals_range {w : World} {B : Nat} {t : TypeId} {p : Nat → Int} (h : w.rowIs B t 14 (fun j => .int .i64 (p j))) : w.rangeAt B 0 (pvals p) := by
  intro j v hv
  have hj : j < 14 := by have := (List.getElem?_eq_some_iff.1 hv).1; rwa [pvals_len] at this
  rw [Nat.zero_add, h.cell hj, ← hv, pvals_at p hj]
theorem pvals_there {w : World} {B : Nat} {t : TypeId} {f : Nat → Value} {n : Nat} (hn : n = 14) (h : w.rowIs B t 14 f) : w.there B 0 n := by
  intro j hj
  rw [Nat.zero_add]
  exact ⟨by rw [h.cell (by omega)]; rfl, h.frozen _⟩
theorem below_setCells {B : Nat} {w0 : World} (b : Nat) (hb : B ≤ b) : ∀ (vs : List Value) (o : Nat) (w : World), Below B w0 w → Below B w0 (w.setCells b o vs)
  | [], _, _, h => h
  | v :: r, o, w, h => below_setCells b hb r (o + 1) _ (h.setCell hb v)
theorem results_cell1 {fn : Func} {p : Tmp} {ty : TypeId} (h : fn.results = #[.cell p ty]) (tmps : Array Value) (P : Program) (w : World) :
    (results fn tmps).run P w = ((asAddr (tmps.getD p undef)).run P w).andThen fun a w₁ => (loadVar ty a).run P w₁ := by
  simp only [results, h]
  simp [Sem.run_bind, Result.andThen]

def sliceLen : Value → Nat
  | .slice _ n _ => n
  | _ => 0

open Classical in
/-- how many places of a row have not the colour -/
noncomputable def cntU (b : Nat) (E : Nat → Bool → Int) (w : World) : Nat := ((List.range 14).filter fun j => decide (w.cell? ⟨b, j, none⟩ = some (.int .i64 (E j false)))).length

theorem cntU_eq {b : Nat} {E : Nat → Bool → Int} {w : World} {t : TypeId} {M : Nat → Bool} (hE : ∀ j, E j false ≠ E j true) (h : w.rowIs b t 14 (fun j => .int .i64 (E j (M j)))) : cntU b E w = unm M := by
  unfold cntU unm
  congr 1
  refine List.filter_congr fun j hj => ?_
  have hj' : j < 14 := List.mem_range.1 hj
  rw [h.cell hj']
  cases hM : M j
  · simp
  · simp
    exact fun h => hE j h.symm

/-- the loop's memory -/
structure PW (w : World) (a : Option Addr) (ca n : Nat) (b : Option Addr) (cb m : Nat) (E : Nat → Bool → Int) (M : Nat → Bool) (st : List Int) (wr : World) (v : Value) : Prop where
  k1 : BK wr w.heap.size #[.slice a n ca, .slice b m cb] 46
  row : wr.rowIs (w.heap.size + 1) 106 14 (fun j => .int .i64 (E j (M j)))
  res : wr.rowIs (w.heap.size + 2) 106 14 (fun _ => .int .i64 0)
  stk : GrowI (w.heap.size + 3) st wr v
  bel : Below w.heap.size w wr

theorem PW.grown {w wr W' : World} {a : Option Addr} {ca n : Nat} {b : Option Addr} {cb m : Nat} {E : Nat → Bool → Int} {M : Nat → Bool} {st st' : List Int} {v v' v2 : Value} (h : PW w a ca n b cb m E M st wr v) (hg : wr.grownBy W' v'.ownBlock) (hv : ∀ k, v'.ownBlock = some k → w.heap.size + 3 ≤ k) (hG : GrowI (w.heap.size + 3) st' W' v2) : PW w a ca n b cb m E M st' W' v2 := by
  have hb : ∀ k, k < w.heap.size + 3 → k < wr.heap.size → W'.heap[k]? = wr.heap[k]? := fun k hk hk' => hg.block k hk' fun e => by have := hv k e.symm; omega
  exact ⟨(hb _ (by omega) h.k1.lt).trans h.k1, h.row.of_block (hb _ (by omega) h.row.lt), h.res.of_block (hb _ (by omega) h.res.lt), hG, h.bel.grown hg h.bel.size fun k hk => by have := hv k hk; omega⟩

set_option maxRecDepth 100000 in
set_option maxHeartbeats 8000000 in
theorem paintPast_any (a b : Option Addr) (ca cb m : Nat) (cs : List Cm) (at_ : Nat) (c : Int) (E : Nat → Bool → Int) (S : Nat → Bool) (w : World) (hc : CommitsAt w a cs) (g : UpsOk cs) (hn : cs.length ≤ 14) (hL : CmsLen cs 1048576) (hat : at_ < cs.length)
    (hS : ∀ j, S j = true → ∀ u : Nat, (u : Int) ∈ (mg cs j).1 → S u = true)
    (e0 : ∀ j, bits .and .i64 (E j false) c = 0) (e1 : ∀ j, bits .and .i64 (E j true) c ≠ 0) (e2 : ∀ j, bits .or .i64 (E j false) c = E j true) :
    Calls Tryz.prog 79 #[.agg #[.slice a cs.length ca, .slice b m cb], .int .i64 at_, .int .i64 c, .agg (pvals fun j => E j (S j)).toArray] w fun e w' => e = .returned (.agg (pvals fun j => E j (S j || aheadB cs at_ j)).toArray) ∧ Below w.heap.size w w' := by
  have HC := Lib.hid hc
  have HG := Lib.hid g
  have HL := Lib.hid hL
  have HE : Hid (∀ j, E j false ≠ E j true) := fun j h => e1 j (h ▸ e0 j)
  have E0 := Lib.hid e0
  have E1 := Lib.hid e1
  have E2 := Lib.hid e2
  have HW0 : Hid (Walk cs at_ S S [(at_ : Int)]) := Walk.start hS hat
  clear hc g hL e0 e1 e2 hS
  have hz := run_zeroPaints
  go_enter Tryz.func79, Tryz.ntmps79
  go_wp2
  clear hz
  go_loopw [9, 10, 11] (fun s9 _ _ wr => ∃ (st : List Int) (M : Nat → Bool), Walk cs at_ S M st ∧ PW w a ca cs.length b cb m E M st wr s9) (fun s9 _ _ wr => sliceLen s9 + 3 * cntU (w.heap.size + 1) E wr)
  case atStart =>
    refine ⟨[(at_ : Int)], S, HW0.out, ((BK.new _ _ _).alloc _ |>.alloc _).alloc _, ?_, ?_, ?_, ((((Below.refl _ _).alloc (Nat.le_refl _) _).alloc (by simp) _).alloc (by simp; omega) _).alloc (by simp; omega) _⟩
    · have := pvals_row (w.alloc (.cells #[.slice a cs.length ca, .slice b m cb] 46)) (fun j => E j (S j)) 106
      rw [World.size_alloc] at this
      exact (this.alloc _).alloc _
    · have := pvals_row ((w.alloc (.cells #[.slice a cs.length ca, .slice b m cb] 46)).alloc (.cells (pvals fun j => E j (S j)).toArray 106)) (fun _ => 0) 106
      rw [World.size_alloc, World.size_alloc] at this
      exact this.alloc _
    · have := GrowI.one (((w.alloc (.cells #[.slice a cs.length ca, .slice b m cb] 46)).alloc (.cells (pvals fun j => E j (S j)).toArray 106)).alloc (.cells (pvals fun _ => 0).toArray 106)) (at_ : Int) (w.heap.size + 3) (by simp)
      rw [World.size_alloc, World.size_alloc, World.size_alloc] at this
      exact this
  case round =>
    obtain ⟨st, M, hwk, hpw⟩ := hrel
    have WK := Lib.hid hwk
    have PP := Lib.hid hpw
    have hcnt := Lib.hid (cntU_eq HE.out hpw.row)
    obtain ⟨av, cv, rfl, hcv, hia⟩ := hpw.stk.form
    have hbel := hpw.bel
    have hsz := hbel.size
    rcases List.eq_nil_or_concat st with rfl | ⟨st', x, est⟩
    · obtain ⟨q, hq⟩ : ∃ q : Nat → Int, q = fun j => E j (S j || aheadB cs at_ j) := ⟨_, rfl⟩
      have hr := pvals_range (p := q) (hpw.row.congr fun j _ => by rw [hq, hwk.done j])
      have ht := pvals_there rfl hpw.res
      have hu := Tryz.underlying106
      have HH := Lib.hid hr
      have HT := Lib.hid ht
      have BB := Lib.hid hbel
      have HQ := Lib.hid hq
      clear hr ht hwk hpw hia hbel hq
      go_wp2_with (first | (refine wpList_load_mid (by rfl) 106 _ (by rfl) (w.heap.size + 1) 0 (by rfl) (pvals q) _ HH.out hu (by rfl) (info_paints2 q) ?_) | (refine wpList_store_mid (by rfl) 106 _ _ (by rfl) (w.heap.size + 2) 0 (pvals q).toArray (by rfl) (by rfl) (by simpa [pvals_len] using HT.out) (by simpa using info_paints2 q) (pvals_one q) ?_))
      have hld := run_loadVar_mid (P := Tryz.prog) _ (w.heap.size + 2) 0 106 (pvals q) _ (World.rangeAt_setCells_same wr (w.heap.size + 2) 0 (pvals q) (by simpa [pvals_len] using HT.out)) hu rfl (info_paints2 q)
      refine bodyPost_ret (v := .agg (pvals q).toArray) ?_ rfl ⟨by rw [HQ.out], below_setCells _ (by omega) _ _ _ BB.out⟩
      rw [results_cell1 rfl]
      show ((asAddr (.pointer (some ⟨w.heap.size + 2, 0, none⟩))).run Tryz.prog (wr.setCells (w.heap.size + 2) 0 (pvals q))).andThen _ = _
      simp [asAddr, Result.andThen, hld]
    · rw [List.concat_eq_append] at est
      subst est
      obtain ⟨j, rfl, hj, hA⟩ := hwk.ahd x (by simp)
      have hlen : (st' ++ [(j : Int)]).length = st'.length + 1 := by simp
      obtain ⟨b', off, rfl, hb', hx⟩ := hia st'.length (by omega)
      rw [show ix (st' ++ [(j : Int)]) st'.length = (j : Int) by simp [ix]] at hx
      have hfew := hwk.few
      rw [hlen] at hfew hcv ⊢
      have SS : Hid (GrowI (w.heap.size + 3) st' wr (.slice (some ⟨b', off, none⟩) st'.length cv)) := hpw.stk.take
      have hk0 : (0 : Int) ≤ (j : Int) := by omega
      have hk1 : (j : Int) < 14 := by omega
      have hs0 : (0 : Int) ≤ (st'.length : Int) := by omega
      have hs1 : (st'.length : Int) ≤ (cv : Int) := by omega
      have hd := hpw.row.cell (i := j) (by omega)
      have hf := hpw.row.frozen j
      cases hM : M j
      · rw [hM] at hd
        have hz0 : (bits .and .i64 (E j false) c != 0) = false := by simp [E0.out j]
        have hor := E2.out j
        obtain ⟨bc, oc, ua, uc, sa, sc, e', hx'⟩ := HC.out j hj
        obtain ⟨zb, c0, c1, c2, hii, hff⟩ := hx'.below hbel
        have r0 := hpw.k1.cell 0 rfl
        have ne1 : ¬ (bc = w.heap.size + 1) := by have := hx'.lt; omega
        have ne2 : ¬ (w.heap.size + 1 = bc) := by omega
        have HIU : Hid (IntsAt (wr.setCell ⟨w.heap.size + 1, j, none⟩ (.int .i64 (E j true))) ua (mg cs j).1) := hx'.ints.below (hbel.setCell (by simp) _)
        have SS' : Hid (GrowI (w.heap.size + 3) st' (wr.setCell ⟨w.heap.size + 1, j, none⟩ (.int .i64 (E j true))) (.slice (some ⟨b', off, none⟩) st'.length cv)) := SS.out.set (by simp) _
        clear hwk hpw hia hbel hii hff hx'
        subst e'
        go_wp2_with (at_builtin; refine wpList_moreI (by rfl) _ _ (by rfl) SS'.out HIU.out (by rfl) (by rfl) (by have := (HG.out j hj).2.1; omega) ?_; intro r a2 c2 W2 hr hgrow hG2; have R := Lib.hid hr; have HGR := Lib.hid hgrow; have HG2 := Lib.hid hG2; clear hr hgrow hG2)
        have PW1 : PW w (some ⟨bc, oc, none⟩) ca cs.length b cb m E (markIt M j) st' (wr.setCell ⟨w.heap.size + 1, j, none⟩ (.int .i64 (E j true))) (.slice (some ⟨b', off, none⟩) st'.length cv) :=
          ⟨PP.out.k1.setOther _ _ (by omega), (PP.out.row.set j _).congr fun i hi => (by
              by_cases e : i = j
              · subst e
                rw [if_pos rfl, markIt_at]
              · rw [if_neg e, markIt_ne e]), PP.out.res.setOther (by simp) _, SS'.out, PP.out.bel.setCell (by simp) _⟩
        have PW2 : Hid (PW w (some ⟨bc, oc, none⟩) ca cs.length b cb m E (markIt M j) r W2 (.slice a2 r.length c2)) := PW1.grown HGR.out SS'.out.block HG2.out
        have hm := unm_mark hM (by omega)
        have hc2 := cntU_eq HE.out PW2.out.row
        have hr2 := (HG.out j hj).2.1
        have hrl : r.length = st'.length + (mg cs j).1.length := by rw [R.out, List.length_append]
        clear PW1
        go_wp2
        go_roundw
        case rel => exact ⟨r, markIt M j, by rw [R.out]; exact WK.out.mark HG.out hn hM, PW2.out⟩
        case measure =>
          have := hcnt.out
          simp only [sliceLen]
          omega
      · rw [hM] at hd
        have hz0 : (bits .and .i64 (E j true) c != 0) = true := by simp [E1.out j]
        clear hwk hpw hia hbel
        go_wp2
        go_roundw
        case rel => exact ⟨st', M, WK.out.skip hM, ⟨PP.out.k1, PP.out.row, PP.out.res, SS.out, PP.out.bel⟩⟩
        case measure => simp [sliceLen]
end Go.Proofs.YtdfadpejddhbkaaGreat

namespace Go.Proofs.YtdfadpejddhbkaaGreat
set_option linter.unusedVariables false
open Go.ChangeShapes Go.WideShapes Go.ChangeAt Go.RowKit

/-- the places of a kind, the greatest first -/
def pastL (B : Nat → Bool) : Nat → List Int
  | 0 => []
  | n + 1 => (if B n then [(n : Int)] else []) ++ pastL B n

theorem pastL_len (B : Nat → Bool) : ∀ n, (pastL B n).length ≤ n
  | 0 => Nat.le_refl _
  | n + 1 => by
    have := pastL_len B n
    unfold pastL
    split <;> simp <;> omega

theorem mem_pastL {B : Nat → Bool} {x : Int} : ∀ {n : Nat}, x ∈ pastL B n ↔ ∃ j : Nat, j < n ∧ x = j ∧ B j = true
  | 0 => by simp [pastL]
  | n + 1 => by
    unfold pastL
    rw [List.mem_append, mem_pastL (n := n)]
    constructor
    · rintro (h | ⟨j, h1, h2, h3⟩)
      · split at h
        · exact ⟨n, by omega, by simpa using h, by assumption⟩
        · simp at h
      · exact ⟨j, by omega, h2, h3⟩
    · rintro ⟨j, h1, h2, h3⟩
      by_cases e : j = n
      · subst e
        exact .inl (by simp [h3, h2])
      · exact .inr ⟨j, by omega, h2, h3⟩

theorem pastL_congr {B C : Nat → Bool} : ∀ {n : Nat}, (∀ j, j < n → B j = C j) → pastL B n = pastL C n
  | 0, _ => rfl
  | n + 1, h => by
    unfold pastL
    rw [h n (by omega), pastL_congr fun j hj => h j (by omega)]

theorem pastL_more {B : Nat → Bool} {n : Nat} : ∀ {m : Nat}, n ≤ m → (∀ j, n ≤ j → B j = false) → pastL B m = pastL B n
  | 0, h, _ => by rw [show n = 0 by omega]
  | m + 1, h, hb => by
    by_cases e : n = m + 1
    · rw [e]
    · have ih := pastL_more (m := m) (by omega) hb
      unfold pastL
      rw [hb m (by omega), ih]
      simp
      cases n <;> rfl

theorem int_one (w : World) (x : Int) (t : TypeId) : IntsAt (w.alloc (.cells #[.int .i64 x] t)) (some ⟨w.heap.size, 0, none⟩) [x] := by
  intro i hi
  obtain rfl : i = 0 := by simp at hi; omega
  exact ⟨w.heap.size, 0, rfl, by simp, by simp [go_sem, ix]⟩

set_option maxRecDepth 100000 in
set_option maxHeartbeats 4000000 in
theorem paintedJust_any (p : Nat → Int) (c : Int) (w : World) :
    Calls Tryz.prog 78 #[.agg (pvals p).toArray, .int .i64 c] w fun e w' => (∃ v, e = .returned v ∧ GrowI (w.heap.size + 1) (pastL (fun j => decide (p j = c)) 14) w' v) ∧ Below w.heap.size w w' := by
  obtain ⟨L, hL⟩ : ∃ L, L = pastL (fun j => decide (p j = c)) 14 := ⟨_, rfl⟩
  rw [← hL]
  have LL := Lib.hid hL
  have hlen : L.length ≤ 14 := by rw [hL]; exact pastL_len _ _
  clear hL
  go_enter Tryz.func78, Tryz.ntmps78
  go_wp2
  go_loopw [5, 6] (fun s5 i wr => ∃ (m : Nat) (acc : List Int), m ≤ 14 ∧ i = .int .i64 ((m : Int) - 1) ∧ acc ++ pastL (fun j => decide (p j = c)) m = L ∧ GrowI (w.heap.size + 1) acc wr s5 ∧ wr.rowIs w.heap.size 106 14 (fun j => .int .i64 (p j)) ∧ Below w.heap.size w wr) (fun _ i _ => (intOf i + 1).toNat)
  case atStart => exact ⟨14, [], Nat.le_refl _, rfl, LL.out.symm, GrowI.nil (by simp), pvals_row w p _, (Below.refl _ _).alloc (Nat.le_refl _) _⟩
  case round =>
    obtain ⟨m, acc, hm, rfl, hacc, hG, hrow, hbel⟩ := hrel
    have HG := Lib.hid hG
    have HR := Lib.hid hrow
    have HB := Lib.hid hbel
    have HA := Lib.hid hacc
    have hsz := hbel.size
    obtain ⟨av, cv, rfl, hcv, _⟩ := hG.form
    rcases m with _ | i
    · simp only [Int.natCast_zero, Int.zero_sub]
      have h1 : decide ((0 : Int) ≤ -1) = false := by decide
      have e : Hid (acc = L) := by rw [Hid, ← hacc]; simp [pastL]
      clear hacc hG hrow hbel
      go_wp2
      go_ret
      exact ⟨⟨_, rfl, by rw [← e.out]; exact HG.out⟩, HB.out⟩
    · have e1 : ((i + 1 : Nat) : Int) - 1 = (i : Int) := by omega
      rw [e1]
      clear e1
      have hd := hrow.cell (i := i) (by omega)
      have q5 : (0 : Int) ≤ (i : Int) := by omega
      have q6 : (i : Int) < 14 := by omega
      have hla : acc.length ≤ 14 := by have : acc.length ≤ L.length := by rw [← hacc, List.length_append]; omega
                                       omega
      clear hacc hG hrow hbel
      by_cases hs : p i = c
      · have he : (p i == c) = true := by simp [hs]
        have HS := Lib.hid hs
        clear hs
        have A1 : Hid (Below wr.heap.size wr (wr.alloc (.cells #[.int .i64 (i : Int)] 3))) := (Below.refl _ _).alloc (Nat.le_refl _) _
        go_wp2_with (at_builtin; refine wpList_moreI (by rfl) _ _ (by rfl) (HG.out.below A1.out) (int_one _ _ _) (by rfl) (by rfl) (by simp; omega) ?_; intro r a2 c2 W2 hr hgrow hG2; have R := Lib.hid hr; have HGR := Lib.hid hgrow; have HG2 := Lib.hid hG2; clear hr hgrow hG2)
        have hblk := (HG.out.below A1.out).block
        have hrow2 : W2.rowIs w.heap.size 106 14 (fun j => .int .i64 (p j)) := (HR.out.alloc _).of_block (HGR.out.block _ (by simp; omega) fun e => by have := hblk _ e.symm; omega)
        go_roundw
        case rel => exact ⟨i, r, by omega, rfl, by rw [R.out, ← HA.out]; simp [pastL, HS.out], HG2.out, hrow2, (HB.out.alloc hsz _).grown HGR.out (by simp; omega) fun k hk => by have := hblk k hk; omega⟩
        case measure => simp [intOf]
      · have he : (p i == c) = false := by simp [hs]
        have HS := Lib.hid hs
        clear hs
        go_wp2
        go_roundw
        case rel => exact ⟨i, acc, by omega, rfl, by rw [← HA.out]; simp [pastL, HS.out], HG.out, HR.out, HB.out⟩
        case measure => simp [intOf]

open Classical in
/-- a version and all that is ahead of it; none, if it is not right -/
noncomputable def pastV (cs : List Cm) (hs : List Hd) (x : Int) : List Int := if RepoGood cs hs ∧ 0 ≤ x ∧ x < cs.length then pastL (aheadB cs x.toNat) 14 else []

theorem pastV_ok {cs : List Cm} {hs : List Hd} {k : Nat} (g : RepoGood cs hs) (h : k < cs.length) : pastV cs hs k = pastL (aheadB cs k) 14 := by
  unfold pastV
  rw [if_pos ⟨g, by omega, by omega⟩]
  simp

theorem pastV_bad {cs : List Cm} {hs : List Hd} {x : Int} (h : ¬ (RepoGood cs hs ∧ 0 ≤ x ∧ x < cs.length)) : pastV cs hs x = [] := if_neg h

theorem and00 : bits .and .i64 0 1 = 0 := by decide
theorem and11 : bits .and .i64 1 1 ≠ 0 := by decide
theorem or01 : bits .or .i64 0 1 = 1 := by decide

set_option maxRecDepth 100000 in
set_option maxHeartbeats 4000000 in
theorem implRepoPast_any (a b : Option Addr) (ca cb : Nat) (cs : List Cm) (hs : List Hd) (x : Int) (w : World) (hr : RepoAt w a b cs hs) (hl : RpLen cs hs 1048576) (hca : cs.length ≤ ca) :
    Calls Tryz.prog 26 #[.agg #[.slice a cs.length ca, .slice b hs.length cb], .int .i64 x] w fun e w' => (∃ v, e = .returned v ∧ GrowI w.heap.size (pastV cs hs x) w' v) ∧ Below w.heap.size w w' := by
  have HR := Lib.hid hr
  have HL := Lib.hid hl
  clear hr hl
  have A1 : Hid (∀ o, Below w.heap.size w (w.alloc o)) := fun o => (Below.refl _ _).alloc (Nat.le_refl _) _
  have hz := run_zeroPaints
  go_enter Tryz.func26, Tryz.ntmps26
  go_wp2_with fail
  refine (implRepoOk_any _ _ _ _ _ _ _ (HR.out.below (A1.out _)) HL.out hca).mono ?_
  rintro e w1 ⟨rfl, hb1⟩
  have K1 : Hid (Box2 w1 w.heap.size (.slice a cs.length ca) (.slice b hs.length cb)) := (Box2.new w _ _ _).later hb1
  have B1 : Hid (Below w.heap.size w w1) := (A1.out _).trans (hb1.mono (by simp))
  clear hb1
  by_cases hg : RepoGood cs hs
  · rw [repoOk_true hg]
    obtain ⟨z0, c0, c1⟩ := K1.out
    go_wp2_with fail
    refine (isPlace_any _ _ _).mono ?_
    rintro e w2 ⟨rfl, rfl⟩
    by_cases hp : 0 ≤ x ∧ x < cs.length
    · rw [decide_eq_true hp]
      obtain ⟨k, rfl⟩ : ∃ k : Nat, x = k := ⟨x.toNat, by omega⟩
      have hk : k < cs.length := by omega
      have HP := Lib.hid (pastV_ok hg hk)
      clear hp
      go_wp2_with fail
      clear c0 c1 hz
      refine (paintPast_any _ _ _ _ _ cs k 1 (fun _ s => cond s 1 0) (fun _ => false) _ (HR.out.cms.below B1.out) hg.ups hg.c2 HL.out.cms hk (fun j h => by simp at h) (fun _ => and00) (fun _ => and11) (fun _ => or01)).mono ?_
      rintro e w3 ⟨rfl, hb3⟩
      have B3 : Hid (Below w.heap.size w w3) := B1.out.trans (hb3.mono B1.out.size)
      clear hb3 hg
      go_wp2_with fail
      refine (paintedJust_any _ _ _).mono ?_
      rintro e w4 ⟨⟨v, rfl, hG⟩, hb4⟩
      have B4 : Hid (Below w.heap.size w w4) := B3.out.trans (hb4.mono B3.out.size)
      have G : Hid (GrowI w.heap.size (pastV cs hs k) w4 v) := by
        have e : pastL (fun j => decide (cond (aheadB cs k j) (1 : Int) 0 = 1)) 14 = pastV cs hs k := by
          rw [HP.out]
          refine pastL_congr fun j _ => ?_
          cases aheadB cs k j <;> rfl
        have hz := B3.out.size
        rw [e] at hG
        obtain ⟨⟨h1, h2⟩, h3⟩ := hG
        refine ⟨⟨h1, h2.imp id ?_⟩, by omega⟩
        rintro ⟨g, cap, cur, q1, q2, q3⟩
        exact ⟨g, cap, cur, q1, by omega, q3⟩
      clear hG hb4
      go_wp2
      go_ret
      exact ⟨⟨_, rfl, G.out⟩, B4.out⟩
    · rw [decide_eq_false hp]
      have HP := Lib.hid (pastV_bad (cs := cs) (hs := hs) (x := x) fun h => hp h.2)
      clear hp hg hz
      go_wp2
      go_ret
      exact ⟨⟨_, rfl, by rw [HP.out]; exact GrowI.nil B1.out.size⟩, B1.out⟩
  · rw [repoOk_false hg]
    have HP := Lib.hid (pastV_bad (cs := cs) (hs := hs) (x := x) fun h => hg h.1)
    clear hg hz
    go_wp2
    go_ret
    exact ⟨⟨_, rfl, by rw [HP.out]; exact GrowI.nil B1.out.size⟩, B1.out⟩
end Go.Proofs.YtdfadpejddhbkaaGreat

namespace Go.Proofs.YtdfadpejddhbkaaGreat
set_option linter.unusedVariables false
open Go.ChangeShapes Go.WideShapes Go.ChangeAt Go.RowKit

set_option maxHeartbeats 1000000 in
theorem indexI_any (a : Option Addr) (cap : Nat) (is : List Int) (x : Int) (w : World) (hp : IntsAt w a is) (hl : is.length ≤ 1048576) :
    Calls Tryz.prog 134 #[.slice a is.length cap, .int .i64 x] w fun e w' => (∃ r, e = .returned (.int .i64 r) ∧ ((r = -1 ∧ x ∉ is) ∨ (0 ≤ r ∧ x ∈ is))) ∧ w = w' := by
  have HP := Lib.hid hp
  clear hp
  go_enter Tryz.func134, Tryz.ntmps134
  go_wp2
  go_loop [5, 8] (fun _ i => ∃ k : Nat, k ≤ is.length ∧ i = .int .i64 k ∧ ∀ j, j < k → x ≠ ix is j) (fun _ i => is.length - (intOf i).toNat)
  case atStart => exact ⟨0, Nat.zero_le _, rfl, fun j h => absurd h (Nat.not_lt_zero _)⟩
  case round =>
    obtain ⟨k, hk, rfl, hall⟩ := hrel
    have HA := Lib.hid hall
    clear hall
    by_cases hlt : k < is.length
    · obtain ⟨b, off, rfl, hb, hc1⟩ := HP.out k hlt
      by_cases h1 : x = ix is k
      · have e1 : (x == ix is k) = true := by simp [h1]
        have HM : Hid (x ∈ is) := mem_ix.2 ⟨k, hlt, h1.symm⟩
        clear h1
        go_wp2
        go_ret
        exact ⟨⟨_, rfl, .inr ⟨by omega, HM.out⟩⟩, rfl⟩
      · have e1 : (x == ix is k) = false := by simp [h1]
        have H1 := Lib.hid h1
        clear h1
        go_wp2
        go_round
        case rel => exact ⟨k + 1, by omega, by go_num, fun j hj => by by_cases e : j = k; (subst e; exact H1.out); exact HA.out j (by omega)⟩
        case measure => simp [intOf]; omega
    · obtain rfl : k = is.length := by omega
      have HM : Hid (x ∉ is) := fun h => by
        obtain ⟨i, hi, e⟩ := mem_ix.1 h
        exact HA.out i hi e.symm
      go_wp2
      go_ret
      exact ⟨⟨_, rfl, .inl ⟨rfl, HM.out⟩⟩, rfl⟩

set_option maxHeartbeats 1000000 in
theorem containsI_any (a : Option Addr) (cap : Nat) (is : List Int) (x : Int) (w : World) (hp : IntsAt w a is) (hl : is.length ≤ 1048576) :
    Calls Tryz.prog 86 #[.slice a is.length cap, .int .i64 x] w fun e w' => e = .returned (.bool (decide (x ∈ is))) ∧ w = w' := by
  have HP := Lib.hid hp
  clear hp
  go_enter Tryz.func86, Tryz.ntmps86
  go_wp2_with fail
  refine (indexI_any _ _ _ _ _ HP.out hl).mono ?_
  rintro e w1 ⟨⟨r, rfl, hr⟩, rfl⟩
  rcases hr with ⟨rfl, h⟩ | ⟨h0, h⟩
  · have HE : Hid (decide (x ∈ is) = false) := by simp [Hid, h]
    clear h
    go_wp2
    go_ret
    exact ⟨by rw [HE.out]; rfl, rfl⟩
  · have HE : Hid (decide (x ∈ is) = true) := by simp [Hid, h]
    clear h
    go_wp2
    go_ret
    exact ⟨by rw [HE.out]; rfl, rfl⟩

/-- whether one is ahead of the other, or it -/
noncomputable def aheadV (cs : List Cm) (hs : List Hd) (x y : Int) : Bool := decide (x ∈ pastV cs hs y)

set_option maxRecDepth 100000 in
set_option maxHeartbeats 2000000 in
theorem implRepoAhead_any (a b : Option Addr) (ca cb : Nat) (cs : List Cm) (hs : List Hd) (x y : Int) (w : World) (hr : RepoAt w a b cs hs) (hl : RpLen cs hs 1048576) (hca : cs.length ≤ ca) :
    Calls Tryz.prog 29 #[.agg #[.slice a cs.length ca, .slice b hs.length cb], .int .i64 x, .int .i64 y] w fun e w' => e = .returned (.bool (aheadV cs hs x y)) ∧ Below w.heap.size w w' := by
  have HR := Lib.hid hr
  have HL := Lib.hid hl
  clear hr hl
  have A1 : Hid (∀ o, Below w.heap.size w (w.alloc o)) := fun o => (Below.refl _ _).alloc (Nat.le_refl _) _
  go_enter Tryz.func29, Tryz.ntmps29
  go_wp2_with fail
  refine (implRepoPast_any _ _ _ _ cs hs y _ (HR.out.below (A1.out _)) HL.out hca).mono ?_
  rintro e w1 ⟨⟨v, rfl, hG⟩, hb1⟩
  have B1 : Hid (Below w.heap.size w w1) := (A1.out _).trans (hb1.mono (by simp))
  obtain ⟨av, cv, rfl, hcv, hia⟩ := hG.form
  have IA := Lib.hid hia
  have hlen : (pastV cs hs y).length ≤ 1048576 := by
    unfold pastV
    split
    · have := pastL_len (aheadB cs y.toNat) 14
      omega
    · simp
  clear hb1 hG hia
  go_wp2_with fail
  refine (containsI_any _ _ _ _ _ IA.out hlen).mono ?_
  rintro e w2 ⟨rfl, rfl⟩
  go_wp2
  go_ret
  exact ⟨rfl, B1.out⟩
end Go.Proofs.YtdfadpejddhbkaaGreat

namespace Go.Proofs.YtdfadpejddhbkaaGreat
set_option linter.unusedVariables false
open Go.ChangeShapes Go.WideShapes Go.ChangeAt Go.RowKit

open Classical in
noncomputable def inB (cs : List Cm) (hs : List Hd) (x : Int) : Bool := decide (RepoGood cs hs ∧ 0 ≤ x ∧ x < cs.length)

set_option maxRecDepth 100000 in
set_option maxHeartbeats 2000000 in
theorem l7In_any (a b : Option Addr) (ca cb : Nat) (cs : List Cm) (hs : List Hd) (x : Int) (w : World) (hr : RepoAt w a b cs hs) (hl : RpLen cs hs 1048576) :
    Calls Tryz.prog 80 #[.agg #[.slice a cs.length ca, .slice b hs.length cb], .int .i64 x] w fun e w' => e = .returned (.bool (inB cs hs x)) ∧ Below w.heap.size w w' := by
  have HR := Lib.hid hr
  have HL := Lib.hid hl
  clear hr hl
  have A1 : Hid (∀ o, Below w.heap.size w (w.alloc o)) := fun o => (Below.refl _ _).alloc (Nat.le_refl _) _
  go_enter Tryz.func80, Tryz.ntmps80
  go_wp2_with fail
  refine (specRepoOk_any _ _ _ _ _ _ _ (HR.out.below (A1.out _)) HL.out).mono ?_
  rintro e w1 ⟨rfl, hb1⟩
  have c0 := cell_later hb1 (a := ⟨w.heap.size, 0, none⟩) (v := .slice a cs.length ca) (by simp [go_sem])
  have B1 : Hid (Below w.heap.size w w1) := (A1.out _).trans (hb1.mono (by simp))
  have hll := HL.out.cl
  clear hb1
  by_cases hg : RepoGood cs hs
  · rw [repoOk_true hg]
    by_cases h0 : 0 ≤ x
    · have HE : Hid (inB cs hs x = decide (x < cs.length)) := by simp [Hid, inB, hg, h0]
      clear hg
      go_wp2
      go_ret
      exact ⟨by rw [HE.out]; rfl, B1.out⟩
    · have HE : Hid (inB cs hs x = false) := by simp [Hid, inB]; intro _ _; omega
      clear hg
      go_wp2
      go_ret
      exact ⟨by rw [HE.out]; rfl, B1.out⟩
  · rw [repoOk_false hg]
    have HE : Hid (inB cs hs x = false) := by simp [Hid, inB, hg]
    clear hg
    go_wp2
    go_ret
    exact ⟨by rw [HE.out]; rfl, B1.out⟩

theorem marks_one (cs : List Cm) (k j : Nat) : marksV cs [(k : Int)] j = aheadB cs k j := by
  rw [Bool.eq_iff_iff, aheadB_iff]
  simp only [marksV, decide_eq_true_iff]
  constructor
  · rintro ⟨f, hf, h⟩
    have : (f : Int) = (k : Int) := by simpa using hf
    rwa [show f = k by omega] at h
  · exact fun h => ⟨k, by simp, h⟩

theorem aheadV_true {cs : List Cm} {hs : List Hd} {i k : Nat} (g : RepoGood cs hs) (h : k < cs.length) (hi : i < cs.length) : aheadV cs hs i k = aheadB cs k i := by
  have hn := g.c2
  rw [Bool.eq_iff_iff]
  simp only [aheadV, decide_eq_true_iff]
  rw [pastV_ok g h, mem_pastL]
  constructor
  · rintro ⟨j, h1, h2, h3⟩
    rwa [show i = j by omega]
  · exact fun h3 => ⟨i, by omega, rfl, h3⟩

theorem aheadV_in {cs : List Cm} {hs : List Hd} {x y : Int} (h : aheadV cs hs x y = true) : inB cs hs x = true ∧ inB cs hs y = true := by
  simp only [aheadV, decide_eq_true_iff] at h
  by_cases hp : RepoGood cs hs ∧ 0 ≤ y ∧ y < cs.length
  · obtain ⟨k, rfl⟩ : ∃ k : Nat, y = k := ⟨y.toNat, by omega⟩
    have hk : k < cs.length := by omega
    rw [pastV_ok hp.1 hk, mem_pastL] at h
    obtain ⟨j, h1, rfl, h3⟩ := h
    have := (aheadB_iff.1 h3).le hp.1.ups hk
    simp only [inB, decide_eq_true_iff]
    exact ⟨⟨hp.1, by omega, by omega⟩, hp⟩
  · rw [pastV_bad hp] at h
    simp at h

set_option maxRecDepth 100000 in
set_option maxHeartbeats 4000000 in
theorem specRepoAhead_any (a b : Option Addr) (ca cb : Nat) (cs : List Cm) (hs : List Hd) (x y : Int) (w : World) (hr : RepoAt w a b cs hs) (hl : RpLen cs hs 1048576) :
    Calls Tryz.prog 30 #[.agg #[.slice a cs.length ca, .slice b hs.length cb], .int .i64 x, .int .i64 y] w fun e w' => e = .returned (.bool (aheadV cs hs x y)) ∧ Below w.heap.size w w' := by
  have HR := Lib.hid hr
  have HL := Lib.hid hl
  clear hr hl
  have A1 : Hid (∀ o, Below w.heap.size w (w.alloc o)) := fun o => (Below.refl _ _).alloc (Nat.le_refl _) _
  go_enter Tryz.func30, Tryz.ntmps30
  go_wp2_with fail
  refine (l7In_any _ _ _ _ _ _ _ _ (HR.out.below (A1.out _)) HL.out).mono ?_
  rintro e w1 ⟨rfl, hb1⟩
  have K1 : Hid (Box2 w1 w.heap.size (.slice a cs.length ca) (.slice b hs.length cb)) := (Box2.new w _ _ _).later hb1
  have B1 : Hid (Below w.heap.size w w1) := (A1.out _).trans (hb1.mono (by simp))
  clear hb1
  cases hx : inB cs hs x
  · have HE : Hid (aheadV cs hs x y = false) := by
      rw [Hid, ← Bool.not_eq_true]
      intro h
      rw [(aheadV_in h).1] at hx
      cases hx
    clear hx
    go_wp2
    go_ret
    exact ⟨by rw [HE.out]; rfl, B1.out⟩
  · have HX := Lib.hid hx
    clear hx
    obtain ⟨z0, c0, c1⟩ := K1.out
    go_wp2_with fail
    clear c0 c1
    refine (l7In_any _ _ _ _ _ _ _ _ (HR.out.below B1.out) HL.out).mono ?_
    rintro e w2 ⟨rfl, hb2⟩
    replace K1 := Lib.hid (K1.out.later hb2)
    have B2 : Hid (Below w.heap.size w w2) := B1.out.trans (hb2.mono B1.out.size)
    clear hb2 B1
    cases hy : inB cs hs y
    · have HE : Hid (aheadV cs hs x y = false) := by
        rw [Hid, ← Bool.not_eq_true]
        intro h
        rw [(aheadV_in h).2] at hy
        cases hy
      clear hy
      go_wp2
      go_ret
      exact ⟨by rw [HE.out]; rfl, B2.out⟩
    · have hX := HX.out
      simp only [inB, decide_eq_true_iff] at hX hy
      obtain ⟨i, rfl⟩ : ∃ i : Nat, x = i := ⟨x.toNat, by omega⟩
      obtain ⟨k, rfl⟩ : ∃ k : Nat, y = k := ⟨y.toNat, by omega⟩
      have hi : i < cs.length := by omega
      have hk : k < cs.length := by omega
      have HY := Lib.hid hy
      have q0 : (0 : Int) ≤ (i : Int) := by omega
      have q1 : (i : Int) < (cs.length : Int) := by omega
      have HE := Lib.hid (aheadV_true hX.1 hk hi)
      have HGG := Lib.hid hX.1
      clear hX hy
      have A2 : Hid (Below w2.heap.size w2 (w2.alloc (.cells #[.int .i64 (k : Int)] 3))) := (Below.refl _ _).alloc (Nat.le_refl _) _
      obtain ⟨z0, c0, c1⟩ := K1.out
      go_wp2_with fail
      clear c0 c1
      refine (l7Marks_any _ _ _ _ _ _ _ cs [(k : Int)] _ (HR.out.cms.below (B2.out.trans (A2.out.mono B2.out.size))) HGG.out.ups HGG.out.c2 HL.out.cms (int_one _ _ _) (by simp) (fun z hz => ⟨k, by simpa using hz, hk⟩)).mono ?_
      rintro e w3 ⟨p, rfl, hrow, _, hb3⟩
      have hd := hrow.cell (i := i) hi
      rw [marks_one] at hd
      have B3 : Hid (Below w.heap.size w w3) := B2.out.trans ((A2.out.trans (hb3.mono (by simp))).mono B2.out.size)
      clear hb3 hrow
      go_wp2
      go_ret
      exact ⟨by rw [HE.out]; rfl, B3.out⟩

set_option maxRecDepth 100000 in
set_option maxHeartbeats 4000000 in
theorem specRepoPast_any (a b : Option Addr) (ca cb : Nat) (cs : List Cm) (hs : List Hd) (x : Int) (w : World) (hr : RepoAt w a b cs hs) (hl : RpLen cs hs 1048576) :
    Calls Tryz.prog 27 #[.agg #[.slice a cs.length ca, .slice b hs.length cb], .int .i64 x] w fun e w' => (∃ v, e = .returned v ∧ GrowI w.heap.size (pastV cs hs x) w' v) ∧ Below w.heap.size w w' := by
  have HR := Lib.hid hr
  have HL := Lib.hid hl
  clear hr hl
  have A1 : Hid (∀ o o', Below w.heap.size w ((w.alloc o).alloc o')) := fun o o' => ((Below.refl _ _).alloc (Nat.le_refl _) _).alloc (by simp) _
  have G0 : Hid (GrowI w.heap.size [] ((w.alloc (.cells #[.slice a cs.length ca, .slice b hs.length cb] 46)).alloc (.cells #[] 3)) (.slice (some ⟨w.heap.size + 1, 0, none⟩) 0 0)) := by
    have := World.ownsRow_made (w.alloc (.cells #[.slice a cs.length ca, .slice b hs.length cb] 46)) #[] 0 (base := w.heap.size) (e := 3) (size := 1) (by simp) (by unfold maxLen; omega) rfl
    rw [World.size_alloc] at this
    exact ⟨this, by simp; omega⟩
  go_enter Tryz.func27, Tryz.ntmps27
  go_wp2_with fail
  refine (l7In_any _ _ _ _ _ _ _ _ (HR.out.below (A1.out _ _)) HL.out).mono ?_
  rintro e w1 ⟨rfl, hb1⟩
  have K1 : Hid (Box2 w1 w.heap.size (.slice a cs.length ca) (.slice b hs.length cb)) := ((Box2.new w _ _ _).later ((Below.refl _ _).alloc (Nat.le_refl _) _)).later hb1
  have B1 : Hid (Below w.heap.size w w1) := (A1.out _ _).trans (hb1.mono (by simp; omega))
  have G1 := Lib.hid (G0.out.below hb1)
  clear hb1 G0
  cases hx : inB cs hs x
  · have HE : Hid (pastV cs hs x = []) := pastV_bad fun h => by simp [inB, h] at hx
    clear hx
    go_wp2
    go_ret
    exact ⟨⟨_, rfl, by rw [HE.out]; exact G1.out⟩, B1.out⟩
  · simp only [inB, decide_eq_true_iff] at hx
    obtain ⟨k, rfl⟩ : ∃ k : Nat, x = k := ⟨x.toNat, by omega⟩
    have hk : k < cs.length := by omega
    have HGG := Lib.hid hx.1
    have HE : Hid (pastV cs hs k = pastL (marksV cs [(k : Int)]) (k + 1)) := by
      have hn := hx.1.c2
      rw [Hid, pastV_ok hx.1 hk]
      rw [pastL_more (n := k + 1) (m := 14) (by omega) fun j hj => ?_]
      · exact pastL_congr fun j _ => (marks_one cs k j).symm
      · rw [← Bool.not_eq_true, aheadB_iff]
        intro h
        have := h.le hx.1.ups hk
        omega
    clear hx
    have A2 : Hid (Below w1.heap.size w1 (w1.alloc (.cells #[.int .i64 (k : Int)] 3))) := (Below.refl _ _).alloc (Nat.le_refl _) _
    obtain ⟨z0, c0, c1⟩ := K1.out
    go_wp2_with fail
    clear c0 c1
    refine (l7Marks_any _ _ _ _ _ _ _ cs [(k : Int)] _ (HR.out.cms.below (B1.out.trans (A2.out.mono B1.out.size))) HGG.out.ups HGG.out.c2 HL.out.cms (int_one _ _ _) (by simp) (fun z hz => ⟨k, by simpa using hz, hk⟩)).mono ?_
    rintro e w2 ⟨p, rfl, hrow, hpp, hb2⟩
    have hb12 : Below w1.heap.size w1 w2 := A2.out.trans (hb2.mono (by simp))
    have B2 : Hid (Below w.heap.size w w2) := B1.out.trans (hb12.mono B1.out.size)
    have G2 := Lib.hid (G1.out.below hb12)
    have HRow := Lib.hid hrow
    have hz1 := B1.out.size
    have hz12 := hb12.size
    have z1 : w.heap.size + 1 < w1.heap.size := by have := G1.out.form; have h := G1.out.own.lt (w.heap.size + 1) rfl; omega
    have hne : ¬ (w.heap.size + 1 = p) := by simp at hpp; omega
    clear hb2 hrow hb12 G1 B1 A2 K1 hpp
    obtain ⟨L, hL⟩ : ∃ L, L = pastL (marksV cs [(k : Int)]) (k + 1) := ⟨_, rfl⟩
    rw [← hL] at HE
    have LL := Lib.hid hL
    have hlen : L.length ≤ 14 := by rw [hL]; have := pastL_len (marksV cs [(k : Int)]) (k + 1); have := HGG.out.c2; omega
    clear hL
    have hcl := HGG.out.c2
    go_wp2
    go_loopw [5, 7] (fun s5 i wr => ∃ (q : Nat) (acc : List Int), q ≤ k + 1 ∧ i = .int .i64 ((q : Int) - 1) ∧ acc ++ pastL (marksV cs [(k : Int)]) q = L ∧ GrowI w.heap.size acc wr s5 ∧ (∀ g, s5.ownBlock = some g → ¬ g = p) ∧ wr.rowIs p 4 cs.length (fun j => .bool (marksV cs [(k : Int)] j)) ∧ Below w.heap.size w wr) (fun _ i _ => (intOf i + 1).toNat)
    case atStart => exact ⟨k + 1, [], Nat.le_refl _, by simp, LL.out.symm, G2.out, fun g hg => by cases hg; exact hne, HRow.out, B2.out⟩
    case round =>
      clear G2 HRow B2 HR
      obtain ⟨q, acc, hq, rfl, hacc, hG, hown, hrow, hbel⟩ := hrel
      have HG := Lib.hid hG
      have HRo := Lib.hid hrow
      have HB := Lib.hid hbel
      have HA := Lib.hid hacc
      have HO := Lib.hid hown
      have hsz := hbel.size
      obtain ⟨av, cv, rfl, hcv, _⟩ := hG.form
      rcases q with _ | i
      · simp only [Int.natCast_zero, Int.zero_sub]
        have h1 : decide ((0 : Int) ≤ -1) = false := by decide
        have e : Hid (acc = L) := by rw [Hid, ← hacc]; simp [pastL]
        clear hacc hG hrow hbel hown
        go_wp2
        go_ret
        exact ⟨⟨_, rfl, by rw [HE.out, ← e.out]; exact HG.out⟩, HB.out⟩
      · have e1 : ((i + 1 : Nat) : Int) - 1 = (i : Int) := by omega
        rw [e1]
        clear e1
        have hd := hrow.cell (i := i) (by omega)
        have q5 : (0 : Int) ≤ (i : Int) := by omega
        have q6 : (i : Int) < (cs.length : Int) := by omega
        have hpl := hrow.lt
        have hla : acc.length ≤ 14 := by have : acc.length ≤ L.length := by rw [← hacc, List.length_append]; omega
                                         omega
        clear hacc hG hrow hbel hown
        cases hM : marksV cs [(k : Int)] i
        · rw [hM] at hd
          have HM := Lib.hid hM
          clear hM
          go_wp2
          go_roundw
          case rel => exact ⟨i, acc, by omega, rfl, by rw [← HA.out]; simp [pastL, HM.out], HG.out, HO.out, HRo.out, HB.out⟩
          case measure => simp [intOf]
        · rw [hM] at hd
          have HM := Lib.hid hM
          clear hM
          have A1 : Hid (Below wr.heap.size wr (wr.alloc (.cells #[.int .i64 (i : Int)] 3))) := (Below.refl _ _).alloc (Nat.le_refl _) _
          go_wp2_with (at_builtin; refine wpList_moreJ (by rfl) _ _ (by rfl) (HG.out.below A1.out) (int_one _ _ _) (by rfl) (by rfl) (by simp; omega) ?_; intro r a2 c2 W2 hr hgrow hG2 hat; have R := Lib.hid hr; have HGR := Lib.hid hgrow; have HG2 := Lib.hid hG2; have HAT := Lib.hid hat.out; clear hr hgrow hG2 hat)
          have hblk := (HG.out.below A1.out).block
          have hrow2 : W2.rowIs p 4 cs.length (fun j => .bool (marksV cs [(k : Int)] j)) := (HRo.out.alloc _).of_block (HGR.out.block _ (by simp; omega) fun e => HO.out _ e.symm rfl)
          go_roundw
          case rel => exact ⟨i, r, by omega, rfl, by rw [R.out, ← HA.out]; simp [pastL, HM.out], HG2.out, fun g hg e => by
            rcases HAT.out g hg with h1 | h1
            · exact HO.out g h1 e
            · simp at h1; omega, hrow2, (HB.out.alloc hsz _).grown HGR.out (by simp; omega) fun j hj => hblk j hj⟩
          case measure => simp [intOf]

theorem pastV_len (cs : List Cm) (hs : List Hd) (x : Int) : (pastV cs hs x).length ≤ 14 := by
  unfold pastV
  split
  · exact pastL_len _ _
  · simp
end Go.Proofs.YtdfadpejddhbkaaGreat
