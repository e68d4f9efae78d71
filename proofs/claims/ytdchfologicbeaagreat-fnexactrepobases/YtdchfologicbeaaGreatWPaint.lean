/- Proved here: the program lays a colour on a version and all that is ahead of it; rooms of at most 14 versions. -/
import Derived.Test.YtdchfologicbeaaGreatWReach
import Derived.Test.YtdchfologicbeaaGreatWGrowI
import Derived.Deep.MidRow
import Derived.Deep.WholeRow
import Derived.IntWalk
namespace Go.Proofs.YtdchfologicbeaaGreat
set_option linter.unusedVariables false
open Go.ChangeShapes Go.WideShapes Go.ChangeAt Go.RowKit

/-- the colours of 14 places, as values -/
def pvals (p : Nat → Int) : List Value := (List.range 14).map fun j => .int .i64 (p j)
theorem pvals_len (p : Nat → Int) : (pvals p).length = 14 := by simp [pvals]
theorem pvals_at (p : Nat → Int) {j : Nat} (h : j < 14) : (pvals p)[j]? = some (.int .i64 (p j)) := by simp [pvals, h]
theorem pvals_row (w : World) (p : Nat → Int) (t : TypeId) : (w.alloc (.cells (pvals p).toArray t)).rowIs w.heap.size t 14 (fun j => .int .i64 (p j)) := by
  have := World.rowIs_alloc w (pvals p).toArray t (fun j => .int .i64 (p j)) (by
    intro i hi
    have hi' : i < 14 := by simpa [pvals_len] using hi
    simpa using pvals_at p hi')
  simpa [pvals_len] using this
theorem pvals_congr {p q : Nat → Int} (h : ∀ j, p j = q j) : pvals p = pvals q := by rw [show p = q from funext h]
theorem info_paints : (Tryz.prog.info? 163).map (fun i => (i.zero, i.size)) = some (some (.agg (pvals fun _ => 0).toArray), 14) := by kernel_rfl
theorem info_paints2 (p : Nat → Int) : (Tryz.prog.info? 163).map (·.size) = some (pvals p).length := by
  have h := info_paints
  rw [pvals_len]
  cases hq : Tryz.prog.info? 163 with
  | none => simp [hq] at h
  | some i => simp [hq] at h ⊢; exact h.2
theorem run_zeroPaints (u : World) : (zeroValue 163).run Tryz.prog u = .ok (.agg (pvals fun _ => 0).toArray) u := by
  have h := info_paints
  cases hq : Tryz.prog.info? 163 with
  | none => simp [hq] at h
  | some i =>
    obtain ⟨h1, h2⟩ : i.zero = some (.agg (pvals fun _ => 0).toArray) ∧ i.size = 14 := by simpa [hq] using h
    simp [zeroValue, typeInfo, Sem.run_bind, hq, h1]
theorem pvals_one (p : Nat → Int) : (pvals p).toArray.all (·.oneCell') = true := all_oneCell_toArray fun v hv => by
  simp only [pvals, List.mem_map] at hv
  obtain ⟨j, _, rfl⟩ := hv
  rfl
theorem pvals_range {w : World} {B : Nat} {t : TypeId} {p : Nat → Int} (h : w.rowIs B t 14 (fun j => .int .i64 (p j))) : w.rangeAt B 0 (pvals p) := by
  intro j v hv
  have hj : j < 14 := by have := (List.getElem?_eq_some_iff.1 hv).1; rwa [pvals_len] at this
  rw [Nat.zero_add, h.cell hj, ← hv, pvals_at p hj]
theorem pvals_there {w : World} {B : Nat} {t : TypeId} {f : Nat → Value} {n : Nat} (hn : n = 14) (h : w.rowIs B t 14 f) : w.there B 0 n := by
  intro j hj
  rw [Nat.zero_add]
  exact ⟨by rw [h.cell (by omega)]; rfl, h.frozen _⟩
theorem below_setCells {B : Nat} {w0 : World} (b : Nat) (hb : B ≤ b) : ∀ (vs : List Value) (o : Nat) (w : World), Below B w0 w → Below B w0 (w.setCells b o vs)
  | [], _, _, h => h
  | v :: r, o, w, h => below_setCells b hb r (o + 1) _ (h.setCell hb v)
theorem results_cell1 {fn : Func} {p : Tmp} {ty : TypeId} (h : fn.results = #[.cell p ty]) (tmps : Array Value) (P : Program) (w : World) :
    (results fn tmps).run P w = ((asAddr (tmps.getD p undef)).run P w).andThen fun a w₁ => (loadVar ty a).run P w₁ := by
  simp only [results, h]
  simp [Sem.run_bind, Result.andThen]

def sliceLen : Value → Nat
  | .slice _ n _ => n
  | _ => 0

open Classical in
/-- how many places of a row have not the colour -/
noncomputable def cntU (b : Nat) (E : Nat → Bool → Int) (w : World) : Nat := ((List.range 14).filter fun j => decide (w.cell? ⟨b, j, none⟩ = some (.int .i64 (E j false)))).length

theorem cntU_eq {b : Nat} {E : Nat → Bool → Int} {w : World} {t : TypeId} {M : Nat → Bool} (hE : ∀ j, E j false ≠ E j true) (h : w.rowIs b t 14 (fun j => .int .i64 (E j (M j)))) : cntU b E w = unm M := by
  unfold cntU unm
  congr 1
  refine List.filter_congr fun j hj => ?_
  have hj' : j < 14 := List.mem_range.1 hj
  rw [h.cell hj']
  cases hM : M j
  · simp
  · simp
    exact fun h => hE j h.symm

/-- the loop's memory -/
structure PW (w : World) (a : Option Addr) (ca n : Nat) (b : Option Addr) (cb m : Nat) (E : Nat → Bool → Int) (M : Nat → Bool) (st : List Int) (wr : World) (v : Value) : Prop where
  k1 : BK wr w.heap.size #[.slice a n ca, .slice b m cb] 62
  row : wr.rowIs (w.heap.size + 1) 163 14 (fun j => .int .i64 (E j (M j)))
  res : wr.rowIs (w.heap.size + 2) 163 14 (fun _ => .int .i64 0)
  stk : GrowI (w.heap.size + 3) st wr v
  bel : Below w.heap.size w wr

theorem PW.grown {w wr W' : World} {a : Option Addr} {ca n : Nat} {b : Option Addr} {cb m : Nat} {E : Nat → Bool → Int} {M : Nat → Bool} {st st' : List Int} {v v' v2 : Value} (h : PW w a ca n b cb m E M st wr v) (hg : wr.grownBy W' v'.ownBlock) (hv : ∀ k, v'.ownBlock = some k → w.heap.size + 3 ≤ k) (hG : GrowI (w.heap.size + 3) st' W' v2) : PW w a ca n b cb m E M st' W' v2 := by
  have hb : ∀ k, k < w.heap.size + 3 → k < wr.heap.size → W'.heap[k]? = wr.heap[k]? := fun k hk hk' => hg.block k hk' fun e => by have := hv k e.symm; omega
  exact ⟨(hb _ (by omega) h.k1.lt).trans h.k1, h.row.of_block (hb _ (by omega) h.row.lt), h.res.of_block (hb _ (by omega) h.res.lt), hG, h.bel.grown hg h.bel.size fun k hk => by have := hv k hk; omega⟩

set_option maxRecDepth 100000 in
set_option maxHeartbeats 8000000 in
theorem paintPast_any (a b : Option Addr) (ca cb m : Nat) (cs : List Cm) (at_ : Nat) (c : Int) (E : Nat → Bool → Int) (S : Nat → Bool) (w : World) (hc : CommitsAt w a cs) (g : UpsOk cs) (hn : cs.length ≤ 14) (hL : CmsLen cs 1048576) (hat : at_ < cs.length)
    (hS : ∀ j, S j = true → ∀ u : Nat, (u : Int) ∈ (mg cs j).1 → S u = true)
    (e0 : ∀ j, bits .and .i64 (E j false) c = 0) (e1 : ∀ j, bits .and .i64 (E j true) c ≠ 0) (e2 : ∀ j, bits .or .i64 (E j false) c = E j true) :
    Calls Tryz.prog 125 #[.agg #[.slice a cs.length ca, .slice b m cb], .int .i64 at_, .int .i64 c, .agg (pvals fun j => E j (S j)).toArray] w fun e w' => e = .returned (.agg (pvals fun j => E j (S j || aheadB cs at_ j)).toArray) ∧ Below w.heap.size w w' := by
  have HC := Lib.hid hc
  have HG := Lib.hid g
  have HL := Lib.hid hL
  have HE : Hid (∀ j, E j false ≠ E j true) := fun j h => e1 j (h ▸ e0 j)
  have E0 := Lib.hid e0
  have E1 := Lib.hid e1
  have E2 := Lib.hid e2
  have HW0 : Hid (Walk cs at_ S S [(at_ : Int)]) := Walk.start hS hat
  clear hc g hL e0 e1 e2 hS
  have hz := run_zeroPaints
  go_enter Tryz.func125, Tryz.ntmps125
  go_wp2
  clear hz
  go_loopw [9, 10, 11] (fun s9 _ _ wr => ∃ (st : List Int) (M : Nat → Bool), Walk cs at_ S M st ∧ PW w a ca cs.length b cb m E M st wr s9) (fun s9 _ _ wr => sliceLen s9 + 3 * cntU (w.heap.size + 1) E wr)
  case atStart =>
    refine ⟨[(at_ : Int)], S, HW0.out, ((BK.new _ _ _).alloc _ |>.alloc _).alloc _, ?_, ?_, ?_, ((((Below.refl _ _).alloc (Nat.le_refl _) _).alloc (by simp) _).alloc (by simp; omega) _).alloc (by simp; omega) _⟩
    · have := pvals_row (w.alloc (.cells #[.slice a cs.length ca, .slice b m cb] 62)) (fun j => E j (S j)) 163
      rw [World.size_alloc] at this
      exact (this.alloc _).alloc _
    · have := pvals_row ((w.alloc (.cells #[.slice a cs.length ca, .slice b m cb] 62)).alloc (.cells (pvals fun j => E j (S j)).toArray 163)) (fun _ => 0) 163
      rw [World.size_alloc, World.size_alloc] at this
      exact this.alloc _
    · have := GrowI.one (((w.alloc (.cells #[.slice a cs.length ca, .slice b m cb] 62)).alloc (.cells (pvals fun j => E j (S j)).toArray 163)).alloc (.cells (pvals fun _ => 0).toArray 163)) (at_ : Int) (w.heap.size + 3) (by simp)
      rw [World.size_alloc, World.size_alloc, World.size_alloc] at this
      exact this
  case round =>
    obtain ⟨st, M, hwk, hpw⟩ := hrel
    have WK := Lib.hid hwk
    have PP := Lib.hid hpw
    have hcnt := Lib.hid (cntU_eq HE.out hpw.row)
    obtain ⟨av, cv, rfl, hcv, hia⟩ := hpw.stk.form
    have hbel := hpw.bel
    have hsz := hbel.size
    rcases List.eq_nil_or_concat st with rfl | ⟨st', x, est⟩
    · obtain ⟨q, hq⟩ : ∃ q : Nat → Int, q = fun j => E j (S j || aheadB cs at_ j) := ⟨_, rfl⟩
      have hr := pvals_range (p := q) (hpw.row.congr fun j _ => by rw [hq, hwk.done j])
      have ht := pvals_there rfl hpw.res
      have hu := Tryz.underlying163
      have HH := Lib.hid hr
      have HT := Lib.hid ht
      have BB := Lib.hid hbel
      have HQ := Lib.hid hq
      clear hr ht hwk hpw hia hbel hq
      go_wp2_with (first | (refine wpList_load_mid (by rfl) 163 _ (by rfl) (w.heap.size + 1) 0 (by rfl) (pvals q) _ HH.out hu (by rfl) (info_paints2 q) ?_) | (refine wpList_store_mid (by rfl) 163 _ _ (by rfl) (w.heap.size + 2) 0 (pvals q).toArray (by rfl) (by rfl) (by simpa [pvals_len] using HT.out) (by simpa using info_paints2 q) (pvals_one q) ?_))
      have hld := run_loadVar_mid (P := Tryz.prog) _ (w.heap.size + 2) 0 163 (pvals q) _ (World.rangeAt_setCells_same wr (w.heap.size + 2) 0 (pvals q) (by simpa [pvals_len] using HT.out)) hu rfl (info_paints2 q)
      refine bodyPost_ret (v := .agg (pvals q).toArray) ?_ rfl ⟨by rw [HQ.out], below_setCells _ (by omega) _ _ _ BB.out⟩
      rw [results_cell1 rfl]
      show ((asAddr (.pointer (some ⟨w.heap.size + 2, 0, none⟩))).run Tryz.prog (wr.setCells (w.heap.size + 2) 0 (pvals q))).andThen _ = _
      simp [asAddr, Result.andThen, hld]
    · rw [List.concat_eq_append] at est
      subst est
      obtain ⟨j, rfl, hj, hA⟩ := hwk.ahd x (by simp)
      have hlen : (st' ++ [(j : Int)]).length = st'.length + 1 := by simp
      obtain ⟨b', off, rfl, hb', hx⟩ := hia st'.length (by omega)
      rw [show ix (st' ++ [(j : Int)]) st'.length = (j : Int) by simp [ix]] at hx
      have hfew := hwk.few
      rw [hlen] at hfew hcv ⊢
      have SS : Hid (GrowI (w.heap.size + 3) st' wr (.slice (some ⟨b', off, none⟩) st'.length cv)) := hpw.stk.take
      have hk0 : (0 : Int) ≤ (j : Int) := by omega
      have hk1 : (j : Int) < 14 := by omega
      have hs0 : (0 : Int) ≤ (st'.length : Int) := by omega
      have hs1 : (st'.length : Int) ≤ (cv : Int) := by omega
      have hd := hpw.row.cell (i := j) (by omega)
      have hf := hpw.row.frozen j
      cases hM : M j
      · rw [hM] at hd
        have hz0 : (bits .and .i64 (E j false) c != 0) = false := by simp [E0.out j]
        have hor := E2.out j
        obtain ⟨bc, oc, ua, uc, sa, sc, e', hx'⟩ := HC.out j hj
        obtain ⟨zb, c0, c1, c2, hii, hff⟩ := hx'.below hbel
        have r0 := hpw.k1.cell 0 rfl
        have ne1 : ¬ (bc = w.heap.size + 1) := by have := hx'.lt; omega
        have ne2 : ¬ (w.heap.size + 1 = bc) := by omega
        have HIU : Hid (IntsAt (wr.setCell ⟨w.heap.size + 1, j, none⟩ (.int .i64 (E j true))) ua (mg cs j).1) := hx'.ints.below (hbel.setCell (by simp) _)
        have SS' : Hid (GrowI (w.heap.size + 3) st' (wr.setCell ⟨w.heap.size + 1, j, none⟩ (.int .i64 (E j true))) (.slice (some ⟨b', off, none⟩) st'.length cv)) := SS.out.set (by simp) _
        clear hwk hpw hia hbel hii hff hx'
        subst e'
        go_wp2_with (at_builtin; refine wpList_moreI (by rfl) _ _ (by rfl) SS'.out HIU.out (by rfl) (by rfl) (by have := (HG.out j hj).2.1; omega) ?_; intro r a2 c2 W2 hr hgrow hG2; have R := Lib.hid hr; have HGR := Lib.hid hgrow; have HG2 := Lib.hid hG2; clear hr hgrow hG2)
        have PW1 : PW w (some ⟨bc, oc, none⟩) ca cs.length b cb m E (markIt M j) st' (wr.setCell ⟨w.heap.size + 1, j, none⟩ (.int .i64 (E j true))) (.slice (some ⟨b', off, none⟩) st'.length cv) :=
          ⟨PP.out.k1.setOther _ _ (by omega), (PP.out.row.set j _).congr fun i hi => (by
              by_cases e : i = j
              · subst e
                rw [if_pos rfl, markIt_at]
              · rw [if_neg e, markIt_ne e]), PP.out.res.setOther (by simp) _, SS'.out, PP.out.bel.setCell (by simp) _⟩
        have PW2 : Hid (PW w (some ⟨bc, oc, none⟩) ca cs.length b cb m E (markIt M j) r W2 (.slice a2 r.length c2)) := PW1.grown HGR.out SS'.out.block HG2.out
        have hm := unm_mark hM (by omega)
        have hc2 := cntU_eq HE.out PW2.out.row
        have hr2 := (HG.out j hj).2.1
        have hrl : r.length = st'.length + (mg cs j).1.length := by rw [R.out, List.length_append]
        clear PW1
        go_wp2
        go_roundw
        case rel => exact ⟨r, markIt M j, by rw [R.out]; exact WK.out.mark HG.out hn hM, PW2.out⟩
        case measure =>
          have := hcnt.out
          simp only [sliceLen]
          omega
      · rw [hM] at hd
        have hz0 : (bits .and .i64 (E j true) c != 0) = true := by simp [E1.out j]
        clear hwk hpw hia hbel
        go_wp2
        go_roundw
        case rel => exact ⟨st', M, WK.out.skip hM, ⟨PP.out.k1, PP.out.row, PP.out.res, SS.out, PP.out.bel⟩⟩
        case measure => simp [sliceLen]
end Go.Proofs.YtdchfologicbeaaGreat
