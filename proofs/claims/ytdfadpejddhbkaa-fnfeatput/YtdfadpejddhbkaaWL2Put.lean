/- Proved here: the model puts a tag among tags as the plain definition 'putS' says, in memory of its own; at most 1,048,576 tags. -/
import Derived.Test.YtdfadpejddhbkaaWCopyF
import Derived.Test.YtdfadpejddhbkaaWFeatGet
namespace Go.Proofs.Ytdfadpejddhbkaa
set_option linter.unusedVariables false
open Go.ChangeShapes Go.WideShapes Go.ChangeAt Go.RowKit Go.Deep

/-- what is still to be put -/
def putR : List Tg → Tg → Bool → List Tg
  | [], t, d => if d then [] else [t]
  | u :: us, t, d => (if !d && decide (kl t ≤ kl u) then [t] else []) ++ ((if kl u = kl t then [] else [u]) ++ putR us t (d || decide (kl t ≤ kl u)))

theorem putR_true (t : Tg) : ∀ us : List Tg, putR us t true = us.filter (fun s => decide (kl s ≠ kl t))
  | [] => rfl
  | u :: us => by
    by_cases h : kl u = kl t <;> simp [putR, putR_true t us, h]

theorem putR_false (t : Tg) : ∀ us : List Tg, putR us t false = putS us t
  | [] => rfl
  | u :: us => by
    unfold putR putS
    by_cases h : kl t ≤ kl u
    · rw [if_pos h]
      by_cases h2 : kl u = kl t <;> simp [h, h2, putR_true]
    · rw [if_neg h]
      have h2 : kl u ≠ kl t := fun e => h (by rw [e]; exact List.le_refl _)
      simp [h, h2, putR_false t us]

/-- the rounds that are left make the list whole -/
def Puts (ts : List Tg) (t : Tg) (j : Nat) (o : List Tg) (d : Bool) : Prop := o ++ putR (ts.drop j) t d = putS ts t

theorem Puts.start (ts : List Tg) (t : Tg) : Puts ts t 0 [] false := by simp [Puts, putR_false]

theorem Puts.step {ts : List Tg} {t : Tg} {j : Nat} {o : List Tg} {d : Bool} (h : Puts ts t j o d) (hj : j < ts.length) :
    Puts ts t (j + 1) (o ++ (if !d && decide (kl t ≤ kb ts j) then [t] else []) ++ (if kb ts j = kl t then [] else [(tk ts j, tv ts j)])) (d || decide (kl t ≤ kb ts j)) := by
  unfold Puts at *
  have h2 : (tk ts j, tv ts j) = ts[j] := by simp [tk, tv, hj]
  rw [List.drop_eq_getElem_cons hj, putR, kb_get hj, ← h2] at h
  rw [← h]
  simp [List.append_assoc]

theorem Puts.done {ts : List Tg} {t : Tg} {o : List Tg} {d : Bool} (h : Puts ts t ts.length o d) : o ++ (if d then [] else [t]) = putS ts t := by
  unfold Puts at h
  rw [List.drop_length] at h
  exact h

theorem HG_cell {wr wa : World} {O : Obj} {x : Option Nat} {b o : Nat} {v : Value} (hg : (wr.alloc O).grownBy wa x) (hlt : b < wr.heap.size) (hc : wr.cell? ⟨b, o, none⟩ = some v) : x ≠ some b → wa.cell? ⟨b, o, none⟩ = some v := fun hne =>
  (hg.cell_far ⟨b, o, none⟩ (by simp; omega) (Ne.symm hne)).trans ((World.cell?_of_block (w := wr) (Below.heap_alloc _ _ _ hlt)).trans hc)

set_option maxRecDepth 100000 in
set_option maxHeartbeats 6400000 in
theorem l2Put_any (a : Option Addr) (cap : Nat) (ts : List Tg) (key val : ByteArray) (w : World) (hp : TagsAt w a ts) (hl : ts.length ≤ 1048576) :
    Calls Try.prog 57 #[.slice a ts.length cap, .string key, .string val] w (TagsAns w (putS ts (key, val))) := by
  have HP := Lib.hid hp
  clear hp
  obtain ⟨i0, hi, hz0, hz1, hz2⟩ := info_parts infoT
  have HI := Lib.hid hi
  have HZ0 := Lib.hid hz0
  have HZ1 := Lib.hid hz1
  have HZ2 := Lib.hid hz2
  clear hi hz0 hz1 hz2
  go_enter Try.func57, Try.ntmps57
  go_wp2
  go_loopw [7, 8, 9] (fun s d i wr => ∃ (j : Nat) (v : Value) (o : List Tg) (q : Bool), j ≤ ts.length ∧ i = .int .i64 j ∧ d = .bool q ∧ v = s ∧ Puts ts (key, val) j o q ∧ o.length ≤ j + q.toNat ∧ wr.ownsRow w.heap.size 52 2 v o.length (flatT o) ∧ Below w.heap.size w wr) (fun _ _ i _ => ts.length - (intOf i).toNat)
  case atStart => exact ⟨0, _, [], false, Nat.zero_le _, rfl, rfl, rfl, Puts.start _ _, by simp, World.ownsRow_made w #[] 0 (Nat.le_refl _) (by unfold maxLen; omega) rfl, (Below.refl _ _).alloc (Nat.le_refl _) _⟩
  case round =>
    obtain ⟨j, v, o, q, hj, rfl, rfl, rfl, hP, hol, hown, hbel⟩ := hrel
    have HW := Lib.hid hown
    have HB := Lib.hid hbel
    have hsz := hbel.size
    have HV : Hid (∀ i, v.ownBlock = some i → w.heap.size ≤ i) := fun i e => (hown.lt i e).1
    have hol' : o.length ≤ j + 1 := by cases q <;> simp at hol <;> omega
    by_cases hlt : j < ts.length
    · obtain ⟨b, off, rfl, hb, hc1, hc2⟩ := HP.out j hlt
      rw [← hbel.cell (p := ⟨b, _, none⟩) hb] at hc1 hc2
      have hst := hP.step hlt
      clear hown hbel hP
      have hblt : b < wr.heap.size := by omega
      have nb : ¬ wr.heap.size = b := by omega
      by_cases he : kb ts j = key.data.toList
      · have e2 := beq_of he
        have e1 : Op.bytesLess (tk ts j).toList key.toList = false := less_not (by show ¬ kb ts j < key.data.toList; rw [he]; exact List.lt_irrefl _)
        have hle : kl (key, val) ≤ kb ts j := by rw [he]; exact List.le_refl _
        cases q
        · replace hol : o.length ≤ j := hol
          have HS : Hid (Puts ts (key, val) (j + 1) (o ++ [(key, val)]) true) := by simpa [Hid, hle, kl, he] using hst
          clear hst he hle
          have tok1 : True := trivial
          go_wp2_with (at_builtin; have _t := tok1; refine wpList_append_lies _ (by rfl) _ _ _ (by rfl) w.heap.size 52 i0 _ 2 32 Try.underlying41 HI.out HZ0.out HZ1.out HZ2.out rfl (by omega) (v) (o.length) (flatT (o)) (by rfl) (HW.out.alloc _) ⟨wr.heap.size, 0, none⟩ 1 1 [.string key, .string val] (by rfl) (by rfl) (World.news_of_block (cs := #[.string key, .string val]) (t := 52) (fr := (0, 0)) (heap_alloc_new wr _)) (by simp [Value.oneCell']) (by omega) (by unfold maxLen; omega) (by omega) (by simp; omega) (wr.heap.size + 1) (by simp) ?_; intro gg cap' wa hown1 hgrow hat hlt'; clear tok1; replace hc1 := HG_cell hgrow hblt hc1 (fun e => by have := HV.out b e; omega); replace hc2 := HG_cell hgrow hblt hc2 (fun e => by have := HV.out b e; omega))
          have HO2 := Lib.hid hown1
          have HG2 := Lib.hid hgrow
          clear hown1 hgrow hat
          go_roundw
          case rel => exact ⟨j + 1, _, o ++ [(key, val)], _, by omega, by go_num, rfl, rfl, HS.out, by simp; omega, by have := HO2.out; rw [← flatT_snoc _ (key, val)] at this; simpa using this, (HB.out.alloc hsz _).grown HG2.out (by simp; omega) (fun j e => HV.out j e)⟩
          case measure => simp [intOf]; omega
        · have HS : Hid (Puts ts (key, val) (j + 1) o true) := by simpa [Hid, kl, he] using hst
          clear hst he hle
          go_wp2
          go_roundw
          case rel => exact ⟨j + 1, _, o, _, by omega, by go_num, rfl, rfl, HS.out, by simp; omega, HW.out, HB.out⟩
          case measure => simp [intOf]; omega
      · have e2 := beq_not he
        by_cases hq : kb ts j < key.data.toList
        · have e1 : Op.bytesLess (tk ts j).toList key.toList = true := less_of hq
          have hle : ¬ kl (key, val) ≤ kb ts j := fun h => h hq
          have HS : Hid (Puts ts (key, val) (j + 1) (o ++ [(tk ts j, tv ts j)]) q) := by
            have he' : ¬ kb ts j = kl (key, val) := he
            simpa [Hid, hle, he'] using hst
          clear hst he hle hq
          have tok1 : True := trivial
          cases q
          · replace hol : o.length ≤ j := hol
            go_wp2_with (at_builtin; have _t := tok1; refine wpList_append_lies _ (by rfl) _ _ _ (by rfl) w.heap.size 52 i0 _ 2 32 Try.underlying41 HI.out HZ0.out HZ1.out HZ2.out rfl (by omega) (v) (o.length) (flatT (o)) (by rfl) (HW.out.alloc _) ⟨wr.heap.size, 0, none⟩ 1 1 [.string (tk ts j), .string (tv ts j)] (by rfl) (by rfl) (World.news_of_block (cs := #[.string (tk ts j), .string (tv ts j)]) (t := 52) (fr := (0, 0)) (heap_alloc_new wr _)) (by simp [Value.oneCell']) (by omega) (by unfold maxLen; omega) (by omega) (by simp; omega) (wr.heap.size + 1) (by simp) ?_; intro gg cap' wa hown1 hgrow hat hlt'; clear tok1)
            have HO2 := Lib.hid hown1
            have HG2 := Lib.hid hgrow
            clear hown1 hgrow hat
            go_roundw
            case rel => exact ⟨j + 1, _, o ++ [(tk ts j, tv ts j)], _, by omega, by go_num, rfl, rfl, HS.out, by simp; omega, by have := HO2.out; rw [← flatT_snoc _ (tk ts j, tv ts j)] at this; simpa using this, (HB.out.alloc hsz _).grown HG2.out (by simp; omega) (fun j e => HV.out j e)⟩
            case measure => simp [intOf]; omega
          · replace hol : o.length ≤ j + 1 := hol
            go_wp2_with (at_builtin; have _t := tok1; refine wpList_append_lies _ (by rfl) _ _ _ (by rfl) w.heap.size 52 i0 _ 2 32 Try.underlying41 HI.out HZ0.out HZ1.out HZ2.out rfl (by omega) (v) (o.length) (flatT (o)) (by rfl) (HW.out.alloc _) ⟨wr.heap.size, 0, none⟩ 1 1 [.string (tk ts j), .string (tv ts j)] (by rfl) (by rfl) (World.news_of_block (cs := #[.string (tk ts j), .string (tv ts j)]) (t := 52) (fr := (0, 0)) (heap_alloc_new wr _)) (by simp [Value.oneCell']) (by omega) (by unfold maxLen; omega) (by omega) (by simp; omega) (wr.heap.size + 1) (by simp) ?_; intro gg cap' wa hown1 hgrow hat hlt'; clear tok1)
            have HO2 := Lib.hid hown1
            have HG2 := Lib.hid hgrow
            clear hown1 hgrow hat
            go_roundw
            case rel => exact ⟨j + 1, _, o ++ [(tk ts j, tv ts j)], _, by omega, by go_num, rfl, rfl, HS.out, by simp; omega, by have := HO2.out; rw [← flatT_snoc _ (tk ts j, tv ts j)] at this; simpa using this, (HB.out.alloc hsz _).grown HG2.out (by simp; omega) (fun j e => HV.out j e)⟩
            case measure => simp [intOf]; omega
        · have e1 : Op.bytesLess (tk ts j).toList key.toList = false := less_not hq
          have hle : kl (key, val) ≤ kb ts j := hq
          have he' : ¬ kb ts j = kl (key, val) := he
          cases q
          · replace hol : o.length ≤ j := hol
            have HS : Hid (Puts ts (key, val) (j + 1) (o ++ [(key, val)] ++ [(tk ts j, tv ts j)]) true) := by simpa [Hid, hle, he'] using hst
            clear hst he hle hq he'
            have tok1 : True := trivial
            go_wp2_with (first | (at_builtin; have _t := tok1; refine wpList_append_lies _ (by rfl) _ _ _ (by rfl) w.heap.size 52 i0 _ 2 32 Try.underlying41 HI.out HZ0.out HZ1.out HZ2.out rfl (by omega) (v) (o.length) (flatT (o)) (by rfl) (HW.out.alloc _) ⟨wr.heap.size, 0, none⟩ 1 1 [.string key, .string val] (by rfl) (by rfl) (World.news_of_block (cs := #[.string key, .string val]) (t := 52) (fr := (0, 0)) (heap_alloc_new wr _)) (by simp [Value.oneCell']) (by omega) (by unfold maxLen; omega) (by omega) (by simp; omega) (wr.heap.size + 1) (by simp) ?_; intro gg cap' wa hown1 hgrow hat hlt'; clear tok1; replace hc1 := HG_cell hgrow hblt hc1 (fun e => by have := HV.out b e; omega); replace hc2 := HG_cell hgrow hblt hc2 (fun e => by have := HV.out b e; omega); have hblt2 : b < wa.heap.size := (by have h := hgrow.size; simp at h; omega); have hszA : w.heap.size ≤ wa.heap.size := (by have h := hgrow.size; simp at h; omega); have HW2 : Hid (wa.ownsRow w.heap.size 52 2 (.slice (some ⟨gg, 0, none⟩) (o.length + 1) cap') (o.length + 1) (flatT (o ++ [(key, val)]))) := (by rw [flatT_snoc]; exact hown1); have BA := Lib.hid ((HB.out.alloc hsz _).grown hgrow (by simp; omega) (fun j e => HV.out j e)); have HVA : Hid (∀ i, (Value.slice (some ⟨gg, 0, none⟩) (o.length + 1) cap').ownBlock = some i → w.heap.size ≤ i) := (fun i e => (hown1.lt i e).1); clear hown1 hgrow hat; have tok2 : True := trivial) | (at_builtin; have _t := tok2; refine wpList_append_lies _ (by rfl) _ _ _ (by rfl) w.heap.size 52 i0 _ 2 32 Try.underlying41 HI.out HZ0.out HZ1.out HZ2.out rfl (by omega) (Value.slice (some ⟨gg, 0, none⟩) (o.length + 1) cap') (o.length + 1) (flatT (o ++ [(key, val)])) (by rfl) (HW2.out.alloc _) ⟨wa.heap.size, 0, none⟩ 1 1 [.string (tk ts j), .string (tv ts j)] (by rfl) (by rfl) (World.news_of_block (cs := #[.string (tk ts j), .string (tv ts j)]) (t := 52) (fr := (0, 0)) (heap_alloc_new wa _)) (by simp [Value.oneCell']) (by omega) (by unfold maxLen; omega) (by omega) (by simp; omega) (wa.heap.size + 1) (by simp) ?_; intro gg2 cap2' wb hown2 hgrow2 hat2 hlt2'; clear tok2))
            have HO2 := Lib.hid hown2
            have HG2 := Lib.hid hgrow2
            clear hown2 hgrow2 hat2
            go_roundw
            case rel => exact ⟨j + 1, _, o ++ [(key, val)] ++ [(tk ts j, tv ts j)], _, by omega, by go_num, rfl, rfl, HS.out, by simp; omega, by have := HO2.out; rw [← flatT_snoc _ (tk ts j, tv ts j)] at this; simpa using this, (BA.out.alloc hszA _).grown HG2.out (by simp; omega) (fun j e => HVA.out j e)⟩
            case measure => simp [intOf]; omega
          · have HS : Hid (Puts ts (key, val) (j + 1) (o ++ [(tk ts j, tv ts j)]) true) := by simpa [Hid, he'] using hst
            clear hst he hle hq he'
            have tok1 : True := trivial
            go_wp2_with (at_builtin; have _t := tok1; refine wpList_append_lies _ (by rfl) _ _ _ (by rfl) w.heap.size 52 i0 _ 2 32 Try.underlying41 HI.out HZ0.out HZ1.out HZ2.out rfl (by omega) (v) (o.length) (flatT (o)) (by rfl) (HW.out.alloc _) ⟨wr.heap.size, 0, none⟩ 1 1 [.string (tk ts j), .string (tv ts j)] (by rfl) (by rfl) (World.news_of_block (cs := #[.string (tk ts j), .string (tv ts j)]) (t := 52) (fr := (0, 0)) (heap_alloc_new wr _)) (by simp [Value.oneCell']) (by omega) (by unfold maxLen; omega) (by omega) (by simp; omega) (wr.heap.size + 1) (by simp) ?_; intro gg cap' wa hown1 hgrow hat hlt'; clear tok1)
            have HO2 := Lib.hid hown1
            have HG2 := Lib.hid hgrow
            clear hown1 hgrow hat
            go_roundw
            case rel => exact ⟨j + 1, _, o ++ [(tk ts j, tv ts j)], _, by omega, by go_num, rfl, rfl, HS.out, by simp; omega, by have := HO2.out; rw [← flatT_snoc _ (tk ts j, tv ts j)] at this; simpa using this, (HB.out.alloc hsz _).grown HG2.out (by simp; omega) (fun j e => HV.out j e)⟩
            case measure => simp [intOf]; omega
    · obtain rfl : j = ts.length := by omega
      have hd := hP.done
      have HD := Lib.hid hd
      clear hown hbel hP hd
      cases q
      · have tok1 : True := trivial
        go_wp2_with (at_builtin; have _t := tok1; refine wpList_append_lies _ (by rfl) _ _ _ (by rfl) w.heap.size 52 i0 _ 2 32 Try.underlying41 HI.out HZ0.out HZ1.out HZ2.out rfl (by omega) (v) (o.length) (flatT (o)) (by rfl) (HW.out.alloc _) ⟨wr.heap.size, 0, none⟩ 1 1 [.string key, .string val] (by rfl) (by rfl) (World.news_of_block (cs := #[.string key, .string val]) (t := 52) (fr := (0, 0)) (heap_alloc_new wr _)) (by simp [Value.oneCell']) (by omega) (by unfold maxLen; omega) (by omega) (by simp; omega) (wr.heap.size + 1) (by simp) ?_; intro gg cap' wa hown1 hgrow hat hlt'; clear tok1)
        have HO2 := Lib.hid hown1
        have HG2 := Lib.hid hgrow
        clear hown1 hgrow hat
        go_wp2
        go_ret
        refine ⟨_, rfl, ?_, (HB.out.alloc hsz _).grown HG2.out (by simp; omega) (fun j e => HV.out j e)⟩
        have := HO2.out
        rw [← flatT_snoc _ (key, val)] at this
        rw [← HD.out]
        simpa using this
      · go_wp2
        go_ret
        refine ⟨_, rfl, ?_, HB.out⟩
        rw [← HD.out]
        simpa using HW.out
end Go.Proofs.Ytdfadpejddhbkaa
