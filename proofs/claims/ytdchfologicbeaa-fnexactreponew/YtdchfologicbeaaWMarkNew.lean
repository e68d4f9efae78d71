/- Proved here: the marks of a room of one version with nothing in it and one branch; marks of at most 10 ^ 15. -/
import Derived.Test.YtdchfologicbeaaWMarkText
import Derived.Test.YtdchfologicbeaaWRepo
import Derived.Test.YtdchfologicbeaaWBK
import Derived.Deep.RegionHeld3
import Derived.Deep.DeepCutAuto
namespace Go.Proofs.Ytdchfologicbeaa
set_option linter.unusedVariables false
open Go.ChangeShapes Go.WideShapes Go.ChangeAt Go.RowKit

/-- of what was there only that block may have turned -/
structure Only1 (b : Nat) (w w' : World) : Prop where
  os : w'.os = w.os
  tape : w'.tape = w.tape
  output : w'.output = w.output
  size : w.heap.size ≤ w'.heap.size
  block : ∀ k, k ≠ b → k < w.heap.size → w'.heap[k]? = w.heap[k]?

theorem Only1.of {b : Nat} {w w' : World} (h : Below w.heap.size w w') : Only1 b w w' := ⟨h.os, h.tape, h.output, h.size, fun k _ hk => h.block k hk⟩
theorem Only1.trans {b : Nat} {u v w : World} (h : Only1 b u v) (k : Only1 b v w) : Only1 b u w :=
  ⟨k.os.trans h.os, k.tape.trans h.tape, k.output.trans h.output, Nat.le_trans h.size k.size, fun i hi hl => (k.block i hi (Nat.lt_of_lt_of_le hl h.size)).trans (h.block i hi hl)⟩
theorem Only1.set (b o : Nat) (w : World) (v : Value) : Only1 b w (w.setCell ⟨b, o, none⟩ v) :=
  ⟨rfl, rfl, rfl, by simp [World.setCell], fun k hk _ => Below.heap_setCell _ _ _ _ hk⟩
theorem Only1.below {B b : Nat} {w0 w w' : World} (h : Only1 b w w') (hb : Below B w0 w) (hB : B ≤ b) (hs : B ≤ w.heap.size) : Below B w0 w' :=
  ⟨h.os.trans hb.os, h.tape.trans hb.tape, h.output.trans hb.output, Nat.le_trans hb.size h.size, fun k hk => (h.block k (by omega) (by omega)).trans (hb.block k hk)⟩
theorem BK.only {w w' : World} {b c : Nat} {cs : Array Value} {t : TypeId} (h : BK w c cs t) (ho : Only1 b w w') (hne : c ≠ b) : BK w' c cs t := (ho.block c hne h.lt).trans h
theorem Box2.only {w w' : World} {b c : Nat} {v0 v1 : Value} (h : Box2 w c v0 v1) (ho : Only1 b w w') (hne : c ≠ b) : Box2 w' c v0 v1 := by
  have he := ho.block c hne h.lt
  exact ⟨Nat.lt_of_lt_of_le h.lt ho.size, by rw [World.cell?_of_block (w := w) he]; exact h.c0, by rw [World.cell?_of_block (w := w) he]; exact h.c1⟩

set_option maxHeartbeats 1000000 in
theorem markIntS_nil (cap : Nat) (k : Int) (w : World) : Calls Try.prog 40 #[.slice none 0 cap, .int .i64 k] w fun e w' => e = .returned (.int .i64 k) ∧ w' = w := by
  go_enter Try.func40, Try.ntmps40
  go_wp2
  go_loop [1, 5] (fun s1 i => s1 = .int .i64 k ∧ i = .int .i64 0) (fun _ _ => 0)
  case atStart => exact ⟨rfl, rfl⟩
  case round =>
    obtain ⟨rfl, rfl⟩ := hrel
    go_wp2
    go_ret
    exact ⟨rfl, rfl⟩

set_option maxHeartbeats 1000000 in
theorem heldIntS_nil (cap : Nat) (k : Int) (w : World) : Calls Try.prog 43 #[.slice none 0 cap, .int .i64 k] w fun e w' => e = .returned (.int .i64 k) ∧ w' = w := by
  go_enter Try.func43, Try.ntmps43
  go_wp2
  go_loop [1, 5] (fun s1 i => s1 = .int .i64 k ∧ i = .int .i64 0) (fun _ _ => 0)
  case atStart => exact ⟨rfl, rfl⟩
  case round =>
    obtain ⟨rfl, rfl⟩ := hrel
    go_wp2
    go_ret
    exact ⟨rfl, rfl⟩

set_option maxHeartbeats 1000000 in
theorem markFeatS_nil (cap : Nat) (k : Int) (w : World) : Calls Try.prog 41 #[.slice none 0 cap, .int .i64 k] w fun e w' => e = .returned (.int .i64 k) ∧ w' = w := by
  go_enter Try.func41, Try.ntmps41
  go_wp2
  go_loop [1, 5] (fun s1 i => s1 = .int .i64 k ∧ i = .int .i64 0) (fun _ _ => 0)
  case atStart => exact ⟨rfl, rfl⟩
  case round =>
    obtain ⟨rfl, rfl⟩ := hrel
    go_wp2
    go_ret
    exact ⟨rfl, rfl⟩

set_option maxHeartbeats 1000000 in
theorem heldFeatS_nil (cap : Nat) (k : Int) (w : World) : Calls Try.prog 44 #[.slice none 0 cap, .int .i64 k] w fun e w' => e = .returned (.int .i64 k) ∧ w' = w := by
  go_enter Try.func44, Try.ntmps44
  go_wp2
  go_loop [1, 5] (fun s1 i => s1 = .int .i64 k ∧ i = .int .i64 0) (fun _ _ => 0)
  case atStart => exact ⟨rfl, rfl⟩
  case round =>
    obtain ⟨rfl, rfl⟩ := hrel
    go_wp2
    go_ret
    exact ⟨rfl, rfl⟩

set_option maxRecDepth 100000 in
set_option maxHeartbeats 2000000 in
theorem markCommit1 (b : Nat) (n0 : ByteArray) (k : Int) (w : World) (hb : BK w b #[.slice none 0 0, .slice none 0 0, .string n0] 44) (h0 : 0 ≤ k) (h1 : k ≤ 1000000) :
    Calls Try.prog 26 #[.slice (some ⟨b, 0, none⟩) 1 1, .int .i64 k] w fun e w' => e = .returned (.int .i64 (k + 1)) ∧ BK w' b #[.slice none 0 0, .slice none 0 0, .string (markT k)] 44 ∧ Only1 b w w' := by
  have HB := Lib.hid hb
  clear hb
  go_enter Try.func26, Try.ntmps26
  go_wp2
  go_loopw [1, 5] (fun s1 i wr => (s1 = .int .i64 k ∧ i = .int .i64 0 ∧ wr = w) ∨ (s1 = .int .i64 (k + 1) ∧ i = .int .i64 1 ∧ BK wr b #[.slice none 0 0, .slice none 0 0, .string (markT k)] 44 ∧ Only1 b w wr)) (fun _ i _ => (1 - intOf i).toNat)
  case atStart => exact .inl ⟨rfl, rfl, rfl⟩
  case round =>
    rcases hrel with ⟨rfl, rfl, rfl⟩ | ⟨rfl, rfl, hk, ho⟩
    · have c0 := HB.out.cell 0 rfl
      have c1 := HB.out.cell 1 rfl
      go_wp2_with fail
      refine (markIntS_nil _ _ _).mono ?_
      rintro e w1 ⟨rfl, rfl⟩
      go_wp2_with fail
      refine (markFeatS_nil _ _ _).mono ?_
      rintro e w1 ⟨rfl, rfl⟩
      clear c0 c1
      go_wp2_with fail
      refine (markText_any _ _ (by omega)).mono ?_
      rintro e w1 ⟨rfl, hb1⟩
      have K1 := Lib.hid (HB.out.later hb1)
      have O1 : Hid (Only1 b w1 (w1.setCell ⟨b, 2, none⟩ (.string (markT k)))) := Only1.set _ _ _ _
      have O2 : Hid (Only1 b _ w1) := Only1.of hb1
      have c2 := K1.out.cell 2 rfl
      have f2 := K1.out.frozen 2
      clear hb1
      go_wp2
      go_roundw
      case rel => exact .inr ⟨by go_num, rfl, K1.out.set 2 _, O2.out.trans O1.out⟩
      case measure => simp [intOf]
    · have K := Lib.hid hk
      have O := Lib.hid ho
      clear hk ho
      go_wp2
      go_ret
      exact ⟨rfl, K.out, O.out⟩

set_option maxRecDepth 100000 in
set_option maxHeartbeats 2000000 in
theorem markHead1 (b : Nat) (x0 : ByteArray) (y0 k : Int) (w : World) (hb : BK w b #[.string x0, .int .i64 y0] 46) (h0 : 0 ≤ k) (h1 : k ≤ 1000000) :
    Calls Try.prog 27 #[.slice (some ⟨b, 0, none⟩) 1 1, .int .i64 k] w fun e w' => e = .returned (.int .i64 (k + 2)) ∧ BK w' b #[.string (markT k), .int .i64 (k + 1)] 46 ∧ Only1 b w w' := by
  have HB := Lib.hid hb
  clear hb
  go_enter Try.func27, Try.ntmps27
  go_wp2
  go_loopw [1, 5] (fun s1 i wr => (s1 = .int .i64 k ∧ i = .int .i64 0 ∧ wr = w) ∨ (s1 = .int .i64 (k + 2) ∧ i = .int .i64 1 ∧ BK wr b #[.string (markT k), .int .i64 (k + 1)] 46 ∧ Only1 b w wr)) (fun _ i _ => (1 - intOf i).toNat)
  case atStart => exact .inl ⟨rfl, rfl, rfl⟩
  case round =>
    rcases hrel with ⟨rfl, rfl, rfl⟩ | ⟨rfl, rfl, hk, ho⟩
    · go_wp2_with fail
      refine (markText_any _ _ (by omega)).mono ?_
      rintro e w1 ⟨rfl, hb1⟩
      have K1 := Lib.hid (HB.out.later hb1)
      have O1 : Hid (Only1 b w1 ((w1.setCell ⟨b, 0, none⟩ (.string (markT k))).setCell ⟨b, 1, none⟩ (.int .i64 (k + 1)))) := (Only1.set _ _ _ _).trans (Only1.set _ _ _ _)
      have O2 : Hid (Only1 b _ w1) := Only1.of hb1
      have c0 := K1.out.cell 0 rfl
      have f0 := K1.out.frozen 0
      have c1 := K1.out.cell 1 rfl
      have f1 := K1.out.frozen 1
      clear hb1
      go_wp2
      go_roundw
      case rel => exact .inr ⟨by go_num, rfl, (K1.out.set 0 _).set 1 _, O2.out.trans O1.out⟩
      case measure => simp [intOf]
    · have K := Lib.hid hk
      have O := Lib.hid ho
      clear hk ho
      go_wp2
      go_ret
      exact ⟨rfl, K.out, O.out⟩

set_option maxRecDepth 100000 in
set_option maxHeartbeats 2000000 in
theorem heldCommit1 (b : Nat) (k : Int) (w : World) (hb : BK w b #[.slice none 0 0, .slice none 0 0, .string (markT k)] 44) (h0 : 0 ≤ k) (h1 : k ≤ 1000000) :
    Calls Try.prog 28 #[.slice (some ⟨b, 0, none⟩) 1 1, .int .i64 k] w fun e w' => e = .returned (.int .i64 (k + 1)) ∧ Below w.heap.size w w' := by
  have HB := Lib.hid hb
  clear hb
  go_enter Try.func28, Try.ntmps28
  go_wp2
  go_loopw [1, 5] (fun s1 i wr => (s1 = .int .i64 k ∧ i = .int .i64 0 ∧ wr = w) ∨ (s1 = .int .i64 (k + 1) ∧ i = .int .i64 1 ∧ Below w.heap.size w wr)) (fun _ i _ => (1 - intOf i).toNat)
  case atStart => exact .inl ⟨rfl, rfl, rfl⟩
  case round =>
    rcases hrel with ⟨rfl, rfl, rfl⟩ | ⟨rfl, rfl, ho⟩
    · have c0 := HB.out.cell 0 rfl
      have c1 := HB.out.cell 1 rfl
      have c2 := HB.out.cell 2 rfl
      have eb := bytes_beq (markT k) (markT k)
      rw [decide_eq_true rfl] at eb
      go_wp2_with fail
      refine (heldIntS_nil _ _ _).mono ?_
      rintro e w1 ⟨rfl, rfl⟩
      go_wp2_with fail
      refine (heldFeatS_nil _ _ _).mono ?_
      rintro e w1 ⟨rfl, rfl⟩
      clear c0 c1
      go_wp2
      go_cut [37] (fun s wx => s = .bool false ∧ Below w1.heap.size w1 wx)
      case first =>
        go_region_held3 (fun w' => w'.cell? ⟨b, 2, none⟩ = some (.string (markT k)) ∧ Below w1.heap.size w1 w')
          (first
            | (go_split_ands
               rename_i hS0 hS1
               with_reducible exact ⟨cell_later hbn hS0, hS1.trans (hbn.mono hS1.size)⟩)
            | exact ⟨c2, (Below.refl _ _).drew⟩)
          (first
            | (go_at_call 42
               refine (markText_any _ _ (by omega)).mono ?_
               rintro e wn ⟨rfl, hbn⟩))
        all_goals (go_wp2_with fail; go_meet; go_split_ands; exact ⟨by simp, by assumption⟩)
      case rest =>
        obtain ⟨rfl, hB⟩ := hcut
        have B := Lib.hid hB
        clear hB c2
        go_wp2
        go_roundw
        case rel => exact .inr ⟨by go_num, rfl, B.out⟩
        case measure => simp [intOf]
    · have O := Lib.hid ho
      clear ho
      go_wp2
      go_ret
      exact ⟨rfl, O.out⟩

set_option maxRecDepth 100000 in
set_option maxHeartbeats 2000000 in
theorem heldHead1 (b : Nat) (k : Int) (w : World) (hb : BK w b #[.string (markT k), .int .i64 (k + 1)] 46) (h0 : 0 ≤ k) (h1 : k ≤ 1000000) :
    Calls Try.prog 29 #[.slice (some ⟨b, 0, none⟩) 1 1, .int .i64 k] w fun e w' => e = .returned (.int .i64 (k + 2)) ∧ Below w.heap.size w w' := by
  have HB := Lib.hid hb
  clear hb
  go_enter Try.func29, Try.ntmps29
  go_wp2
  go_loopw [1, 5] (fun s1 i wr => (s1 = .int .i64 k ∧ i = .int .i64 0 ∧ wr = w) ∨ (s1 = .int .i64 (k + 2) ∧ i = .int .i64 1 ∧ Below w.heap.size w wr)) (fun _ i _ => (1 - intOf i).toNat)
  case atStart => exact .inl ⟨rfl, rfl, rfl⟩
  case round =>
    rcases hrel with ⟨rfl, rfl, rfl⟩ | ⟨rfl, rfl, ho⟩
    · have c0 := HB.out.cell 0 rfl
      have c1 := HB.out.cell 1 rfl
      have eb := bytes_beq (markT k) (markT k)
      rw [decide_eq_true rfl] at eb
      go_wp2
      go_cut [19] (fun s wx => s = .bool false ∧ Below wr.heap.size wr wx)
      case first =>
        go_region_held3 (fun w' => w'.cell? ⟨b, 0, none⟩ = some (.string (markT k)) ∧ Below wr.heap.size wr w')
          (first
            | (go_split_ands
               rename_i hS0 hS1
               with_reducible exact ⟨cell_later hbn hS0, hS1.trans (hbn.mono hS1.size)⟩)
            | exact ⟨c0, (Below.refl _ _).drew⟩)
          (first
            | (go_at_call 42
               refine (markText_any _ _ (by omega)).mono ?_
               rintro e wn ⟨rfl, hbn⟩))
        all_goals (go_wp2_with fail; go_meet; go_split_ands; exact ⟨by simp, by assumption⟩)
      case rest =>
        obtain ⟨rfl, hB⟩ := hcut
        have B := Lib.hid hB
        replace c1 := cell_later hB c1
        clear hB c0
        have e1 : ((k + 1 : Int) != k + 1) = false := by simp
        go_wp2
        go_roundw
        case rel => exact .inr ⟨by go_num, rfl, B.out⟩
        case measure => simp [intOf]
    · have O := Lib.hid ho
      clear ho
      go_wp2
      go_ret
      exact ⟨rfl, O.out⟩
end Go.Proofs.Ytdchfologicbeaa
