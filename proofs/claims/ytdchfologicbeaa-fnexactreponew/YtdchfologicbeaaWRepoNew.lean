/- Proved here: a new room of versions, by the program and by the model, and its marks; names of at most 1,048,576 bytes. -/
import Derived.Test.YtdchfologicbeaaWMarkNew
import Derived.Test.YtdchfologicbeaaWWord
namespace Go.Proofs.Ytdchfologicbeaa
set_option linter.unusedVariables false
open Go.ChangeShapes Go.WideShapes Go.ChangeAt Go.RowKit

/-- the word of the first version -/
def beginB : ByteArray := ⟨#[98, 101, 103, 105, 110]⟩

/-- what a new room is -/
def NewR (x : ByteArray) (w : World) (e : Ending) (w' : World) : Prop :=
  (wordOk x = false ∧ e = .returned (.tuple #[.agg #[.slice none 0 0, .slice none 0 0], .bool false]) ∧ Below w.heap.size w w') ∨
  ∃ p q, wordOk x = true ∧ e = .returned (.tuple #[.agg #[.slice (some ⟨p, 0, none⟩) 1 1, .slice (some ⟨q, 0, none⟩) 1 1], .bool true]) ∧
    BK w' p #[.slice none 0 0, .slice none 0 0, .string beginB] 44 ∧ BK w' q #[.string x, .int .i64 0] 46 ∧ w.heap.size ≤ p ∧ p < q ∧ Below w.heap.size w w'

def csN : List Cm := [([], [], beginB)]
def hsN (x : ByteArray) : List Hd := [(x, 0)]

theorem newR_at {w : World} {p q : Nat} {x : ByteArray} (hp : BK w p #[.slice none 0 0, .slice none 0 0, .string beginB] 44) (hq : BK w q #[.string x, .int .i64 0] 46) : RepoAt w (some ⟨p, 0, none⟩) (some ⟨q, 0, none⟩) csN (hsN x) := by
  constructor
  · intro i hi
    obtain rfl : i = 0 := by simp [csN] at hi; omega
    exact ⟨p, 0, none, 0, none, 0, rfl, hp.lt, hp.cell 0 rfl, hp.cell 1 rfl, hp.cell 2 rfl, IntsAt.nil _ _, FeatsAt.nil _ _⟩
  · intro i hi
    obtain rfl : i = 0 := by simp [hsN] at hi; omega
    exact ⟨q, 0, rfl, hq.lt, hq.cell 0 rfl, hq.cell 1 rfl⟩

theorem newR_len (x : ByteArray) (hx : x.size ≤ 1048576) : RpLen csN (hsN x) 1048576 := by
  refine ⟨by simp [csN], by simp [hsN], fun j hj => ?_, fun j hj => ?_⟩
  · obtain rfl : j = 0 := by simp [csN] at hj; omega
    exact ⟨by simp [csN, mg], by simp [csN, mg], fun i hi => absurd hi (by simp [csN, mg]), by simp [csN, mg, beginB, ByteArray.size]⟩
  · obtain rfl : j = 0 := by simp [hsN] at hj; omega
    simp [hsN, hdn]; omega

set_option maxHeartbeats 1000000 in
theorem markCommitS_nil (cap : Nat) (k : Int) (w : World) : Calls Try.prog 26 #[.slice none 0 cap, .int .i64 k] w fun e w' => e = .returned (.int .i64 k) ∧ w' = w := by
  go_enter Try.func26, Try.ntmps26
  go_wp2
  go_loop [1, 5] (fun s1 i => s1 = .int .i64 k ∧ i = .int .i64 0) (fun _ _ => 0)
  case atStart => exact ⟨rfl, rfl⟩
  case round =>
    obtain ⟨rfl, rfl⟩ := hrel
    go_wp2
    go_ret
    exact ⟨rfl, rfl⟩

set_option maxHeartbeats 1000000 in
theorem heldCommitS_nil (cap : Nat) (k : Int) (w : World) : Calls Try.prog 28 #[.slice none 0 cap, .int .i64 k] w fun e w' => e = .returned (.int .i64 k) ∧ w' = w := by
  go_enter Try.func28, Try.ntmps28
  go_wp2
  go_loop [1, 5] (fun s1 i => s1 = .int .i64 k ∧ i = .int .i64 0) (fun _ _ => 0)
  case atStart => exact ⟨rfl, rfl⟩
  case round =>
    obtain ⟨rfl, rfl⟩ := hrel
    go_wp2
    go_ret
    exact ⟨rfl, rfl⟩

set_option maxHeartbeats 1000000 in
theorem markHeadS_nil (cap : Nat) (k : Int) (w : World) : Calls Try.prog 27 #[.slice none 0 cap, .int .i64 k] w fun e w' => e = .returned (.int .i64 k) ∧ w' = w := by
  go_enter Try.func27, Try.ntmps27
  go_wp2
  go_loop [1, 5] (fun s1 i => s1 = .int .i64 k ∧ i = .int .i64 0) (fun _ _ => 0)
  case atStart => exact ⟨rfl, rfl⟩
  case round =>
    obtain ⟨rfl, rfl⟩ := hrel
    go_wp2
    go_ret
    exact ⟨rfl, rfl⟩

set_option maxHeartbeats 1000000 in
theorem heldHeadS_nil (cap : Nat) (k : Int) (w : World) : Calls Try.prog 29 #[.slice none 0 cap, .int .i64 k] w fun e w' => e = .returned (.int .i64 k) ∧ w' = w := by
  go_enter Try.func29, Try.ntmps29
  go_wp2
  go_loop [1, 5] (fun s1 i => s1 = .int .i64 k ∧ i = .int .i64 0) (fun _ _ => 0)
  case atStart => exact ⟨rfl, rfl⟩
  case round =>
    obtain ⟨rfl, rfl⟩ := hrel
    go_wp2
    go_ret
    exact ⟨rfl, rfl⟩

set_option maxRecDepth 100000 in
set_option maxHeartbeats 2000000 in
theorem specRepoNew_any (x : ByteArray) (w : World) (hx : x.size ≤ 1048576) :
    Calls Try.prog 10 #[.string x] w (NewR x w) := by
  go_enter Try.func10, Try.ntmps10
  go_wp2_with fail
  refine (specWordOk_any _ _ hx).mono ?_
  rintro e w1 ⟨rfl, hb⟩
  have hb1 : Below (w.alloc (.cells #[.slice none 0 0, .slice none 0 0] 31)).heap.size (w.alloc (.cells #[.slice none 0 0, .slice none 0 0] 31)) w1 := by rw [hb]; exact Below.refl _ _
  have K1 : Hid (BK w1 w.heap.size #[.slice none 0 0, .slice none 0 0] 31) := (BK.new w _ _).later hb1
  have B1 : Hid (Below w.heap.size w w1) := ((Below.refl _ _).alloc (Nat.le_refl _) _).trans (hb1.mono (by simp))
  have r0 := K1.out.cell 0 rfl
  have r1 := K1.out.cell 1 rfl
  have f0 := K1.out.frozen 0
  have f1 := K1.out.frozen 1
  have z0 := K1.out.lt
  clear hb hb1
  cases hw : wordOk x
  · have HW := Lib.hid hw
    clear hw
    go_wp2
    refine bodyPost_ret (v := .tuple #[.agg #[.slice none 0 0, .slice none 0 0], .bool false]) (by simp [results, Try.results10, go_sem, r0, r1]) rfl ?_
    exact .inl ⟨HW.out, rfl, (B1.out.setCell (by simp) _).setCell (by simp) _⟩
  · have HW := Lib.hid hw
    clear hw
    have ne1 : ¬ (w1.heap.size = w.heap.size) := by omega
    have ne2 : ¬ (w1.heap.size + 1 = w.heap.size) := by omega
    have ne3 : ¬ (w.heap.size = w1.heap.size) := by omega
    have ne4 : ¬ (w.heap.size = w1.heap.size + 1) := by omega
    have z1 : w.heap.size < w1.heap.size + 1 := by omega
    have z2 : w.heap.size < w1.heap.size + 1 + 1 := by omega
    go_wp2
    refine bodyPost_ret (v := .tuple #[.agg #[.slice (some ⟨w1.heap.size, 0, none⟩) 1 1, .slice (some ⟨w1.heap.size + 1, 0, none⟩) 1 1], .bool true]) (by simp [results, Try.results10, go_sem, r0, r1, z0, z1]) rfl ?_
    refine .inr ⟨w1.heap.size, w1.heap.size + 1, HW.out, rfl, ?_, ?_, B1.out.size, by omega, ?_⟩
    · exact (BK.at _ _ _ (by simp [World.setCell])).alloc _
    · exact BK.at _ _ _ (by simp [World.setCell])
    · exact (((B1.out.setCell (by simp) _).setCell (by simp) _).alloc (by simp [World.setCell]; omega) _).alloc (by simp [World.setCell]; omega) _

set_option maxRecDepth 100000 in
set_option maxHeartbeats 2000000 in
theorem implRepoNew_any (x : ByteArray) (w : World) (hx : x.size ≤ 1048576) :
    Calls Try.prog 11 #[.string x] w (NewR x w) := by
  go_enter Try.func11, Try.ntmps11
  go_wp2_with fail
  refine (implWordOk_any _ _ hx).mono ?_
  rintro e w1 ⟨rfl, hb⟩
  have hb1 : Below (w.alloc (.cells #[.slice none 0 0, .slice none 0 0] 31)).heap.size (w.alloc (.cells #[.slice none 0 0, .slice none 0 0] 31)) w1 := hb
  have K1 : Hid (BK w1 w.heap.size #[.slice none 0 0, .slice none 0 0] 31) := (BK.new w _ _).later hb1
  have B1 : Hid (Below w.heap.size w w1) := ((Below.refl _ _).alloc (Nat.le_refl _) _).trans (hb1.mono (by simp))
  have r0 := K1.out.cell 0 rfl
  have r1 := K1.out.cell 1 rfl
  have f0 := K1.out.frozen 0
  have f1 := K1.out.frozen 1
  have z0 := K1.out.lt
  clear hb hb1
  cases hw : wordOk x
  · have HW := Lib.hid hw
    clear hw
    go_wp2
    refine bodyPost_ret (v := .tuple #[.agg #[.slice none 0 0, .slice none 0 0], .bool false]) (by simp [results, Try.results11, go_sem, r0, r1]) rfl ?_
    exact .inl ⟨HW.out, rfl, (B1.out.setCell (by simp) _).setCell (by simp) _⟩
  · have HW := Lib.hid hw
    clear hw
    have ne1 : ¬ (w1.heap.size = w.heap.size) := by omega
    have ne2 : ¬ (w1.heap.size + 1 = w.heap.size) := by omega
    have ne3 : ¬ (w.heap.size = w1.heap.size) := by omega
    have ne4 : ¬ (w.heap.size = w1.heap.size + 1) := by omega
    have z1 : w.heap.size < w1.heap.size + 1 := by omega
    have z2 : w.heap.size < w1.heap.size + 1 + 1 := by omega
    go_wp2
    refine bodyPost_ret (v := .tuple #[.agg #[.slice (some ⟨w1.heap.size, 0, none⟩) 1 1, .slice (some ⟨w1.heap.size + 1, 0, none⟩) 1 1], .bool true]) (by simp [results, Try.results11, go_sem, r0, r1, z0, z1]) rfl ?_
    refine .inr ⟨w1.heap.size, w1.heap.size + 1, HW.out, rfl, ?_, ?_, B1.out.size, by omega, ?_⟩
    · exact (BK.at _ _ _ (by simp [World.setCell])).alloc _
    · exact BK.at _ _ _ (by simp [World.setCell])
    · exact (((B1.out.setCell (by simp) _).setCell (by simp) _).alloc (by simp [World.setCell]; omega) _).alloc (by simp [World.setCell]; omega) _

set_option maxRecDepth 100000 in
set_option maxHeartbeats 2000000 in
theorem markRepo1 (p q : Nat) (n0 x0 : ByteArray) (y0 k : Int) (w : World) (hp : BK w p #[.slice none 0 0, .slice none 0 0, .string n0] 44) (hq : BK w q #[.string x0, .int .i64 y0] 46) (hne : p < q) (h0 : 0 ≤ k) (h1 : k ≤ 100000) :
    Calls Try.prog 12 #[.agg #[.slice (some ⟨p, 0, none⟩) 1 1, .slice (some ⟨q, 0, none⟩) 1 1], .int .i64 k] w fun e w' => e = .returned (.int .i64 (k + 3)) ∧ BK w' p #[.slice none 0 0, .slice none 0 0, .string (markT k)] 44 ∧ BK w' q #[.string (markT (k + 1)), .int .i64 (k + 2)] 46 ∧ ∃ wm, Only1 p w wm ∧ Only1 q wm w' := by
  have HP := Lib.hid (hp.alloc (.cells #[.slice (some ⟨p, 0, none⟩) 1 1, .slice (some ⟨q, 0, none⟩) 1 1] 31))
  have HQ := Lib.hid (hq.alloc (.cells #[.slice (some ⟨p, 0, none⟩) 1 1, .slice (some ⟨q, 0, none⟩) 1 1] 31))
  have zp := hp.lt
  have zq := hq.lt
  clear hp hq
  go_enter Try.func12, Try.ntmps12
  go_wp2_with fail
  refine (markCommit1 p n0 k _ HP.out h0 (by omega)).mono ?_
  rintro e w1 ⟨rfl, hk1, ho1⟩
  have X1 : Hid (Box2 w1 w.heap.size (.slice (some ⟨p, 0, none⟩) 1 1) (.slice (some ⟨q, 0, none⟩) 1 1)) := (Box2.new w _ _ _).only ho1 (by omega)
  have Q1 := Lib.hid (HQ.out.only ho1 (by omega))
  have P1 := Lib.hid hk1
  have O1 : Hid (Only1 p w w1) := (Only1.of ((Below.refl _ _).alloc (Nat.le_refl _) _)).trans ho1
  clear hk1 ho1
  obtain ⟨_, c0, c1⟩ := X1.out
  go_wp2_with fail
  clear c0 c1
  refine (markHead1 q x0 y0 (k + 1) _ Q1.out (by omega) (by omega)).mono ?_
  rintro e w2 ⟨rfl, hk2, ho2⟩
  have P2 := Lib.hid (P1.out.only ho2 (by omega))
  have Q2 := Lib.hid hk2
  have O2 := Lib.hid ho2
  clear hk2 ho2
  go_wp2
  go_ret
  refine ⟨by rw [show k + 3 = k + 1 + 2 by omega]; rfl, P2.out, by rw [show k + 2 = k + 1 + 1 by omega]; exact Q2.out, w1, O1.out, O2.out⟩

set_option maxRecDepth 100000 in
set_option maxHeartbeats 2000000 in
theorem heldRepo1 (p q : Nat) (k : Int) (w : World) (hp : BK w p #[.slice none 0 0, .slice none 0 0, .string (markT k)] 44) (hq : BK w q #[.string (markT (k + 1)), .int .i64 (k + 2)] 46) (h0 : 0 ≤ k) (h1 : k ≤ 100000) :
    Calls Try.prog 13 #[.agg #[.slice (some ⟨p, 0, none⟩) 1 1, .slice (some ⟨q, 0, none⟩) 1 1], .int .i64 k] w fun e w' => e = .returned (.int .i64 (k + 3)) ∧ Below w.heap.size w w' := by
  have A1 : Hid (∀ o, Below w.heap.size w (w.alloc o)) := fun o => (Below.refl _ _).alloc (Nat.le_refl _) _
  have HP := Lib.hid (hp.alloc (.cells #[.slice (some ⟨p, 0, none⟩) 1 1, .slice (some ⟨q, 0, none⟩) 1 1] 31))
  have HQ := Lib.hid (hq.alloc (.cells #[.slice (some ⟨p, 0, none⟩) 1 1, .slice (some ⟨q, 0, none⟩) 1 1] 31))
  clear hp hq
  go_enter Try.func13, Try.ntmps13
  go_wp2_with fail
  refine (heldCommit1 p k _ HP.out h0 (by omega)).mono ?_
  rintro e w1 ⟨rfl, hb1⟩
  have X1 : Hid (Box2 w1 w.heap.size (.slice (some ⟨p, 0, none⟩) 1 1) (.slice (some ⟨q, 0, none⟩) 1 1)) := (Box2.new w _ _ _).later hb1
  have Q1 := Lib.hid (HQ.out.later hb1)
  have B1 : Hid (Below w.heap.size w w1) := (A1.out _).trans (hb1.mono (by simp))
  clear hb1
  obtain ⟨_, c0, c1⟩ := X1.out
  go_wp2_with fail
  clear c0 c1
  refine (heldHead1 q (k + 1) _ (by rw [show k + 1 + 1 = k + 2 by omega]; exact Q1.out) (by omega) (by omega)).mono ?_
  rintro e w2 ⟨rfl, hb2⟩
  have B2 : Hid (Below w.heap.size w w2) := B1.out.trans (hb2.mono B1.out.size)
  clear hb2
  go_wp2
  go_ret
  exact ⟨by rw [show k + 3 = k + 1 + 2 by omega]; rfl, B2.out⟩

set_option maxHeartbeats 2000000 in
theorem markRepo0 (k : Int) (w : World) : Calls Try.prog 12 #[.agg #[.slice none 0 0, .slice none 0 0], .int .i64 k] w fun e w' => e = .returned (.int .i64 k) ∧ Below w.heap.size w w' := by
  go_enter Try.func12, Try.ntmps12
  go_wp2_with fail
  refine (markCommitS_nil _ _ _).mono ?_
  rintro e w1 ⟨rfl, rfl⟩
  go_wp2_with fail
  refine (markHeadS_nil _ _ _).mono ?_
  rintro e w2 ⟨rfl, rfl⟩
  go_wp2
  go_ret
  exact ⟨rfl, (Below.refl _ _).alloc (Nat.le_refl _) _⟩

set_option maxHeartbeats 2000000 in
theorem heldRepo0 (k : Int) (w : World) (h0 : 0 ≤ k) : Calls Try.prog 13 #[.agg #[.slice none 0 0, .slice none 0 0], .int .i64 k] w fun e w' => e = .returned (.int .i64 k) ∧ Below w.heap.size w w' := by
  go_enter Try.func13, Try.ntmps13
  go_wp2_with fail
  refine (heldCommitS_nil _ _ _).mono ?_
  rintro e w1 ⟨rfl, rfl⟩
  go_wp2_with fail
  refine (heldHeadS_nil _ _ _).mono ?_
  rintro e w2 ⟨rfl, rfl⟩
  go_wp2
  go_ret
  exact ⟨rfl, (Below.refl _ _).alloc (Nat.le_refl _) _⟩
end Go.Proofs.Ytdchfologicbeaa
