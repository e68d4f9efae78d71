/- Proved here: the program's FeatPut answers the thing with the value at the key, in memory of its own, or nothing and false; rows of at most 1,048,576 points and tags, texts of at most 1,048,576 bytes. -/
import Derived.Test.YtdfadpejddhbkaaWFeatPutS
namespace Go.Proofs.Ytdfadpejddhbkaa
set_option linter.unusedVariables false
open Go.ChangeShapes Go.WideShapes Go.ChangeAt Go.RowKit Go.Deep Go.Maps

set_option maxRecDepth 100000 in
set_option maxHeartbeats 4000000 in
theorem implFeatPut_any (id : ByteArray) (k : Int) (a : Option Addr) (cap : Nat) (ps : List (Int × Int)) (c : Option Addr) (ca : Nat) (ts : List Tg) (key val : ByteArray) (w : World) (hp : PtsAt w a ps) (ht : TagsAt w c ts) (hi : id.size ≤ 1048576) (hl : ps.length ≤ 1048576) (hm : ts.length ≤ 1048576) (hx : TagsLen ts 1048576) (hk : key.size ≤ 1048576) (hv : val.size ≤ 1048576) :
    Calls Try.prog 32 #[.agg #[.string id, .int .i64 k, .slice a ps.length cap, .slice c ts.length ca], .string key, .string val] w
      (PutAns w (if fpB id k ps ts key val then id else ⟨#[]⟩) (if fpB id k ps ts key val then k else 0) (if fpB id k ps ts key val then ps else []) (if fpB id k ps ts key val then putS ts (key, val) else []) (fpB id k ps ts key val)) := by
  have HP := Lib.hid hp
  have HT := Lib.hid ht
  have HX := Lib.hid hx
  clear hp ht hx
  have A0 : Hid (∀ o o', Below w.heap.size w ((w.alloc o).alloc o')) := fun o o' => ((Below.refl _ _).alloc (Nat.le_refl _) _).alloc (by simp) _
  obtain ⟨R, hR⟩ : ∃ R : Ending → World → Prop, R = PutAns w (if fpB id k ps ts key val then id else ⟨#[]⟩) (if fpB id k ps ts key val then k else 0) (if fpB id k ps ts key val then ps else []) (if fpB id k ps ts key val then putS ts (key, val) else []) (fpB id k ps ts key val) := ⟨_, rfl⟩
  rw [← hR]
  have RYES : Hid (fpB id k ps ts key val = true → R = PutAns w id k ps (putS ts (key, val)) true) := fun h => by rw [hR]; simp [h]
  have RNO : Hid (fpB id k ps ts key val = false → R = PutAns w ⟨#[]⟩ 0 [] [] false) := fun h => by rw [hR]; simp [h]
  clear hR
  go_enter Try.func32, Try.ntmps32
  go_wp2_with fail
  refine (implFeatOk_any _ _ _ _ _ _ _ _ _ (HP.out.below (A0.out _ _)) (HT.out.below (A0.out _ _)) hi hl hm HX.out).mono ?_
  rintro e w1 ⟨rfl, hb1⟩
  have R1 : Hid (BoxS w1 (w.heap.size + 1) (.string ⟨#[]⟩) (.int .i64 0) (.slice none 0 0) (.slice none 0 0)) := by
    have := (BoxS.new (w.alloc (.cells #[.string id, .int .i64 k, .slice a ps.length cap, .slice c ts.length ca] 43)) (.string ⟨#[]⟩) (.int .i64 0) (.slice none 0 0) (.slice none 0 0) 43).later hb1
    simpa [Hid] using this
  have C1 : Hid (Box4 w1 w.heap.size (.string id) (.int .i64 k) (.slice a ps.length cap) (.slice c ts.length ca)) := ((Box4.new w _ _ _ _ _).alloc _).later hb1
  have B1 : Hid (Below w.heap.size w w1) := (A0.out _ _).trans (hb1.mono (by simp; omega))
  clear hb1
  by_cases hok : featOk id k ps ts = true
  · obtain ⟨-, -, f4, f6, f0⟩ := featOk_parts hok
    obtain ⟨b, off, rfl⟩ := addr_of HP.out f0
    have TL := Lib.hid ((tells_ok hok).put (mapOf_isMap ts) (key, val))
    rw [hok]
    obtain ⟨c0, c1, c2, c3⟩ := C1.out
    go_wp2_with fail
    clear c0 c1 c2 c3
    refine (tagsByKey_any _ _ _ _ (HT.out.below B1.out) hm (HX.out.mono (by omega))).mono ?_
    rintro e w2 ⟨rfl, hown, hb2⟩
    have R2 := Lib.hid (R1.out.later hb2)
    have C2 := Lib.hid (C1.out.later hb2)
    have B2 : Hid (Below w.heap.size w w2) := B1.out.trans (hb2.mono B1.out.size)
    have hz1 : w.heap.size + 1 < w1.heap.size := R1.out.1.lt
    have hz2 := hb2.size
    have hkey : keyOf Try.prog 9 (.string key) = some (keyL key) := Go.WideMaps.keyOf_string_mk Try.underlying9 (by unfold maxLen; omega)
    clear hb2 R1 C1
    go_wp2_with (at_mapUpdate; refine wpList_mapUpdate_own _ rfl _ _ _ 73 rfl 9 52 keyT Try.underlying73 _ w1.heap.size ts.length (mapOf ts) rfl hown (by unfold maxLen; omega) _ _ _ rfl rfl hkey (.held (.agg #[.string key, .string val])) [] rfl ?_; intro w3 hown3 G3; have R3 := Lib.hid (R2.out.grown G3 (by simp; omega)); have C3 := Lib.hid (C2.out.grown G3 (by simp; omega)); obtain ⟨c0, c1, c2, c3⟩ := C3.out; have B3 := Lib.hid (B2.out.grown G3 B2.out.size (fun j e => by obtain rfl : w1.heap.size = j := (by simpa using e); omega)); have O3 := Lib.hid hown3; clear hown3 G3)
    clear c0 c1 c2 c3
    have hpl := putS_len (key, val) ts
    have PT := Lib.hid (putS_tk (key := key) (val := val) HX.out (by omega) (by omega))
    refine (withTags_any id k b off cap ps c ts.length ca w1.heap.size (ts.length + 1) _ (putS ts (key, val)) _ (HP.out.below B3.out) hl f0 O3.out TL.out (by omega) (fun i hi => by have := (PT.out i hi).1; unfold maxLen; omega)).mono ?_
    rintro e w4 ⟨v, rfl, hA⟩
    have zr : w.heap.size + 1 < w3.heap.size := R3.out.1.lt
    have hA' := hA
    obtain ⟨a5, cap5, c5, ca5, rfl, q1, q2, q3, q4, q5, q6, q7, hb4⟩ := hA'
    have FA := Lib.hid hA
    have R4 := Lib.hid (R3.out.later hb4)
    have P4 := Lib.hid q1
    have T4 := Lib.hid q4
    have B4 : Hid (Below w.heap.size w w4) := B3.out.trans (hb4.mono B3.out.size)
    have z4 : w.heap.size + 1 < w4.heap.size := R4.out.1.lt
    have A4 : Hid (∀ o, Below w4.heap.size w4 (w4.alloc o)) := fun o => (Below.refl _ _).alloc (Nat.le_refl _) _
    clear hA q1 q2 q3 q4 q5 q6 q7 hb4
    go_wp2_with fail
    refine (implFeatOk_any _ _ _ _ _ _ _ _ _ (P4.out.below (A4.out _)) (T4.out.below (A4.out _)) hi hl (by omega) PT.out).mono ?_
    rintro e w5 ⟨rfl, hb5⟩
    have hb45 : Below w4.heap.size w4 w5 := (A4.out _).trans (hb5.mono (by simp))
    have O5 := (Box4.new w4 (.string id) (.int .i64 k) (.slice a5 ps.length cap5) (.slice c5 (putS ts (key, val)).length ca5) 43).later hb5
    have R5 := R4.out.later hb45
    have FA5 := Lib.hid (FA.out.later hb45)
    have B5 : Hid (Below w.heap.size w w5) := B4.out.trans (hb45.mono B4.out.size)
    obtain ⟨⟨r0, r1, r2, r3⟩, rf⟩ := R5
    obtain ⟨c0, c1, c2, c3⟩ := O5
    have g0 := rf 0
    have g1 := rf 1
    have g2 := rf 2
    have g3 := rf 3
    clear rf hb5 hb45 R4
    by_cases hok2 : featOk id k ps (putS ts (key, val)) = true
    · rw [hok2]
      have HR := Lib.hid (RYES.out (by simp [fpB, hok, hok2]))
      clear RYES RNO hok hok2
      go_wp2
      refine bodyPost_ret (v := .tuple #[.agg #[.string id, .int .i64 k, .slice a5 ps.length cap5, .slice c5 (putS ts (key, val)).length ca5], .bool true]) (by simp [results, Try.results32, go_sem, r0, r1, r2, r3]) rfl ?_
      rw [HR.out]
      exact ⟨_, rfl, FA5.out.stored B3.out zr (by omega)⟩
    · have hok2' : featOk id k ps (putS ts (key, val)) = false := by simpa using hok2
      rw [hok2']
      have HR := Lib.hid (RNO.out (by simp [fpB, hok2']))
      clear RYES RNO hok hok2 hok2' c0 c1 c2 c3
      go_wp2
      refine bodyPost_ret (v := .tuple #[.agg #[.string ⟨#[]⟩, .int .i64 0, .slice none 0 0, .slice none 0 0], .bool false]) (by simp [results, Try.results32, go_sem, r0, r1, r2, r3]) rfl ?_
      rw [HR.out]
      exact ⟨_, rfl, nothing_feat B5.out (by omega)⟩
  · have hok' : featOk id k ps ts = false := by simpa using hok
    rw [hok']
    have HR := Lib.hid (RNO.out (by simp [fpB, hok']))
    obtain ⟨⟨r0, r1, r2, r3⟩, rf⟩ := R1.out
    have g0 := rf 0
    have g1 := rf 1
    have g2 := rf 2
    have g3 := rf 3
    clear rf RYES RNO hok hok'
    go_wp2
    refine bodyPost_ret (v := .tuple #[.agg #[.string ⟨#[]⟩, .int .i64 0, .slice none 0 0, .slice none 0 0], .bool false]) (by simp [results, Try.results32, go_sem, r0, r1, r2, r3]) rfl ?_
    rw [HR.out]
    exact ⟨_, rfl, nothing_feat B1.out (by omega)⟩

/-- what comes of a thing that a value is put into -/
def fpI (id : ByteArray) (k : Int) (ps : List (Int × Int)) (ts : List Tg) (key val : ByteArray) : ByteArray := if fpB id k ps ts key val then id else ⟨#[]⟩
def fpK (id : ByteArray) (k : Int) (ps : List (Int × Int)) (ts : List Tg) (key val : ByteArray) : Int := if fpB id k ps ts key val then k else 0
def fpP (id : ByteArray) (k : Int) (ps : List (Int × Int)) (ts : List Tg) (key val : ByteArray) : List (Int × Int) := if fpB id k ps ts key val then ps else []
def fpT (id : ByteArray) (k : Int) (ps : List (Int × Int)) (ts : List Tg) (key val : ByteArray) : List Tg := if fpB id k ps ts key val then putS ts (key, val) else []

theorem WFeatPutI_bounds (id : ByteArray) (k : Int) (ps : List (Int × Int)) (ts : List Tg) (key val : ByteArray) (h1 : ps.length ≤ 1048576) (h2 : ts.length ≤ 1048576) : (fpP id k ps ts key val).length ≤ 1048576 ∧ (fpT id k ps ts key val).length ≤ 1048576 := by
  unfold fpP fpT
  split
  · rename_i h
    refine ⟨h1, ?_⟩
    simp [fpB] at h
    have := (featOk_parts h.2).2.2.1
    omega
  · exact ⟨Nat.zero_le _, Nat.zero_le _⟩

theorem specFeatPut_all (id : ByteArray) (k : Int) (a : Option Addr) (cap : Nat) (ps : List (Int × Int)) (c : Option Addr) (ca : Nat) (ts : List Tg) (key val : ByteArray) (w : World) (hp : PtsAt w a ps) (ht : TagsAt w c ts) (hi : id.size ≤ 1048576) (hl : ps.length ≤ 1048576) (hm : ts.length ≤ 1048576) (hx : TagsLen ts 1048576) (hk : key.size ≤ 1048576) (hv : val.size ≤ 1048576) :
    Calls Try.prog 33 #[.agg #[.string id, .int .i64 k, .slice a ps.length cap, .slice c ts.length ca], .string key, .string val] w (PutAns w (fpI id k ps ts key val) (fpK id k ps ts key val) (fpP id k ps ts key val) (fpT id k ps ts key val) (fpB id k ps ts key val)) :=
  specFeatPut_any id k a cap ps c ca ts key val w hp ht hi hl hm hx hk hv

theorem implFeatPut_all (id : ByteArray) (k : Int) (a : Option Addr) (cap : Nat) (ps : List (Int × Int)) (c : Option Addr) (ca : Nat) (ts : List Tg) (key val : ByteArray) (w : World) (hp : PtsAt w a ps) (ht : TagsAt w c ts) (hi : id.size ≤ 1048576) (hl : ps.length ≤ 1048576) (hm : ts.length ≤ 1048576) (hx : TagsLen ts 1048576) (hk : key.size ≤ 1048576) (hv : val.size ≤ 1048576) :
    Calls Try.prog 32 #[.agg #[.string id, .int .i64 k, .slice a ps.length cap, .slice c ts.length ca], .string key, .string val] w (PutAns w (fpI id k ps ts key val) (fpK id k ps ts key val) (fpP id k ps ts key val) (fpT id k ps ts key val) (fpB id k ps ts key val)) :=
  implFeatPut_any id k a cap ps c ca ts key val w hp ht hi hl hm hx hk hv
end Go.Proofs.Ytdfadpejddhbkaa
