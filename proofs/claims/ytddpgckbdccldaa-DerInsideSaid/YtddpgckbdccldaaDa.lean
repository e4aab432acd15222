/- der.isText. der.isShortest. der.mayHave, where the tag is a number's or a text's. der.roomBehind of a value without kids. der.Right of a value without kids. -/
import Derived.Test.YtddpgckbdccldaaRead
import Derived.Test.YtddpgckbdccldaaRDig
namespace Go.Proofs.Ytddpgckbdccldaa
open Go.RowKit
set_option linter.unusedVariables false
set_option linter.unusedSimpArgs false
set_option maxRecDepth 100000
/-- bytes of a text -/
def txt (xs : List Nat) : Bool := xs.all fun x => decide (32 ≤ x ∧ x ≤ 126)
theorem txt_take {xs : List Nat} {j x : Nat} (hx : xs[j]? = some x) : txt (xs.take (j + 1)) = (txt (xs.take j) && decide (32 ≤ x ∧ x ≤ 126)) := by
  unfold txt
  rw [List.take_add_one, hx, List.all_append]
  simp
theorem txt_bad {xs : List Nat} {j x : Nat} (hx : xs[j]? = some x) (h : ¬ (32 ≤ x ∧ x ≤ 126)) : txt xs = false := by
  unfold txt
  rw [List.all_eq_false]
  exact ⟨x, List.mem_of_getElem? hx, by simpa using h⟩
set_option maxHeartbeats 1000000 in
theorem isText_any {w : World} {B : Nat} {A : Option Addr} {n c : Nat} {xs : List Nat} (h : Nb w B A n c xs) (hn : n ≤ 281474976710656) : Calls Try.prog 39 #[.slice A n c] w fun e w' => e = .returned (.bool (txt xs)) ∧ w' = w := by
  have HH := Lib.hid h
  clear h
  go_enter Try.func39, Try.ntmps39
  go_wp2_with fail
  go_loopw [7] (fun k wr => ∃ j : Nat, k = .int .i64 (j : Int) ∧ j ≤ n ∧ Hid (txt (xs.take j) = true) ∧ wr = w) (fun k _ => n - (intOf k).toNat)
  case atStart => exact ⟨0, rfl, Nat.zero_le _, Lib.hid rfl, rfl⟩
  case round =>
    obtain ⟨j, rfl, hjn, ht, rfl⟩ := hrel
    by_cases hj : j < n
    · have e1 : (j : Int) < (n : Int) := by omega
      obtain ⟨b, off, hA, hb, hc⟩ := HH.out.at_ hj
      have hx2 : xs[j]? = some (xs.getD j 0) := by
        have := HH.out.len
        rw [List.getD_eq_getElem?_getD, List.getElem?_eq_getElem (by omega)]; rfl
      generalize xs.getD j 0 = x at *
      rw [hA]
      have HX := Lib.hid hx2
      have s0 : wrap64 ((j : Int) + 1) = ((j + 1 : Nat) : Int) := by unfold wrap64; omega
      clear hx2 hb
      by_cases h1 : x < 32
      · have d1 : (x : Int) < 32 := by omega
        have HF := Lib.hid (txt_bad HX.out (by omega))
        clear h1
        go_wp2_with fail
        go_ret
        exact ⟨by rw [HF.out]; rfl, rfl⟩
      · have d1 : ((x : Int) < 32) = False := by simp only [eq_iff_iff, iff_false]; omega
        by_cases h2 : 126 < x
        · have d2 : 126 < (x : Int) := by omega
          have HF := Lib.hid (txt_bad HX.out (by omega))
          clear h1 h2
          go_wp2_with fail
          go_ret
          exact ⟨by rw [HF.out]; rfl, rfl⟩
        · have d2 : (126 < (x : Int)) = False := by simp only [eq_iff_iff, iff_false]; omega
          have HT := Lib.hid (show txt (xs.take (j + 1)) = true by rw [txt_take HX.out, ht.out]; simp; omega)
          have HJ := Lib.hid hj
          clear h1 h2
          go_wp2_with fail
          exact ⟨⟨j + 1, by go_num, HJ.out, HT, trivial⟩, by show n - ((j : Int) + 1).toNat < n - (j : Int).toNat; have := HJ.out; omega⟩
    · have e1' : ((j : Int) < (n : Int)) = False := by simp only [eq_iff_iff, iff_false]; omega
      have HF := Lib.hid (show txt xs = true by have := ht.out; rwa [List.take_of_length_le (by have := HH.out.len; omega)] at this)
      go_wp2_with fail
      go_ret
      exact ⟨by rw [HF.out]; rfl, rfl⟩
end Go.Proofs.Ytddpgckbdccldaa
namespace Go.Proofs.Ytddpgckbdccldaa
open Go.RowKit
set_option linter.unusedVariables false
set_option linter.unusedSimpArgs false
set_option maxRecDepth 100000
/-- bytes of a number with a sign that fewer could not be -/
def shrt : List Nat → Bool
  | [] => false
  | [_] => true
  | a :: b :: _ => if a = 0 then decide (128 ≤ b) else if a = 255 then decide (b < 128) else true
theorem Nb.two {w : World} {B : Nat} {A : Option Addr} {n c a b : Nat} {xs : List Nat} (h : Nb w B A n c (a :: b :: xs)) : ∃ g off, A = some ⟨g, off, none⟩ ∧ w.cell? ⟨g, off, none⟩ = some (.int .u8 (a : Int)) ∧ w.cell? ⟨g, off + 1, none⟩ = some (.int .u8 (b : Int)) := by
  have hl := h.len
  simp only [List.length_cons] at hl
  obtain ⟨g, off, e, _, hc⟩ := h.cell (by omega)
  exact ⟨g, off, e, by simpa using hc 0 a rfl, hc 1 b rfl⟩
set_option maxHeartbeats 1000000 in
theorem isShortest_any {w : World} {B : Nat} {A : Option Addr} {n c : Nat} {xs : List Nat} (h : Nb w B A n c xs) (hn : n ≤ 281474976710656) : Calls Try.prog 67 #[.slice A n c] w fun e w' => e = .returned (.bool (shrt xs)) ∧ w' = w := by
  match xs, h with
  | [], h =>
    obtain rfl : n = 0 := h.len.symm
    clear h
    go_enter Try.func67, Try.ntmps67
    go_wp2_with fail
    go_ret
    exact ⟨rfl, rfl⟩
  | [x], h =>
    obtain rfl : n = 1 := h.len.symm
    clear h
    go_enter Try.func67, Try.ntmps67
    go_wp2_with fail
    go_ret
    exact ⟨rfl, rfl⟩
  | a :: b :: xs, h =>
    have hl := h.len
    simp only [List.length_cons] at hl
    obtain ⟨g, off, rfl, h0, h1⟩ := h.two
    have d0 : ((n : Int) < 2) = False := by simp only [eq_iff_iff, iff_false]; omega
    have d1 : (0 : Int) < (n : Int) := by omega
    have d2 : (1 : Int) < (n : Int) := by omega
    by_cases hb : 128 ≤ b
    · have k1 : (128 : Int) ≤ (b : Int) := by omega
      by_cases ha : a = 0
      · subst ha
        have HF := Lib.hid (show shrt (0 :: b :: xs) = true by simp [shrt, hb])
        clear h hl hb
        go_enter Try.func67, Try.ntmps67
        go_wp2_with fail
        go_ret
        exact ⟨by rw [HF.out]; rfl, rfl⟩
      · by_cases ha2 : a = 255
        · subst ha2
          have HF := Lib.hid (show shrt (255 :: b :: xs) = false by simp [shrt]; omega)
          clear h hl hb ha
          go_enter Try.func67, Try.ntmps67
          go_wp2_with fail
          go_ret
          exact ⟨by rw [HF.out]; rfl, rfl⟩
        · have HF := Lib.hid (show shrt (a :: b :: xs) = true by simp [shrt, ha, ha2])
          have k2 : ((a : Int) != 0) = true := by rw [bne_iff_ne]; omega
          have k3 : ((a : Int) != 255) = true := by rw [bne_iff_ne]; omega
          have k4 : ((a : Int) = 0) = False := by simp only [eq_iff_iff, iff_false]; omega
          have k5 : ((a : Int) = 255) = False := by simp only [eq_iff_iff, iff_false]; omega
          clear h hl hb ha ha2
          go_enter Try.func67, Try.ntmps67
          go_wp2_with fail
          go_ret
          exact ⟨by rw [HF.out]; rfl, rfl⟩
    · have k1 : ((128 : Int) ≤ (b : Int)) = False := by simp only [eq_iff_iff, iff_false]; omega
      by_cases ha : a = 0
      · subst ha
        have HF := Lib.hid (show shrt (0 :: b :: xs) = false by simp [shrt]; omega)
        clear h hl hb
        go_enter Try.func67, Try.ntmps67
        go_wp2_with fail
        go_ret
        exact ⟨by rw [HF.out]; rfl, rfl⟩
      · by_cases ha2 : a = 255
        · subst ha2
          have HF := Lib.hid (show shrt (255 :: b :: xs) = true by simp [shrt]; omega)
          clear h hl hb ha
          go_enter Try.func67, Try.ntmps67
          go_wp2_with fail
          go_ret
          exact ⟨by rw [HF.out]; rfl, rfl⟩
        · have HF := Lib.hid (show shrt (a :: b :: xs) = true by simp [shrt, ha, ha2])
          have k2 : ((a : Int) != 0) = true := by rw [bne_iff_ne]; omega
          have k3 : ((a : Int) != 255) = true := by rw [bne_iff_ne]; omega
          have k4 : ((a : Int) = 0) = False := by simp only [eq_iff_iff, iff_false]; omega
          have k5 : ((a : Int) = 255) = False := by simp only [eq_iff_iff, iff_false]; omega
          clear h hl hb ha ha2
          go_enter Try.func67, Try.ntmps67
          go_wp2_with fail
          go_ret
          exact ⟨by rw [HF.out]; rfl, rfl⟩
end Go.Proofs.Ytddpgckbdccldaa
namespace Go.Proofs.Ytddpgckbdccldaa
open Go.RowKit
set_option linter.unusedVariables false
set_option linter.unusedSimpArgs false
set_option maxRecDepth 100000
theorem mayHave_int {w : World} {B : Nat} {A : Option Addr} {n c : Nat} {xs : List Nat} (h : Nb w B A n c xs) (hn : n ≤ 281474976710656) : Calls Try.prog 52 #[.int .i64 2, .slice A n c] w fun e w' => e = .returned (.bool (shrt xs)) ∧ w' = w := by
  have HH := Lib.hid h
  clear h
  go_enter Try.func52, Try.ntmps52
  go_wp2_with fail
  refine (isShortest_any HH.out hn).mono ?_
  rintro e w' ⟨rfl, rfl⟩
  go_wp2_with fail
  go_ret
  exact ⟨rfl, rfl⟩
theorem mayHave_text {w : World} {B : Nat} {A : Option Addr} {n c : Nat} {xs : List Nat} (h : Nb w B A n c xs) (hn : n ≤ 281474976710656) : Calls Try.prog 52 #[.int .i64 12, .slice A n c] w fun e w' => e = .returned (.bool (txt xs)) ∧ w' = w := by
  have HH := Lib.hid h
  clear h
  go_enter Try.func52, Try.ntmps52
  go_wp2_with fail
  refine (isText_any HH.out hn).mono ?_
  rintro e w' ⟨rfl, rfl⟩
  go_wp2_with fail
  go_ret
  exact ⟨rfl, rfl⟩
theorem hasKids_int (w : World) : Calls Try.prog 51 #[.int .i64 2] w fun e w' => e = .returned (.bool false) ∧ w' = w := by
  go_enter Try.func51, Try.ntmps51
  go_wp2_with fail
  go_ret
  exact ⟨rfl, rfl⟩
theorem hasKids_text (w : World) : Calls Try.prog 51 #[.int .i64 12] w fun e w' => e = .returned (.bool false) ∧ w' = w := by
  go_enter Try.func51, Try.ntmps51
  go_wp2_with fail
  go_ret
  exact ⟨rfl, rfl⟩
end Go.Proofs.Ytddpgckbdccldaa
namespace Go.Proofs.Ytddpgckbdccldaa
open Go.RowKit
set_option linter.unusedVariables false
set_option linter.unusedSimpArgs false
set_option maxRecDepth 100000
/-- a value without kids -/
def leaf (t : Int) (A : Option Addr) (n c : Nat) : Value := .agg #[.int .i64 t, .slice A n c, .slice none 0 0]
set_option maxHeartbeats 1000000 in
theorem room_leaf (t : Int) (A : Option Addr) (n c : Nat) (w : World) : Calls Try.prog 36 #[leaf t A n c, .int .i64 16, .int .i64 4096] w fun e w' => e = .returned (.int .i64 4095) ∧ Below w.heap.size w w' := by
  unfold leaf
  go_enter Try.func36, Try.ntmps36
  go_wp2_with fail
  have hb : Below w.heap.size w (w.alloc (.cells #[.int .i64 t, .slice A n c, .slice none 0 0] 25)) := (Below.refl _ _).alloc (Nat.le_refl _) _
  go_loopw [2, 20] (fun r k wr => r = .int .i64 4095 ∧ k = .int .i64 0 ∧ Hid (Below w.heap.size w wr)) (fun _ _ _ => 0)
  case atStart => exact ⟨rfl, rfl, Lib.hid hb⟩
  case round =>
    obtain ⟨rfl, rfl, HB⟩ := hrel
    clear hb
    go_wp2_with fail
    go_ret
    exact ⟨rfl, HB.out⟩
end Go.Proofs.Ytddpgckbdccldaa
namespace Go.Proofs.Ytddpgckbdccldaa
open Go.RowKit
set_option linter.unusedVariables false
set_option linter.unusedSimpArgs false
set_option maxRecDepth 100000
set_option maxHeartbeats 1000000 in
theorem suits_int {w : World} {A : Option Addr} {n c : Nat} {xs : List Nat} (h : Nb w w.heap.size A n c xs) (hn : n ≤ 281474976710656) : Calls Try.prog 37 #[leaf 2 A n c] w fun e w' => e = .returned (.bool (shrt xs)) ∧ Below w.heap.size w w' := by
  unfold leaf
  have hb : Below w.heap.size w (w.alloc (.cells #[.int .i64 2, .slice A n c, .slice none 0 0] 25)) := (Below.refl _ _).alloc (Nat.le_refl _) _
  have H2 := Lib.hid (h.below hb)
  have HB := Lib.hid hb
  clear h hb
  go_enter Try.func37, Try.ntmps37
  go_wp2_with fail
  refine (hasKids_int _).mono ?_
  rintro e w' ⟨rfl, rfl⟩
  go_wp2_with fail
  refine (mayHave_int H2.out hn).mono ?_
  rintro e w' ⟨rfl, rfl⟩
  go_wp2_with fail
  go_ret
  exact ⟨rfl, HB.out⟩
set_option maxHeartbeats 1000000 in
theorem right_int {w : World} {A : Option Addr} {n c : Nat} {xs : List Nat} (h : Nb w w.heap.size A n c xs) (hn : n ≤ 281474976710656) : Calls Try.prog 14 #[leaf 2 A n c] w fun e w' => e = .returned (.bool (shrt xs)) ∧ Below w.heap.size w w' := by
  have hb : Below w.heap.size w (w.alloc (.cells #[.int .i64 2, .slice A n c, .slice none 0 0] 25)) := (Below.refl _ _).alloc (Nat.le_refl _) _
  have H2 := Lib.hid (fun W (b : Below w.heap.size w W) => h.up b)
  have HB := Lib.hid hb
  clear h hb
  have HR := Lib.hid (fun W => room_leaf 2 A n c W)
  have HS := Lib.hid (fun W (b : Below w.heap.size w W) => suits_int (H2.out W b) hn)
  unfold leaf at *
  go_enter Try.func14, Try.ntmps14
  go_wp2_with fail
  refine (HR.out _).mono ?_
  rintro e w1 ⟨rfl, b1⟩
  have HB1 := Lib.hid (bthen HB.out b1)
  have hc0 : w1.cell? ⟨w.heap.size, 0, none⟩ = some (.int .i64 2) := by
    rw [b1.cell (p := ⟨w.heap.size, 0, none⟩) (by simp)]; simp
  have hc1 : w1.cell? ⟨w.heap.size, 1, none⟩ = some (.slice A n c) := by
    rw [b1.cell (p := ⟨w.heap.size, 1, none⟩) (by simp)]; simp
  have hc2 : w1.cell? ⟨w.heap.size, 2, none⟩ = some (.slice none 0 0) := by
    rw [b1.cell (p := ⟨w.heap.size, 2, none⟩) (by simp)]; simp
  clear b1
  go_wp2_with fail
  refine (HS.out _ HB1.out).mono ?_
  rintro e w2 ⟨rfl, b2⟩
  go_wp2_with fail
  go_ret
  exact ⟨rfl, bthen HB1.out b2⟩
set_option maxHeartbeats 1000000 in
theorem suits_text {w : World} {A : Option Addr} {n c : Nat} {xs : List Nat} (h : Nb w w.heap.size A n c xs) (hn : n ≤ 281474976710656) : Calls Try.prog 37 #[leaf 12 A n c] w fun e w' => e = .returned (.bool (txt xs)) ∧ Below w.heap.size w w' := by
  unfold leaf
  have hb : Below w.heap.size w (w.alloc (.cells #[.int .i64 12, .slice A n c, .slice none 0 0] 25)) := (Below.refl _ _).alloc (Nat.le_refl _) _
  have H2 := Lib.hid (h.below hb)
  have HB := Lib.hid hb
  clear h hb
  go_enter Try.func37, Try.ntmps37
  go_wp2_with fail
  refine (hasKids_text _).mono ?_
  rintro e w' ⟨rfl, rfl⟩
  go_wp2_with fail
  refine (mayHave_text H2.out hn).mono ?_
  rintro e w' ⟨rfl, rfl⟩
  go_wp2_with fail
  go_ret
  exact ⟨rfl, HB.out⟩
set_option maxHeartbeats 1000000 in
theorem right_text {w : World} {A : Option Addr} {n c : Nat} {xs : List Nat} (h : Nb w w.heap.size A n c xs) (hn : n ≤ 281474976710656) : Calls Try.prog 14 #[leaf 12 A n c] w fun e w' => e = .returned (.bool (txt xs)) ∧ Below w.heap.size w w' := by
  have hb : Below w.heap.size w (w.alloc (.cells #[.int .i64 12, .slice A n c, .slice none 0 0] 25)) := (Below.refl _ _).alloc (Nat.le_refl _) _
  have H2 := Lib.hid (fun W (b : Below w.heap.size w W) => h.up b)
  have HB := Lib.hid hb
  clear h hb
  have HR := Lib.hid (fun W => room_leaf 12 A n c W)
  have HS := Lib.hid (fun W (b : Below w.heap.size w W) => suits_text (H2.out W b) hn)
  unfold leaf at *
  go_enter Try.func14, Try.ntmps14
  go_wp2_with fail
  refine (HR.out _).mono ?_
  rintro e w1 ⟨rfl, b1⟩
  have HB1 := Lib.hid (bthen HB.out b1)
  have hc0 : w1.cell? ⟨w.heap.size, 0, none⟩ = some (.int .i64 12) := by
    rw [b1.cell (p := ⟨w.heap.size, 0, none⟩) (by simp)]; simp
  have hc1 : w1.cell? ⟨w.heap.size, 1, none⟩ = some (.slice A n c) := by
    rw [b1.cell (p := ⟨w.heap.size, 1, none⟩) (by simp)]; simp
  have hc2 : w1.cell? ⟨w.heap.size, 2, none⟩ = some (.slice none 0 0) := by
    rw [b1.cell (p := ⟨w.heap.size, 2, none⟩) (by simp)]; simp
  clear b1
  go_wp2_with fail
  refine (HS.out _ HB1.out).mono ?_
  rintro e w2 ⟨rfl, b2⟩
  go_wp2_with fail
  go_ret
  exact ⟨rfl, bthen HB1.out b2⟩
end Go.Proofs.Ytddpgckbdccldaa
