/- der.mayHave of any tag, der.areBits, bytes.Clone. -/
import Derived.Test.YtddpgckbdccldaaF3
import Derived.Lib.SliceRun
namespace Go.Proofs.Ytddpgckbdccldaa
open Go.RowKit
set_option linter.unusedVariables false
set_option linter.unusedSimpArgs false
set_option maxRecDepth 100000
theorem bitsOk_two {xs : List Nat} {n x z : Nat} (hl : xs.length = n) (hn : 2 ≤ n) (hx : xs.getD 0 0 = x) (hz : xs.getD (n - 1) 0 = z) : bitsOk xs = (decide (x ≤ 7) && (z % 2 ^ x == 0)) := by
  match xs, hl with
  | [], h => simp at h; omega
  | [a], h => simp at h; omega
  | a :: b :: ys, h =>
    simp only [List.length_cons] at h
    simp only [List.getD_cons_zero] at hx
    subst hx
    have : (b :: ys).getLastD a = z := by
      rw [← hz, List.getLastD_eq_getLast?, List.getLast?_eq_getElem?]
      rw [List.getD_eq_getElem?_getD]
      have e : n - 1 = (b :: ys).length - 1 + 1 := by simp only [List.length_cons]; omega
      rw [e, List.getElem?_cons_succ]
      have hlt : (b :: ys).length - 1 < (b :: ys).length := by simp
      rw [List.getElem?_eq_getElem hlt]
      rfl
    show (decide (a ≤ 7) && (!(b :: ys).isEmpty || a == 0) && ((b :: ys).getLastD a % 2 ^ a == 0)) = _
    rw [this]
    simp
theorem cast_zero (q : Nat) : ((q : Int) == 0) = (q == 0) := by rw [Bool.eq_iff_iff]; simp
theorem and_low (z x : Nat) (hz : z < 256) (hx : x ≤ 8) : bits .and .u8 (z : Int) (2 ^ x - 1) = ((z % 2 ^ x : Nat) : Int) := by
  have := bits_mask .u8 8 (by decide) (fun n h0 h1 => wraps_u8 n h0 h1) x hx (z : Int) (by omega) (by omega)
  rw [this]
  simp
set_option maxHeartbeats 4000000 in
theorem areBits_any {w : World} {B : Nat} {A : Option Addr} {n c : Nat} {xs : List Nat} (h : Nb w B A n c xs) (hn : n ≤ 281474976710656) : Calls Try.prog 68 #[.slice A n c] w fun e w' => e = .returned (.bool (bitsOk xs)) ∧ w' = w := by
  by_cases h0 : n = 0
  · subst h0
    have HF := Lib.hid (show bitsOk xs = false by rw [List.eq_nil_of_length_eq_zero h.len]; rfl)
    clear h
    go_enter Try.func68, Try.ntmps68
    go_wp2_with fail
    go_ret
    exact ⟨by rw [HF.out]; rfl, rfl⟩
  obtain ⟨b, off, rfl, hb, hx⟩ := h.at_ (show 0 < n by omega)
  rw [Nat.add_zero] at hx
  have hn0 : ((n : Int) == 0) = false := by simp; omega
  have hn0' : ((n : Int) = 0) = False := by simp; omega
  have hpos : (0 : Int) < (n : Int) := by omega
  have hx256 : xs.getD 0 0 < 256 := h.lim.get (by omega) 0
  obtain ⟨x, hxe⟩ : ∃ x, xs.getD 0 0 = x := ⟨_, rfl⟩
  rw [hxe] at hx hx256
  by_cases h7 : 7 < x
  · have k7 : (7 : Int) < (x : Int) := by omega
    have HF := Lib.hid (show bitsOk xs = false by
      match xs, h.len, hxe with
      | [], hl, _ => simp at hl; omega
      | a :: ys, _, e => simp only [List.getD_cons_zero] at e; subst e; simp [bitsOk]; omega)
    clear h hxe
    go_enter Try.func68, Try.ntmps68
    go_wp2_with fail
    go_ret
    exact ⟨by rw [HF.out]; rfl, rfl⟩
  have k7 : ((7 : Int) < (x : Int)) = False := by simp; omega
  by_cases h1 : n = 1
  · subst h1
    match xs, h.len, hxe with
    | [a], _, e =>
      simp only [List.getD_cons_zero] at e
      subst e
      by_cases ha : a = 0
      · subst ha
        clear h
        go_enter Try.func68, Try.ntmps68
        go_wp2_with fail
        go_ret
        exact ⟨rfl, rfl⟩
      · have ka : ((a : Int) != 0) = true := by simp; omega
        have ka' : ((a : Int) = 0) = False := by simp; omega
        have HF := Lib.hid (show bitsOk [a] = false by simp [bitsOk, ha])
        clear h ha
        go_enter Try.func68, Try.ntmps68
        go_wp2_with fail
        go_ret
        exact ⟨by rw [HF.out]; rfl, rfl⟩
  have hn1 : ((n : Int) == 1) = false := by simp; omega
  have hn1' : ((n : Int) = 1) = False := by simp; omega
  obtain ⟨m, hm⟩ : ∃ m, n = m + 1 := ⟨n - 1, by omega⟩
  obtain ⟨b', off', hA, hb', hz⟩ := h.at_ (show m < n by omega)
  cases hA
  have hz256 : xs.getD m 0 < 256 := h.lim.get (by omega) m
  obtain ⟨z, hze⟩ : ∃ z, xs.getD m 0 = z := ⟨_, rfl⟩
  rw [hze] at hz hz256
  have HF := Lib.hid (bitsOk_two h.len (by omega) hxe (show xs.getD (n - 1) 0 = z by rw [hm]; exact hze))
  have hmn : (n : Int) - 1 = (m : Int) := by omega
  have hmlt : m < n := by omega
  have ha := and_low z x hz256 (by omega)
  have hx7 : x ≤ 7 := by omega
  clear h hxe hze hm h0 h1 h7
  have : x = 0 ∨ x = 1 ∨ x = 2 ∨ x = 3 ∨ x = 4 ∨ x = 5 ∨ x = 6 ∨ x = 7 := by omega
  rcases this with rfl | rfl | rfl | rfl | rfl | rfl | rfl | rfl
  all_goals
    simp only [Int.reducePow, Int.reduceSub, Int.pow_zero, Nat.reducePow, Nat.pow_zero] at ha HF
    generalize hq : z % _ = q at ha HF
    clear hq hx7 k7
    go_enter Try.func68, Try.ntmps68
    go_wp2_with fail
    go_ret
    refine ⟨?_, rfl⟩
    rw [HF.out]
    refine (show _ = Ending.returned (Value.bool ((q : Int) == 0)) from rfl).trans ?_
    rw [cast_zero q]
    rfl
set_option maxHeartbeats 4000000 in
theorem may_any {w : World} {B : Nat} {A : Option Addr} {n c : Nat} {xs : List Nat} (t : Int) (h : Nb w B A n c xs) (hn : n ≤ 281474976710656) : Calls Try.prog 52 #[.int .i64 t, .slice A n c] w fun e w' => e = .returned (.bool (may t xs)) ∧ w' = w := by
  by_cases t1 : t = 1
  · subst t1
    have hmay : may 1 xs = (xs == [0] || xs == [255]) := rfl
    by_cases h1 : n = 1
    · subst h1
      obtain ⟨b, off, rfl, hb, hx⟩ := h.at_ (show 0 < 1 by omega)
      rw [Nat.add_zero] at hx
      match xs, h.len with
      | [x], _ =>
        simp only [List.getD_cons_zero] at hx
        have hmay2 : may 1 [x] = ((x : Int) == 0 || (x : Int) == 255) := by
          rw [hmay, Bool.eq_iff_iff]
          simp
          omega
        have HF := Lib.hid hmay2
        clear h hmay hmay2
        by_cases hx0 : x = 0
        · subst hx0
          go_enter Try.func52, Try.ntmps52
          go_wp2_with fail
          go_ret
          exact ⟨by rw [HF.out]; rfl, rfl⟩
        · have k0 : ((x : Int) == 0) = false := by simp; omega
          have k0' : ((x : Int) = 0) = False := by simp; omega
          have HF2 := Lib.hid (show may 1 [x] = ((x : Int) == 255) by rw [HF.out, k0, Bool.false_or])
          go_enter Try.func52, Try.ntmps52
          go_wp2_with fail
          go_ret
          exact ⟨by rw [HF2.out]; rfl, rfl⟩
    · have k1 : ((n : Int) == 1) = false := by simp; omega
      have k1' : ((n : Int) = 1) = False := by simp; omega
      have HF := Lib.hid (show may 1 xs = false by
        rw [hmay, Bool.or_eq_false_iff, beq_eq_false_iff_ne, beq_eq_false_iff_ne]
        exact ⟨fun e => h1 (by rw [← h.len, e]; rfl), fun e => h1 (by rw [← h.len, e]; rfl)⟩)
      clear h1 h hmay
      go_enter Try.func52, Try.ntmps52
      go_wp2_with fail
      go_ret
      exact ⟨by rw [HF.out]; rfl, rfl⟩
  by_cases t2 : t = 2
  · subst t2; exact mayHave_int h hn
  by_cases t3 : t = 3
  · subst t3
    have HC := Lib.hid (areBits_any h hn)
    clear h
    go_enter Try.func52, Try.ntmps52
    go_wp2_with fail
    refine (HC.out).mono ?_
    rintro e w' ⟨rfl, rfl⟩
    go_wp2_with fail
    go_ret
    exact ⟨rfl, rfl⟩
  by_cases t4 : t = 4
  · subst t4
    clear h
    go_enter Try.func52, Try.ntmps52
    go_wp2_with fail
    go_ret
    exact ⟨rfl, rfl⟩
  by_cases t5 : t = 5
  · subst t5
    have HF := Lib.hid (show may 5 xs = ((n : Int) == 0) by
      show xs.isEmpty = _
      rw [cast_zero, ← h.len, Bool.eq_iff_iff]
      simp)
    clear h
    go_enter Try.func52, Try.ntmps52
    go_wp2_with fail
    go_ret
    exact ⟨by rw [HF.out]; rfl, rfl⟩
  by_cases t6 : t = 12
  · subst t6; exact mayHave_text h hn
  have HF := Lib.hid (show may t xs = false by unfold may; rw [if_neg t1, if_neg t2, if_neg t3, if_neg t4, if_neg t5, if_neg t6])
  have k1 : (t == 1) = false := by simp; omega
  have k2 : (t == 2) = false := by simp; omega
  have k3 : (t == 3) = false := by simp; omega
  have k4 : (t == 4) = false := by simp; omega
  have k5 : (t == 5) = false := by simp; omega
  have k6 : (t == 12) = false := by simp; omega
  have j1 : (t = 1) = False := by simp; omega
  have j2 : (t = 2) = False := by simp; omega
  have j3 : (t = 3) = False := by simp; omega
  have j4 : (t = 4) = False := by simp; omega
  have j5 : (t = 5) = False := by simp; omega
  have j6 : (t = 12) = False := by simp; omega
  clear h t1 t2 t3 t4 t5 t6
  go_enter Try.func52, Try.ntmps52
  go_wp2_with fail
  go_ret
  exact ⟨by rw [HF.out]; rfl, rfl⟩
theorem gb_empty (w : World) (base : Nat) (hb : base ≤ w.heap.size) : Gb (w.alloc (.cells #[] 5)) base (some ⟨w.heap.size, 0, none⟩) 0 0 [] :=
  ⟨rfl, by simp [bvs], Or.inr ⟨w.heap.size, 0, #[], rfl, hb, heap_alloc_new w _, Nat.le_refl _, Nat.zero_le _, rfl, rfl⟩⟩
/-- bytes.Clone -/
def Cln (n : Nat) (xs : List Nat) (w : World) (e : Ending) (w' : World) : Prop := ∃ A c, e = .returned (.slice A n c) ∧ Gb w' w.heap.size A n c xs ∧ Below w.heap.size w w'
set_option maxHeartbeats 1000000 in
theorem clone_any {w : World} {B : Nat} {ad : Addr} {n c : Nat} {xs : List Nat} (h : Nb w B (some ad) n c xs) (hB : B ≤ w.heap.size) (hn : n ≤ 1099511627776) : Calls Try.prog 76 #[.slice (some ad) n c] w (Cln n xs w) := by
  have he : ∀ (w : World) (a : Option Addr) (n c n' c' : Nat), (binOp .eql 22 (.slice a n c) (.slice none n' c')).run Try.prog w = .ok (.bool a.isNone) w := fun w a n c n' c' => Lib.run_eql_slice_nil w _ _ a n c n' c' Try.underlying22
  have hb : Below w.heap.size w (w.alloc (.cells #[] 5)) := (Below.refl _ _).alloc (Nat.le_refl _) _
  have HN := Lib.hid (h.below (hb.mono hB))
  have HG := Lib.hid (gb_empty w w.heap.size (Nat.le_refl _))
  have HB := Lib.hid hb
  have hz := hb.size
  have h0n : 0 + n ≤ 1099511627776 := by omega
  clear h hb
  go_enter Try.func76, Try.ntmps76
  go_wp2_with (at_builtin; refine wpList_appb _ rfl (.tmp 5) (.tmp 6) rfl rfl HG.out rfl HN.out h0n hz ?_; intro A2 c2 w2 hg2 hr2)
  have HG2 := Lib.hid hg2
  have HR2 := Lib.hid hr2
  clear hg2 hr2
  simp only [Nat.zero_add, List.nil_append] at HG2
  go_wp2_with fail
  go_ret
  exact ⟨A2, c2, by simp, HG2.out, HR2.out.below HB.out hz (blk_le (Nat.le_refl _))⟩
end Go.Proofs.Ytddpgckbdccldaa
