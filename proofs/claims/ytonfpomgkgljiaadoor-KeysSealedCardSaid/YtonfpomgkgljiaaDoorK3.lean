/- The own side: the beginning of a digest, session keys, next key numbers, cookies, sums. -/
import Derived.Test.YtonfpomgkgljiaaDoorK2
namespace Go.Proofs.YtonfpomgkgljiaaDoor
open Go.RowKit
set_option linter.unusedVariables false
set_option maxRecDepth 100000

/-- a row of 16 bytes, all new -/
def New16 (xs : List Nat) (w : World) (e : Ending) (w' : World) : Prop := ∃ A' c', e = .returned (.slice A' 16 c') ∧ Nb w' w'.heap.size A' 16 c' xs ∧ (∃ g off, A' = some ⟨g, off, none⟩ ∧ w.heap.size ≤ g) ∧ Below w.heap.size w w'
theorem beginning_any (D : List Nat) (hD : D.length = 32) (hL : Lim 256 D) (w : World) : Calls Tryd.prog 26 #[.agg (bs D).toArray] w (New16 (D.take 16) w) := by
  have x0 : Bb (w.alloc (Yb 45 D)) w.heap.size 45 D := alloc_bb w 45 D
  have b0 : Below w.heap.size w (w.alloc (Yb 45 D)) := (Below.refl _ _).alloc (Nat.le_refl _) _
  have hs : (w.alloc (Yb 45 D)).heap.size = w.heap.size + 1 := by simp
  obtain ⟨w1, hw1⟩ : ∃ w1, w.alloc (Yb 45 D) = w1 := ⟨_, rfl⟩
  rw [hw1] at x0 b0 hs
  have n1 : Nb w1 w1.heap.size (some ⟨w.heap.size, 0, none⟩) 16 32 (D.take 16) := by
    have := nb_take (x0.nb 0 32 32 (by omega) (by omega) (by omega) hL) 16 (by omega)
    simpa [List.take_of_length_le (Nat.le_of_eq hD)] using this
  have H := Lib.hid (clone_any n1 (by omega))
  have HW := Lib.hid hw1
  clear hw1 n1 x0 hD hL
  go_enter Tryd.func26, Tryd.ntmps26
  go_wp2_with fail
  change Calls _ _ _ (w.alloc (Yb 45 D)) _
  rw [HW.out]
  refine H.out.mono ?_
  rintro e w2 ⟨A2, c2, rfl, n2, h2, b2⟩
  have B2 := then_ b0 b2
  obtain ⟨g, off, rfl, hg⟩ := h2 (by omega)
  clear b0 b2
  go_wp2_with fail
  go_ret
  exact ⟨_, _, rfl, n2, ⟨g, off, rfl, by omega⟩, B2⟩
theorem New16.any {xs : List Nat} {w w' : World} {e : Ending} (h : New16 xs w e w') : ∃ A' c', e = .returned (.slice A' 16 c') ∧ Nb w' w'.heap.size A' 16 c' xs ∧ Below w.heap.size w w' := by
  obtain ⟨A, c, e, n, _, b⟩ := h
  exact ⟨A, c, e, n, b⟩

/-- four words in a new row -/
theorem words_new (w : World) (a b c d : Nat) (hL : Lim 4294967296 [a, b, c, d]) : Nw (w.alloc (.cells #[.int .u32 (a : Int), .int .u32 (b : Int), .int .u32 (c : Int), .int .u32 (d : Int)] 22)) (w.heap.size + 1) (some ⟨w.heap.size, 0, none⟩) 4 4 [a, b, c, d] := by
  refine ⟨rfl, Nat.le_refl _, by omega, hL, fun _ => ⟨w.heap.size, 0, rfl, Nat.lt_succ_self _, fun j y hj => ?_⟩⟩
  rw [cell_of_row _ _ _ _ 22 (0, 0) (heap_alloc_new w _)]
  match j, hj with
  | 0, hj => cases hj; rfl
  | 1, hj => cases hj; rfl
  | 2, hj => cases hj; rfl
  | 3, hj => cases hj; rfl
theorem nums_flat (a b c d : Nat) : [a, b, c, d].flatMap by4 = nums a b c d := rfl
theorem written4 (w : World) (a b c d : Nat) (hL : Lim 4294967296 [a, b, c, d]) : Calls Tryd.prog 28 #[.slice (some ⟨w.heap.size, 0, none⟩) 4 4] (w.alloc (.cells #[.int .u32 (a : Int), .int .u32 (b : Int), .int .u32 (c : Int), .int .u32 (d : Int)] 22)) fun e w' => ∃ A' c', e = .returned (.slice A' 16 c') ∧ Nb w' w'.heap.size A' 16 c' (nums a b c d) ∧ Below w.heap.size w w' := by
  refine (written_any (words_new w a b c d hL) (by omega) (by simp)).mono ?_
  rintro e w' ⟨A, c', rfl, n1, b1⟩
  exact ⟨A, c', rfl, n1, ((Below.refl _ w).alloc (Nat.le_refl _) _).trans (b1.mono (by simp))⟩
theorem lim4 {a b c d : Nat} (ha : a < 4294967296) (hb : b < 4294967296) (hc : c < 4294967296) (hd : d < 4294967296) : Lim 4294967296 [a, b, c, d] := by
  intro x hx
  simp at hx
  rcases hx with rfl | rfl | rfl | rfl <;> assumption
theorem session_any {w : World} (hk : Ks w) (a b c d : Nat) (ha : a < 4294967296) (hb : b < 4294967296) (hc : c < 4294967296) (hd : d < 4294967296) :
    Calls Tryd.prog 10 #[.int .u32 (a : Int), .int .u32 (b : Int), .int .u32 (c : Int), .int .u32 (d : Int)] w (New16 (sess a b c d) w) := by
  have H1 := Lib.hid (fun w => written4 w a b c d (lim4 ha hb hc hd))
  have Hs := Lib.hid (show sess a b c d = (sha (nums a b c d)).take 16 from rfl)
  have HB := Lib.hid (beginning_any (sha (nums a b c d)) (length_sha _) (sha_lim _))
  have hsz := hk.size
  clear ha hb hc hd
  go_enter Tryd.func10, Tryd.ntmps10
  go_wp2_with fail
  refine (H1.out _).mono ?_
  rintro e w1 ⟨A1, c1, rfl, n1, b1⟩
  go_wp2_with fail
  refine (sum_any (hk.below b1 hsz) n1 (by omega)).mono ?_
  rintro e w2 ⟨rfl, b2⟩
  have B2 := then_ b1 b2
  clear n1 b1 b2
  go_wp2_with fail
  refine (HB.out _).mono ?_
  rintro e w3 ⟨A3, c3, rfl, n3, ⟨g, off, rfl, hg⟩, b3⟩
  have B3 := then_ B2 b3
  have hB2 := B2.size
  clear B2 b3
  go_wp2_with fail
  go_ret
  exact ⟨_, _, rfl, n3, ⟨g, off, rfl, by omega⟩, B3⟩
/-- keys.numberOf -/
theorem numberOf_any {w : World} {B n c : Nat} {A : Option Addr} {xs : List Nat} (h : Nb w B A n c xs) (hn : 4 ≤ n) :
    Calls Tryd.prog 32 #[.slice A n c] w fun e w' => (∃ q, w' = w.drewN q) ∧ e = .returned (.int .u32 ((num4 xs : Nat) : Int)) := by
  have hc := h.cap
  have hr := h.room
  obtain ⟨b, off, rfl, hb, h0⟩ := h.at_ (k := 0) (by omega)
  obtain ⟨b1, off1, e1, hb1, h1⟩ := h.at_ (k := 1) (by omega)
  obtain ⟨b2, off2, e2, hb2, h2⟩ := h.at_ (k := 2) (by omega)
  obtain ⟨b3, off3, e3, hb3, h3⟩ := h.at_ (k := 3) (by omega)
  simp only [Option.some.injEq, Addr.mk.injEq, and_true] at e1 e2 e3
  obtain ⟨rfl, rfl⟩ := e1
  obtain ⟨rfl, rfl⟩ := e2
  obtain ⟨rfl, rfl⟩ := e3
  have l0 := h.lim.get (by omega) 0
  have l1 := h.lim.get (by omega) 1
  have l2 := h.lim.get (by omega) 2
  have l3 := h.lim.get (by omega) 3
  have HN := Lib.hid (show num4 xs = word (xs.getD 0 0) (xs.getD 1 0) (xs.getD 2 0) (xs.getD 3 0) by unfold num4 word; omega)
  generalize num4 xs = M at *
  generalize xs.getD 0 0 = x0 at *
  generalize xs.getD 1 0 = x1 at *
  generalize xs.getD 2 0 = x2 at *
  generalize xs.getD 3 0 = x3 at *
  have Hw := Lib.hid (word_bits l0 l1 l2 l3)
  rw [Nat.add_zero] at h0
  clear h
  go_enter Tryd.func32, Tryd.ntmps32
  go_wp2
  go_quiet (fail)
  go_wp2
  go_ret
  rw [Hw.out, HN.out]
  exact ⟨⟨_, rfl⟩, rfl⟩
end Go.Proofs.YtonfpomgkgljiaaDoor
