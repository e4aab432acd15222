/- values.place and values.Pair; what is signed of a value without bytes. -/
import Derived.Test.YtonfpomgkgljiaaV3
namespace Go.Proofs.Ytonfpomgkgljiaa
open Go.RowKit
set_option linter.unusedVariables false
set_option maxRecDepth 100000

def by4 (x : Nat) : List Nat := [x / 16777216 % 256, x / 65536 % 256, x / 256 % 256, x % 256]
def bs (xs : List Nat) : List Value := xs.map fun x : Nat => .int .u8 (x : Int)
theorem bs_one (xs : List Nat) : ∀ v ∈ bs xs, v.oneCell' = true := by
  intro v hv
  simp only [bs, List.mem_map] at hv
  obtain ⟨x, _, rfl⟩ := hv
  rfl
/-- a row of bytes in a block of type t -/
def Bb (w : World) (g t : Nat) (xs : List Nat) : Prop := w.heap[g]? = some (.cells (bs xs).toArray t (0, 0))
theorem Bb.lt {w : World} {g t : Nat} {xs : List Nat} (h : Bb w g t xs) : g < w.heap.size := (Array.getElem?_eq_some_iff.1 h).1
theorem Bb.cell {w : World} {g t : Nat} {xs : List Nat} (h : Bb w g t xs) {j x : Nat} (hx : xs[j]? = some x) : w.cell? ⟨g, j, none⟩ = some (.int .u8 (x : Int)) := by
  have h' : w.heap[g]? = _ := h
  simp [World.cell?, h', bs, hx]
def putAt (xs : List Nat) (o : Nat) (ys : List Nat) : List Nat := splice xs o ys
theorem bs_splice (xs ys : List Nat) (o : Nat) : splice (bs xs) o (bs ys) = bs (splice xs o ys) := by simp [splice, bs]
set_option maxHeartbeats 1000000 in
theorem place_any {w : World} {g t o n c a : Nat} {xs : List Nat} (hx : Bb w g t xs) (ha : a < 4294967296) (hn : 4 ≤ n) (ho : o + 4 ≤ xs.length) :
    Calls Try.prog 33 #[.slice (some ⟨g, o, none⟩) n c, .int .u32 (a : Int)] w fun e w' => (∃ v, e = .returned v) ∧ Bb w' g t (splice xs o (by4 a)) ∧ Below g w w' := by
  have hlt := hx.lt
  have e0 : (a : Int) / 16777216 = (((by4 a).getD 0 0 : Nat) : Int) := by simp only [by4, List.getD, List.getElem?_cons_zero, Option.getD_some]; omega
  have e1 : (a : Int) / 65536 % 256 = (((by4 a).getD 1 0 : Nat) : Int) := by simp only [by4, List.getD, List.getElem?_cons_zero, List.getElem?_cons_succ, Option.getD_some]; omega
  have e2 : (a : Int) / 256 % 256 = (((by4 a).getD 2 0 : Nat) : Int) := by simp only [by4, List.getD, List.getElem?_cons_zero, List.getElem?_cons_succ, Option.getD_some]; omega
  have e3 : (a : Int) % 256 = (((by4 a).getD 3 0 : Nat) : Int) := by simp only [by4, List.getD, List.getElem?_cons_zero, List.getElem?_cons_succ, Option.getD_some]; omega
  have hb4 : by4 a = [(by4 a).getD 0 0, (by4 a).getD 1 0, (by4 a).getD 2 0, (by4 a).getD 3 0] := rfl
  have Hb4 := Lib.hid hb4
  clear hb4
  generalize (by4 a).getD 0 0 = y0 at *
  generalize (by4 a).getD 1 0 = y1 at *
  generalize (by4 a).getD 2 0 = y2 at *
  generalize (by4 a).getD 3 0 = y3 at *
  obtain ⟨w1, hw1⟩ : ∃ w1, w1 = w.alloc (.cells #[.int .u8 (y0 : Int), .int .u8 (y1 : Int), .int .u8 (y2 : Int), .int .u8 (y3 : Int)] 67) := ⟨_, rfl⟩
  have b1 : Below g w w1 := by rw [hw1]; exact (Below.refl _ _).alloc (by omega) _
  have x1 : Bb w1 g t xs := by rw [hw1]; exact (Below.heap_alloc _ _ _ hlt).trans hx
  have f1 : Bb w1 w.heap.size 67 [y0, y1, y2, y3] := by rw [hw1]; exact World.alloc_heap_new w _
  have HW := Lib.hid hw1
  have X1 := Lib.hid x1
  have F1 := Lib.hid f1
  clear hw1 x1 f1 hx
  go_enter Try.func33, Try.ntmps33
  have HC := Lib.hid (show ∀ (j : Nat) (v : Value), (bs [y0, y1, y2, y3])[j]? = some v → w1.cell? ((⟨w.heap.size, 0, none⟩ : Addr).add j) = some v from fun j v hj => by
    simp only [bs, List.getElem?_map, Option.map_eq_some_iff] at hj
    obtain ⟨y, hy, rfl⟩ := hj
    have := F1.out.cell hy
    by_cases hj0 : j = 0
    · subst hj0; simpa [Addr.add] using this
    · simpa [Addr.add, hj0] using this)
  have Hmin := Lib.hid (show (bs [y0, y1, y2, y3]).length = Nat.min 4 n by simp only [bs, List.length_map, List.length_cons, List.length_nil, Nat.min_def]; split <;> omega)
  have Hfit := Lib.hid (show o + (bs [y0, y1, y2, y3]).length ≤ (bs xs).length by simp only [bs, List.length_map, List.length_cons, List.length_nil]; omega)
  go_wp2_with (change wpList _ _ _ _ _ (w.alloc (.cells #[.int .u8 (y0 : Int), .int .u8 (y1 : Int), .int .u8 (y2 : Int), .int .u8 (y3 : Int)] 67)); rw [← HW.out]; refine wpList_copy_splice rfl (.tmp 17) (.tmp 18) 31 31 rfl 5 Try.underlying31 (by kernel_rfl) (some ⟨g, o, none⟩) (some ⟨w.heap.size, 0, none⟩) n c 4 4 rfl rfl g o (bs xs) t X1.out (bs [y0, y1, y2, y3]) Hmin.out (fun _ => ⟨rfl, _, rfl, HC.out⟩) Hfit.out (bs_one _) g w b1 (Nat.le_refl _) ?_; intro w2 h2 b2)
  go_end0
  have h2' := h2.out
  rw [bs_splice] at h2'
  exact ⟨⟨_, rfl⟩, by rw [Hb4.out]; exact h2', b2⟩
theorem by4_lim (x : Nat) : ∀ y ∈ by4 x, y < 256 := by
  intro y hy
  simp [by4] at hy
  omega
set_option maxHeartbeats 1000000 in
theorem pair_any (a b : Nat) (ha : a < 4294967296) (hb : b < 4294967296) (w : World) :
    Calls Try.prog 22 #[.int .u32 (a : Int), .int .u32 (b : Int)] w fun e w' => ∃ g, e = .returned (.slice (some ⟨g, 0, none⟩) 8 8) ∧ Bb w' g 68 (by4 a ++ by4 b) ∧ Below w.heap.size w w' := by
  obtain ⟨w1, hw1⟩ : ∃ w1, w1 = w.alloc (.cells (bs (List.replicate 8 0)).toArray 68) := ⟨_, rfl⟩
  have x1 : Bb w1 w.heap.size 68 (List.replicate 8 0) := by rw [hw1]; exact World.alloc_heap_new w _
  have b1 : Below w.heap.size w w1 := by rw [hw1]; exact (Below.refl _ _).alloc (Nat.le_refl _) _
  have HW := Lib.hid hw1
  have P1 := Lib.hid (place_any (o := 0) (n := 8) (c := 8) x1 ha (by omega) (by simp))
  have P2 := Lib.hid (fun (w2 : World) (x2 : Bb w2 w.heap.size 68 (splice (List.replicate 8 0) 0 (by4 a))) => place_any (o := 4) (n := 4) (c := 4) x2 hb (by omega) (by simp [splice, by4]))
  have HR := Lib.hid (show splice (splice (List.replicate 8 0) 0 (by4 a)) 4 (by4 b) = by4 a ++ by4 b from rfl)
  clear hw1 x1 ha hb
  go_enter Try.func22, Try.ntmps22
  go_wp2_with fail
  change Calls _ _ _ (w.alloc (.cells (bs (List.replicate 8 0)).toArray 68)) _
  rw [← HW.out]
  refine P1.out.mono ?_
  rintro e w2 ⟨⟨v, rfl⟩, x2, b2⟩
  have X2 := Lib.hid x2
  have B2 := b1.trans b2
  clear x2 b1 b2
  go_wp2_with fail
  refine (P2.out w2 X2.out).mono ?_
  rintro e w3 ⟨⟨v3, rfl⟩, x3, b3⟩
  have X3 := Lib.hid x3
  have B3 := B2.trans b3
  clear x3 b3 B2
  go_wp2_with fail
  go_ret
  exact ⟨_, rfl, by have := X3.out; rw [HR.out] at this; exact this, B3⟩
end Go.Proofs.Ytonfpomgkgljiaa
