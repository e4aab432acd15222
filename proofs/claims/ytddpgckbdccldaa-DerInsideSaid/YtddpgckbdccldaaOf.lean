/- nat.Of and nat.Write. -/
import Derived.Test.YtddpgckbdccldaaSmall
namespace Go.Proofs.Ytddpgckbdccldaa
set_option linter.unusedSimpArgs false
set_option linter.unusedVariables false
open Go.RowKit


/-- block g is just the bytes xs -/
def Ob (w : World) (g : Nat) (xs : List Nat) : Prop := w.heap[g]? = some (.cells (xs.map fun x : Nat => Value.int .u8 (x : Int)).toArray 5 (0, 0))
theorem Ob.lt {w : World} {g : Nat} {xs : List Nat} (h : Ob w g xs) : g < w.heap.size := by
  rcases Nat.lt_or_ge g w.heap.size with hlt | hge
  · exact hlt
  · unfold Ob at h; rw [Array.getElem?_eq_none hge] at h; cases h
theorem Ob.cell {w : World} {g : Nat} {xs : List Nat} (h : Ob w g xs) {j x : Nat} (hx : xs[j]? = some x) : w.cell? ⟨g, j, none⟩ = some (.int .u8 (x : Int)) := by
  rw [cell_of_row w g j _ 5 (0, 0) h]
  simp [hx]
theorem Ob.frozen {w : World} {g : Nat} {xs : List Nat} (h : Ob w g xs) (j : Nat) : w.frozen? ⟨g, j, none⟩ = false := by
  unfold Ob at h
  simp [World.frozen?, h]
theorem Ob.set_ {w : World} {g : Nat} {xs : List Nat} (h : Ob w g xs) (j x : Nat) : Ob (w.setCell ⟨g, j, none⟩ (.int .u8 (x : Int))) g (xs.set j x) := by
  unfold Ob at h ⊢
  simp [World.setCell, Array.getElem?_modify, h]
theorem Ob.drew {w : World} {g : Nat} {xs : List Nat} (h : Ob w g xs) : Ob w.drew g xs := h
theorem Ob.drewN {w : World} {g : Nat} {xs : List Nat} (h : Ob w g xs) (n : Nat) : Ob (w.drewN n) g xs := h
theorem Ob.below {w w' : World} {B g : Nat} {xs : List Nat} (h : Ob w g xs) (hb : Below B w w') (hg : g < B) : Ob w' g xs := (hb.block g hg).trans h

theorem Try.info5 : (Try.prog.info? 5).map (fun i => (i.zero, i.size, i.bytes)) = some (some (.int .u8 0), 1, 1) := by kernel_rfl
theorem run_make_ub (n : Nat) (hn : n ≤ 8796093022208) (w : World) : (Instr.makeSlice 22 (.int .i64 (n : Int)) (.int .i64 (n : Int))).run Try.prog w =
    .ok (.slice (some ⟨w.heap.size, 0, none⟩) n n) (w.alloc (.cells ((List.replicate n 0).map fun x : Nat => Value.int .u8 (x : Int)).toArray 5)) := by
  obtain ⟨i0, hi, hz0, hz1, hz2⟩ := info_parts Try.info5
  have hr := run_make (P := Try.prog) w 22 5 i0 (.int .u8 0) Try.underlying22 hi hz0 .i64 .i64 n n (by omega) (Int.le_refl _) (by rw [hz2]; omega) (by omega)
  simp only [Int.toNat_natCast] at hr
  rw [hr, hz1, Nat.mul_one]
  have : (madeCells (Value.int .u8 0).cells n) = ((List.replicate n 0).map fun x : Nat => Value.int .u8 (x : Int)).toArray := by
    apply Array.ext'
    rw [show (madeCells (Value.int .u8 0).cells n).toList = List.replicate n (.int .u8 0) from toList_madeCells_one _ _]
    simp
  rw [this]
theorem wpList_make_ub (w : World) {ops : Array Oper} {rest : List Oper} {o : Oper} {a : Act} {Q : Exit → Act → World → Prop}
    (hg : o.guard = none) (l c : Operand) (hop : o.op = Op.makeSlice 22 l c) (L C : Int) (n : Nat) (hl : a.eval l = .int .i64 L) (hc : a.eval c = .int .i64 C) (hL : L = (n : Int)) (hC : C = (n : Int)) (hn : n ≤ 8796093022208)
    (hK : ∀ w', Ob w' w.heap.size (List.replicate n 0) → w.grownBy w' none → wpList Try.prog ops Q rest (a.put o.dst (.slice (some ⟨w.heap.size, 0, none⟩) n n)) w') :
    wpList Try.prog ops Q (o :: rest) a w := by
  refine wpList_plain hg fun K hK' => ?_
  have hrun := run_make_ub n hn w
  subst hL
  subst hC
  unfold Oper.wp
  simp [execOp, hop, hl, hc, hrun, Result.andThen]
  exact hK' _ _ (hK _ (by
    have e : Array.replicate n (Value.int .u8 0) = ((List.replicate n 0).map fun x : Nat => Value.int .u8 (x : Int)).toArray := by simp
    show _ = _
    rw [e]
    exact heap_alloc_new w _) (World.grownBy_alloc w _ none))

/-- the last n bytes of a number, the greatest first -/
def bts (v : Nat) : Nat → List Nat
  | 0 => []
  | i + 1 => (v / 256 ^ i % 256) :: bts v i
theorem length_bts (v : Nat) : ∀ n, (bts v n).length = n
  | 0 => rfl
  | n + 1 => by simp [bts, length_bts v n]

theorem byte_of {xs : List Nat} (hL : Lim 18446744073709551616 xs) (i : Nat) : val 18446744073709551616 xs / 256 ^ i % 256 = xs.getD (i / 8) 0 / 2 ^ (i % 8 * 8) % 256 := by
  have hp : i % 8 * 8 ≤ 56 := by omega
  have e : 256 ^ i = 2 ^ (64 * (i / 8) + i % 8 * 8) := by
    rw [show (256 : Nat) = 2 ^ 8 from rfl, ← Nat.pow_mul]; congr 1; omega
  rw [e, two_pow_limb, Nat.mul_comm, ← Nat.div_div_eq_div_mul]
  generalize i / 8 = k at *
  generalize i % 8 * 8 = p at *
  by_cases hk2 : k < xs.length
  · rw [val_div_pow hL (by omega) k (by omega), List.drop_eq_getElem_cons hk2]
    simp only [val]
    have e2 : xs.getD k 0 = xs[k] := by simp [List.getD, List.getElem?_eq_getElem hk2]
    rw [e2, show (18446744073709551616 : Nat) = 2 ^ p * (256 * 2 ^ (56 - p)) by rw [show (256 : Nat) = 2 ^ 8 from rfl, ← Nat.pow_add, ← Nat.pow_add, show p + (8 + (56 - p)) = 64 by omega], Nat.mul_assoc, Nat.add_mul_div_left _ _ (Nat.two_pow_pos p), Nat.mul_assoc, Nat.add_mul_mod_self_left]
  · have h1 := val_lt hL
    have h2 : (18446744073709551616 : Nat) ^ xs.length ≤ 18446744073709551616 ^ k := Nat.pow_le_pow_right (by omega) (by omega)
    rw [Nat.div_eq_of_lt (show val 18446744073709551616 xs < 18446744073709551616 ^ k by omega)]
    simp [List.getD, List.getElem?_eq_none (show xs.length ≤ k by omega)]

/-- what Write hands back -/
def Wrote (v : Nat) (n : Int) (w : World) (e : Ending) (w' : World) : Prop :=
  ((n < 0 ∨ 65536 < n) ∧ e = .returned (.tuple #[.slice none 0 0, .int .i64 1]) ∧ Below w.heap.size w w') ∨
  ((0 ≤ n ∧ n ≤ 65536 ∧ 8 * n < (bl v : Int)) ∧ e = .returned (.tuple #[.slice none 0 0, .int .i64 12]) ∧ Below w.heap.size w w') ∨
  ((0 ≤ n ∧ n ≤ 65536 ∧ (bl v : Int) ≤ 8 * n) ∧ e = .returned (.tuple #[.slice (some ⟨w.heap.size, 0, none⟩) n.toNat n.toNat, .int .i64 0]) ∧ Ob w' w.heap.size (bts v n.toNat) ∧ Below w.heap.size w w')

theorem write_round {w wr : World} {m j t x p v : Nat} (hm : m = t + 1 + j) (how : Ob wr w.heap.size (List.replicate (m - j) 0 ++ bts v j)) (hbel : Below w.heap.size w wr) (hb : v / 256 ^ j % 256 = x / 2 ^ p % 256) :
    ∃ j' : Nat, j' ≤ m ∧ Value.int .i64 ((j : Int) + 1) = .int .i64 j' ∧ Ob (wr.setCell ⟨w.heap.size, t, none⟩ (.int .u8 ((x : Int) / 2 ^ p % 256))) w.heap.size (List.replicate (m - j') 0 ++ bts v j') ∧
      Below w.heap.size w (wr.setCell ⟨w.heap.size, t, none⟩ (.int .u8 ((x : Int) / 2 ^ p % 256))) := by
  refine ⟨j + 1, by omega, by simp, ?_, hbel.setCell (Nat.le_refl _) _⟩
  have e : ((x : Int) / 2 ^ p % 256) = ((x / 2 ^ p % 256 : Nat) : Int) := by simp
  rw [e, ← hb]
  have h1 := how.set_ t (v / 256 ^ j % 256)
  rw [hm, show t + 1 + j - j = t + 1 by omega, List.replicate_succ', List.append_assoc] at h1
  rw [hm, show t + 1 + j - (j + 1) = t by omega]
  have h2 : (List.replicate t 0 ++ ([0] ++ bts v j)).set t (v / 256 ^ j % 256) = List.replicate t 0 ++ bts v (j + 1) := by
    simp [bts]
  rw [h2] at h1
  exact h1


end Go.Proofs.Ytddpgckbdccldaa
