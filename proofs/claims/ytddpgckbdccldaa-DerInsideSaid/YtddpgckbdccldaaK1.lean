/- law07.DerInside: the walk. -/
import Derived.Test.YtddpgckbdccldaaJ7
import Derived.BigQuiet
namespace Go.Proofs.Ytddpgckbdccldaa
open Go.RowKit
set_option linter.unusedVariables false
set_option linter.unusedSimpArgs false
set_option maxRecDepth 100000
/-- a value of two -/
def both (a b : T) : T := .mk 48 [] [a, b]
theorem both_len (a b : T) : lenT (both a b) = sizT a + sizT b := by
  rw [lenT_eq]; simp [both, T.bs, T.ks, lenL, sizT]
theorem both_by (a b : T) : byT (both a b) = (48 :: lb (sizT a + sizT b)) ++ (byT a ++ byT b) := by
  rw [byT_eq, both_len]
  have : body (both a b) = byT a ++ byT b := by simp [body, both, T.bs, T.ks, byL]
  rw [this]; rfl
theorem both_parts (a b : T) : sizT a + sizT b + 2 ≤ sizT (both a b) ∧ (byT (both a b)).drop (sizT (both a b) - sizT b) = byT b ∧ ((byT (both a b)).drop (sizT (both a b) - sizT b - sizT a)).take (sizT a) = byT a := by
  have h1 : sizT (both a b) = 1 + lbl (sizT a + sizT b) + (sizT a + sizT b) := by unfold sizT; rw [both_len]; rfl
  have h2 : 1 ≤ lbl (sizT a + sizT b) := by unfold lbl; split <;> omega
  have ha : (byT a).length = sizT a := byT_len a
  have hb : (byT b).length = sizT b := byT_len b
  have hp : (48 :: lb (sizT a + sizT b)).length = 1 + lbl (sizT a + sizT b) := by rw [List.length_cons, lb_len]; omega
  refine ⟨by omega, ?_, ?_⟩
  · rw [both_by, ← List.append_assoc, show sizT (both a b) - sizT b = ((48 :: lb (sizT a + sizT b)) ++ byT a).length by rw [List.length_append]; omega, List.drop_left]
  · rw [both_by, show sizT (both a b) - sizT b - sizT a = (48 :: lb (sizT a + sizT b)).length by omega, List.drop_left, ← ha, List.take_left]
theorem both_tr {w : World} {f g : Nat} {h1 h2 : Hd} {a b : T} (H1 : Tr w w.heap.size f h1 a) (H2 : Tr w w.heap.size f h2 b) (hg : g < w.heap.size)
    (c : w.heap[g]? = some (.cells #[.int .i64 h1.t, .slice h1.A h1.n h1.c, .slice h1.K h1.m h1.d, .int .i64 h2.t, .slice h2.A h2.n h2.c, .slice h2.K h2.m h2.d] 25 (0, 0))) :
    Tr w w.heap.size (f + 1) ⟨48, none, 0, 0, some ⟨g, 0, none⟩, 2, 2⟩ (both a b) := by
  refine Tr.mk rfl ⟨by simp only; omega, by simp only; omega⟩ (nb_nil _ _) (by simp only; omega) ⟨rfl, Nat.le_refl _, by show 2 ≤ maxLen; unfold maxLen; omega, by show 2 ≤ _; omega, fun _ => ⟨g, 0, rfl, hg, fun i k hi => ?_⟩⟩
  match i, hi with
  | 0, hi =>
    cases hi
    exact ⟨h1, by rw [cell_of_row w g _ _ 25 (0, 0) c]; rfl, by rw [cell_of_row w g _ _ 25 (0, 0) c]; rfl, by rw [cell_of_row w g _ _ 25 (0, 0) c]; rfl, H1⟩
  | 1, hi =>
    cases hi
    exact ⟨h2, by rw [cell_of_row w g _ _ 25 (0, 0) c]; rfl, by rw [cell_of_row w g _ _ 25 (0, 0) c]; rfl, by rw [cell_of_row w g _ _ 25 (0, 0) c]; rfl, H2⟩
  | i + 2, hi => simp [both, T.ks] at hi
/-- what Write of a right value comes to -/
theorem wto_yes {t : T} {w : World} {e : Ending} {w' : World} (h : Wto t true w e w') : ∃ A n c q, e = .returned (.tuple #[.slice A n c, .int .i64 q]) ∧ Below w.heap.size w w' ∧ (q = 2 ∨ q = 0 ∧ n = sizT t ∧ n ≤ 65535 ∧ Nb w' w'.heap.size A n c (byT t)) := by
  rcases h with ⟨h, _⟩ | ⟨_, _, rfl, b⟩ | ⟨_, hs, A, c, rfl, N, b⟩
  · cases h
  · exact ⟨none, 0, 0, 2, rfl, b, .inl rfl⟩
  · exact ⟨A, _, c, 0, rfl, b, .inr ⟨rfl, rfl, hs, N⟩⟩
theorem wto_any {t : T} {r : Bool} {w : World} {e : Ending} {w' : World} (h : Wto t r w e w') : ∃ A n c q, e = .returned (.tuple #[.slice A n c, .int .i64 q]) ∧ Below w.heap.size w w' ∧ (q = 2 ∨ q = 3 ∨ q = 0 ∧ n = sizT t ∧ n ≤ 65535 ∧ Nb w' w'.heap.size A n c (byT t)) := by
  rcases h with ⟨_, rfl, b⟩ | ⟨_, _, rfl, b⟩ | ⟨_, hs, A, c, rfl, N, b⟩
  · exact ⟨none, 0, 0, 3, rfl, b, .inr (.inl rfl)⟩
  · exact ⟨none, 0, 0, 2, rfl, b, .inl rfl⟩
  · exact ⟨A, _, c, 0, rfl, b, .inr (.inr ⟨rfl, rfl, hs, N⟩)⟩
/-- the end of a slice of bytes -/
theorem cut_lo (A : Option Addr) (n c a : Nat) (han : a ≤ n) (hnc : n ≤ c) :
    ∃ A', (∀ W, (Instr.slice 22 (.slice A n c) (some (.int .i64 (a : Int))) none none).run Try.prog W = .ok (.slice A' (n - a) (c - a)) W) ∧
      (∀ W, (Instr.sliceAt 22 (.slice A n c) (some (.int .i64 (a : Int))) none none).run Try.prog W = .ok (.slice A' (n - a) (c - a)) W) ∧
      ∀ {W : World} {B : Nat} {bs : List Nat}, Nb W B A n c bs → Nb W B A' (n - a) (c - a) (bs.drop a) := by
  refine ⟨if c = a then A else A.map (·.add a), fun W => ?_, fun W => ?_, ?_⟩
  · rw [run_slice_l W 22 A n c und22 .i64 a (by omega) (by omega), size5]
    simp [Result.andThen, sliced]
  · rw [run_sliceAt_slice W 22 _ _ _ _ und22, run_slice_l W 22 A n c und22 .i64 a (by omega) (by omega), size5]
    simp [Result.andThen, sliced]
  · intro W B bs N
    refine ⟨by rw [List.length_drop, N.len], by omega, by have := N.room; omega, fun x hx => N.lim x (List.mem_of_mem_drop hx), fun h0 => ?_⟩
    obtain ⟨b, off, rfl, hb, hc⟩ := N.cell (by omega)
    rw [if_neg (by omega)]
    refine ⟨b, off + a, ?_, hb, fun j x hj => ?_⟩
    · simp only [Option.map_some, Addr.add]
      by_cases ha : a = 0
      · subst ha; simp
      · simp [ha]
    · rw [List.getElem?_drop] at hj
      rw [Nat.add_assoc]
      exact hc _ _ hj
end Go.Proofs.Ytddpgckbdccldaa
