/- prime.Passes; iff: lessOne, generates, Right. iff: generates, Right. iff: power, less, markOf. iff: Face, Mark, Answer, Holds, Extract. iff: Holds, Extract. layer 6's statements: heavy, Heavy, small. -/
import Derived.Test.YtkhlmcknbangfaaDoorRd
import Derived.Test.YtkhlmcknbangfaaDoorM15
import Derived.Deep.RegionHeld3
namespace Go.Proofs.YtkhlmcknbangfaaDoor
set_option linter.unusedSimpArgs false
set_option linter.unusedVariables false
open Go.RowKit
set_option linter.unusedVariables false
set_option maxRecDepth 100000

def b12 : List Nat := [2, 3, 5, 7, 11, 13, 17, 19, 23, 29, 31, 37]
theorem lim_b12 : Lim 18446744073709551616 b12 := by
  intro x hx
  simp only [b12, List.mem_cons, List.not_mem_nil, or_false] at hx
  omega
/-- the block of the bases -/
def B12 : Obj := .cells #[.int .u64 2, .int .u64 3, .int .u64 5, .int .u64 7, .int .u64 11, .int .u64 13, .int .u64 17, .int .u64 19, .int .u64 23, .int .u64 29, .int .u64 31, .int .u64 37] 30
theorem nt_b12 {w w1 : World} (e1 : w1 = w.alloc B12) : Nt w1 w1.heap.size (some ⟨w.heap.size, 0, none⟩) 12 12 b12 ∧ Below w.heap.size w w1 := by
  refine ⟨⟨rfl, Nat.le_refl _, by unfold maxLen; omega, lim_b12, fun _ => ⟨w.heap.size, 0, rfl, by rw [e1]; simp, fun j x hj => ?_⟩⟩, e1 ▸ (Below.refl _ w).alloc (Nat.le_refl _) _⟩
  rw [e1, Nat.zero_add]
  unfold B12
  rw [cell_of_row _ _ j _ 30 (0, 0) (heap_alloc_new w _)]
  have hl : j < 12 := by
    rcases Nat.lt_or_ge j 12 with h | h
    · exact h
    · rw [List.getElem?_eq_none (by simp [b12]; omega)] at hj; cases hj
  rcases (show j = 0 ∨ j = 1 ∨ j = 2 ∨ j = 3 ∨ j = 4 ∨ j = 5 ∨ j = 6 ∨ j = 7 ∨ j = 8 ∨ j = 9 ∨ j = 10 ∨ j = 11 by omega) with rfl | rfl | rfl | rfl | rfl | rfl | rfl | rfl | rfl | rfl | rfl | rfl <;> (simp [b12] at hj; subst hj; rfl)
set_option maxHeartbeats 1000000 in
theorem passes_any {w : World} {A : Option Addr} {n c N : Nat} {xs : List Nat} (h : Nt w w.heap.size A n c xs) (hN : val 18446744073709551616 xs = N) (hn : n ≤ 100000) :
    Calls Tryd.prog 41 #[.slice A n c] w fun e w' => e = .returned (.bool (primeN N b12)) ∧ Below w.heap.size w w' := by
  obtain ⟨w1, e1⟩ : ∃ w1, w1 = w.alloc B12 := ⟨_, rfl⟩
  obtain ⟨hB, b1⟩ := nt_b12 e1
  have hp := prime_any (h.up b1) hB (by omega) (by omega)
  rw [hN] at hp
  generalize primeN N b12 = t at *
  have Hp := Lib.hid hp
  clear hp
  go_enter Tryd.func41, Tryd.ntmps41
  go_wp2_with fail
  rw [← show w1 = w.alloc (.cells #[.int .u64 2, .int .u64 3, .int .u64 5, .int .u64 7, .int .u64 11, .int .u64 13, .int .u64 17, .int .u64 19, .int .u64 23, .int .u64 29, .int .u64 31, .int .u64 37] 30) from e1]
  refine Hp.out.mono ?_
  rintro e w2 ⟨rfl, b2⟩
  have B2 := bthen b1 b2
  clear e1
  go_wp2_with fail
  go_ret
  exact ⟨rfl, B2⟩

/-- a struct of three rows that lies in a block of its own -/
structure Bx (w : World) (p : Nat) (v1 v2 v3 : Value) : Prop where
  lt : p < w.heap.size
  c0 : w.cell? ⟨p, 0, none⟩ = some v1
  c1 : w.cell? ⟨p, 1, none⟩ = some v2
  c2 : w.cell? ⟨p, 2, none⟩ = some v3
theorem Bx.up {w w' : World} {p : Nat} {v1 v2 v3 : Value} (h : Bx w p v1 v2 v3) (hb : Below w.heap.size w w') : Bx w' p v1 v2 v3 :=
  ⟨Nat.lt_of_lt_of_le h.lt hb.size, (hb.cell (p := ⟨p, 0, none⟩) h.lt).trans h.c0, (hb.cell (p := ⟨p, 1, none⟩) h.lt).trans h.c1, (hb.cell (p := ⟨p, 2, none⟩) h.lt).trans h.c2⟩
theorem Bx.dr {w : World} {p : Nat} {v1 v2 v3 : Value} (h : Bx w p v1 v2 v3) (d : Nat) : Bx (w.drewN d) p v1 v2 v3 := ⟨h.lt, h.c0, h.c1, h.c2⟩
theorem box_new {w w0 : World} {v1 v2 v3 : Value} {t : TypeId} (e0 : w0 = w.alloc (.cells #[v1, v2, v3] t)) : Bx w0 w.heap.size v1 v2 v3 ∧ Below w.heap.size w w0 := by
  refine ⟨⟨by rw [e0]; simp, ?_, ?_, ?_⟩, e0 ▸ (Below.refl _ w).alloc (Nat.le_refl _) _⟩ <;> (rw [e0, cell_of_row _ _ _ #[v1, v2, v3] t (0, 0) (heap_alloc_new w _)]; rfl)
/-- parameters in memory -/
structure Pr (w : World) (v : Value) (P Q G : Nat) : Prop where
  ex : ∃ A1 n1 c1 x1 A2 n2 c2 x2 A3 n3 c3 x3, v = .agg #[.slice A1 n1 c1, .slice A2 n2 c2, .slice A3 n3 c3] ∧
    Nt w w.heap.size A1 n1 c1 x1 ∧ val 18446744073709551616 x1 = P ∧ n1 ≤ 100 ∧ Nt w w.heap.size A2 n2 c2 x2 ∧ val 18446744073709551616 x2 = Q ∧ n2 ≤ 100 ∧ Nt w w.heap.size A3 n3 c3 x3 ∧ val 18446744073709551616 x3 = G ∧ n3 ≤ 100
theorem Pr.up {w w' : World} {v : Value} {P Q G : Nat} (h : Pr w v P Q G) (hb : Below w.heap.size w w') : Pr w' v P Q G := by
  obtain ⟨A1, n1, c1, x1, A2, n2, c2, x2, A3, n3, c3, x3, rfl, h1, e1, l1, h2, e2, l2, h3, e3, l3⟩ := h.ex
  exact ⟨_, _, _, _, _, _, _, _, _, _, _, _, rfl, h1.up hb, e1, l1, h2.up hb, e2, l2, h3.up hb, e3, l3⟩
theorem Pr.dr {w : World} {v : Value} {P Q G : Nat} (h : Pr w v P Q G) (d : Nat) : Pr (w.drewN d) v P Q G := by
  obtain ⟨A1, n1, c1, x1, A2, n2, c2, x2, A3, n3, c3, x3, rfl, h1, e1, l1, h2, e2, l2, h3, e3, l3⟩ := h.ex
  exact ⟨_, _, _, _, _, _, _, _, _, _, _, _, rfl, h1.dr d, e1, l1, h2.dr d, e2, l2, h3.dr d, e3, l3⟩


end Go.Proofs.YtkhlmcknbangfaaDoor
namespace Go.Proofs.YtkhlmcknbangfaaDoor
open Go.RowKit
set_option linter.unusedVariables false
set_option maxRecDepth 100000

def genN (P Q G : Nat) : Bool := decide (1 < G) && decide (G ^ Q % P = 1)
def rightN (P Q G : Nat) : Bool := decide (bl P ≤ 1024) && (primeN P b12 && (decide (0 < Q) && (decide ((P - 1) % Q = 0) && (primeN Q b12 && (decide (G < P) && genN P Q G)))))
theorem primeN_two {n : Nat} {bs : List Nat} (h : primeN n bs = true) : 2 ≤ n := by
  unfold primeN at h
  simp only [Bool.and_eq_true, decide_eq_true_eq] at h
  exact h.1


end Go.Proofs.YtkhlmcknbangfaaDoor
namespace Go.Proofs.YtkhlmcknbangfaaDoor
open Go.RowKit
set_option linter.unusedVariables false
set_option maxRecDepth 100000


def lessN (a b n : Nat) : Nat := (a % n + n - b % n) % n

theorem lim_bts (v : Nat) : ∀ n, Lim 256 (bts v n)
  | 0 => Lim.nil _
  | n + 1 => fun x hx => by
    rcases List.mem_cons.1 hx with rfl | hx
    · exact Nat.mod_lt _ (by omega)
    · exact lim_bts v n x hx
/-- a number's mark -/
def markN (v : Nat) : List Nat := (Sh.sha (bts v ((bl v + 7) / 8))).take 16
/-- what hands back a mark -/
def MarkIs (v : Nat) (w : World) (w' : World) (A : Option Addr) (c : Nat) : Prop := Sh.Nb w' w'.heap.size A 16 c (markN v) ∧ Below w.heap.size w w'

end Go.Proofs.YtkhlmcknbangfaaDoor
namespace Go.Proofs.YtkhlmcknbangfaaDoor
open Go.RowKit
set_option linter.unusedVariables false
set_option maxRecDepth 100000

theorem rightN_parts {P Q G : Nat} (h : rightN P Q G = true) : 2 ≤ P ∧ 2 ≤ Q ∧ G < P ∧ 1 < G ∧ G ^ Q % P = 1 ∧ (P - 1) % Q = 0 := by
  unfold rightN genN at h
  simp only [Bool.and_eq_true, decide_eq_true_eq] at h
  obtain ⟨_, h1, _, h2, h3, h4, h5, h6⟩ := h
  exact ⟨primeN_two h1, primeN_two h3, h4, h5, h6, h2⟩





end Go.Proofs.YtkhlmcknbangfaaDoor
namespace Go.Proofs.YtkhlmcknbangfaaDoor
open Go.RowKit
set_option linter.unusedVariables false
set_option maxRecDepth 100000

theorem Sh.Nb.go {w w' : World} {A : Option Addr} {n c : Nat} {xs : List Nat} (h : Sh.Nb w w.heap.size A n c xs) (hb : Below w.heap.size w w') : Sh.Nb w' w'.heap.size A n c xs := h.bel hb (Nat.le_refl _)


end Go.Proofs.YtkhlmcknbangfaaDoor
namespace Go.Proofs.YtkhlmcknbangfaaDoor
open Go.RowKit
set_option linter.unusedVariables false
set_option maxRecDepth 100000

theorem Sh.Ks.dr {w : World} (h : Sh.Ks w) (d : Nat) : Sh.Ks (w.drewN d) := ⟨h.size, h.cell⟩
theorem Sh.Nb.dr {w : World} {A : Option Addr} {n c : Nat} {xs : List Nat} (h : Sh.Nb w w.heap.size A n c xs) (d : Nat) : Sh.Nb (w.drewN d) (w.drewN d).heap.size A n c xs := h.drewN d



theorem three_fin {w : World} {g : Nat} {o1 o2 o3 v1 v2 v3 : Value} {t : TypeId} (h : w.heap[g]? = some (.cells #[o1, o2, o3] t (0, 0))) :
    (((w.setCell ⟨g, 0, none⟩ v1).setCell ⟨g, 1, none⟩ v2).setCell ⟨g, 2, none⟩ v3).heap[g]? = some (.cells #[v1, v2, v3] t (0, 0)) := by
  simp [World.setCell, Array.getElem?_modify, h]
theorem three_cells {w : World} {g : Nat} {o1 o2 o3 : Value} {t : TypeId} (h : w.heap[g]? = some (.cells #[o1, o2, o3] t (0, 0))) :
    w.cell? ⟨g, 0, none⟩ = some o1 ∧ w.cell? ⟨g, 1, none⟩ = some o2 ∧ w.cell? ⟨g, 2, none⟩ = some o3 ∧ w.frozen? ⟨g, 0, none⟩ = false ∧ w.frozen? ⟨g, 1, none⟩ = false ∧ w.frozen? ⟨g, 2, none⟩ = false := by
  refine ⟨?_, ?_, ?_, ?_, ?_, ?_⟩
  · rw [cell_of_row w _ 0 _ t (0, 0) h]; rfl
  · rw [cell_of_row w _ 1 _ t (0, 0) h]; rfl
  · rw [cell_of_row w _ 2 _ t (0, 0) h]; rfl
  all_goals simp [World.frozen?, h]
theorem Nt.away {w : World} {B n c g k : Nat} {A : Option Addr} {xs : List Nat} {v : Value} (h : Nt w B A n c xs) (hne : 0 < n → ∀ b off, A = some ⟨b, off, none⟩ → b ≠ g) : Nt (w.setCell ⟨g, k, none⟩ v) B A n c xs :=
  ⟨h.len, h.cap, h.room, h.lim, fun h0 => by
    obtain ⟨b, off, e, hb, hc⟩ := h.cell h0
    exact ⟨b, off, e, hb, fun j x hx => keep_store (hc j x hx) (hne h0 b off e)⟩⟩
theorem Res.ne {w w' : World} {N n c g : Nat} {A : Option Addr} {xs : List Nat} (h : Res w w' N A n c xs) (hg : g < w.heap.size) : 0 < n → ∀ b off, A = some ⟨b, off, none⟩ → b ≠ g := fun h0 b off e => by
  obtain ⟨g', _, e', hg', _⟩ := h.fresh h0
  rw [e'] at e
  injection e with e
  injection e with e1
  omega
theorem Nt.away3 {w : World} {B n c g : Nat} {A : Option Addr} {xs : List Nat} {v1 v2 v3 : Value} (h : Nt w w.heap.size A n c xs) (hne : 0 < n → ∀ b off, A = some ⟨b, off, none⟩ → b ≠ g) :
    Nt (((w.setCell ⟨g, 0, none⟩ v1).setCell ⟨g, 1, none⟩ v2).setCell ⟨g, 2, none⟩ v3) (((w.setCell ⟨g, 0, none⟩ v1).setCell ⟨g, 1, none⟩ v2).setCell ⟨g, 2, none⟩ v3).heap.size A n c xs := by
  rw [size_setCell, size_setCell, size_setCell]
  exact ((h.away hne).away hne).away hne

end Go.Proofs.YtkhlmcknbangfaaDoor
