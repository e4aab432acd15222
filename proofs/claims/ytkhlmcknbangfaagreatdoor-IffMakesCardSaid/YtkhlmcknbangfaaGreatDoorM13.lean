/- modn: question, Tells. -/
import Derived.Test.YtkhlmcknbangfaaGreatDoorM12
namespace Go.Proofs.YtkhlmcknbangfaaGreatDoor
set_option linter.unusedSimpArgs false
set_option linter.unusedVariables false
open Go.RowKit
set_option linter.unusedVariables false
set_option maxRecDepth 100000

theorem Nt.alloc {w : World} {B n c : Nat} {A : Option Addr} {xs : List Nat} (h : Nt w B A n c xs) (o : Obj) (hB : B ≤ w.heap.size := by exact Nat.le_refl _) : Nt (w.alloc o) B A n c xs := h.below ((Below.refl _ _).alloc hB o)
theorem new_cell1 (W : World) (d : Nat) (v : Value) (t : TypeId) : ((W.drewN d).alloc (.cells #[v] t)).cell? ⟨W.heap.size, 0, none⟩ = some v := by
  exact (cell_of_row ((W.drewN d).alloc (.cells #[v] t)) (W.drewN d).heap.size 0 #[v] t (0, 0) (heap_alloc_new (W.drewN d) _)).trans rfl
theorem keep_store {W : World} {p q : Addr} {v u : Value} (h : W.cell? p = some v) (hne : p.block ≠ q.block) : (W.setCell q u).cell? p = some v := by
  exact (World.cell?_setCell_other _ _ _ _ (fun e => hne (by rw [e]))).trans h
theorem new_cell2 (W : World) (d : Nat) (v : Value) (t : TypeId) : ((W.alloc (.cells #[v] t)).drewN d).cell? ⟨W.heap.size, 0, none⟩ = some v := by
  rw [cell_of_row ((W.alloc (.cells #[v] t)).drewN d) _ 0 #[v] t (0, 0) (heap_alloc_new W _)]; rfl
theorem new_free1 (W : World) (d : Nat) (v : Value) (t : TypeId) : ((W.drewN d).alloc (.cells #[v] t)).frozen? ⟨W.heap.size, 0, none⟩ = false := by
  have := heap_alloc_new (W.drewN d) (.cells #[v] t)
  unfold World.frozen?
  rw [show W.heap.size = (W.drewN d).heap.size from rfl, this]
  rfl
theorem new_free2 (W : World) (d : Nat) (v : Value) (t : TypeId) : ((W.alloc (.cells #[v] t)).drewN d).frozen? ⟨W.heap.size, 0, none⟩ = false := by
  have := heap_alloc_new W (.cells #[v] t)
  unfold World.frozen?
  rw [show ((W.alloc (.cells #[v] t)).drewN d).heap = (W.alloc (.cells #[v] t)).heap from rfl, this]
  rfl
/-- what question hands back -/
def Asks (n M : Nat) (w : World) (e : Ending) (w' : World) : Prop := ∃ f, e = .returned f ∧ Ques w' n M f ∧ Below w.heap.size w w'

set_option maxHeartbeats 4000000 in
theorem question_even {w : World} {A : Option Addr} {n c : Nat} {xs : List Nat} (h : Nt w w.heap.size A n c xs) (hn : n ≤ 1099511) (M : Nat) (hev : val 18446744073709551616 xs % 2 = 0 ∨ val 18446744073709551616 xs < 2) :
    Calls Tryz.prog 162 #[.slice A n c] w (Asks (val 18446744073709551616 xs) M w) := by
  have hmf : ∀ (fn : Fn) (first cap : Array Value) (w : World), (Instr.makeFunc fn first cap).run Tryz.prog w = .ok (.func fn first cap) w := fun _ _ _ _ => rfl
  obtain ⟨N, hN⟩ : ∃ N, val 18446744073709551616 xs = N := ⟨_, rfl⟩
  rw [hN] at hev
  rw [hN]
  obtain ⟨w1, e1⟩ : ∃ w1, w1 = w.alloc (Obj.cells #[Value.slice A n c] 22) := ⟨_, rfl⟩
  have hbx : w1.heap[w.heap.size]? = some (.cells #[Value.slice A n c] 22 (0, 0)) := e1 ▸ heap_alloc_new w _
  have hc1 : w1.cell? ⟨w.heap.size, 0, none⟩ = some (Value.slice A n c) := by rw [cell_of_row w1 _ 0 _ 22 (0, 0) hbx]; rfl
  have hb0 : Below w.heap.size w w1 := e1 ▸ (Below.refl _ w).alloc (Nat.le_refl _) _
  have hs1 : w.heap.size < w1.heap.size := by rw [e1]; simp
  have h1 := h.up hb0
  have hbt := bit_any h1 0 (by omega)
  rw [show btN (val 18446744073709551616 xs) 0 = val 18446744073709551616 xs / 2 ^ 0 % 2 from btN_of rfl, Nat.pow_zero, Nat.div_one, hN] at hbt
  have Hbt := Lib.hid hbt
  clear hbt
  go_enter Tryz.func162, Tryz.ntmps162
  go_wp2_with fail
  rw [← e1]
  have E1 := Lib.hid e1
  clear e1
  refine Hbt.out.mono ?_
  rintro e w2 ⟨rfl, rfl⟩
  have nc1 := new_cell1
  have nc2 := new_cell2
  have nf1 := new_free1
  have nf2 := new_free2
  have d1 : w1.drew.cell? ⟨w.heap.size, 0, none⟩ = some (Value.slice A n c) := hc1
  have h1d := h1.drew
  have hbd := hb0.drew
  rcases Nat.mod_two_eq_zero_or_one N with h0 | h0
  · rw [h0]
    go_wp2_with fail
    go_region_held3 (fun w' => w'.cell? ⟨w.heap.size, 0, none⟩ = some (Value.slice A n c))
      (first | assumption | go_keep | exact keep_store (by assumption) (by simp; omega))
      ((first
      | (go_at_call 23; refine (of_any 2 _ rfl (by omega) _).mono ?_; rintro e w2 ⟨A4, n4, c4, x4, rfl, r4⟩
         have b2 := bthen (by first | exact hbd | exact hbd.alloc (Nat.le_of_lt hs1) _) r4.bel
         have e2 : w2.cell? ⟨w.heap.size, 0, none⟩ = some (Value.slice A n c) := (r4.bel.cell (p := ⟨w.heap.size, 0, none⟩) (by simp; omega)).trans (by assumption)
         have s2 : w.heap.size < w2.heap.size := Nat.lt_of_lt_of_le (by simp; omega) r4.bel.size
         try have q2 : w2.heap[w1.heap.size]? = some (.cells #[.bool false] 4 (0, 0)) := (r4.bel.block _ (by simp)).trans (heap_alloc_new _ _))
      | (go_at_call 26; refine (cmp_same (B := w2.heap.size) (by first | exact h.up b2 | exact (h.up b2).alloc _) (by first | exact r4.nt | exact r4.nt.alloc _)).mono ?_; rintro e w3 ⟨t, rfl, ht, d, rfl⟩
         try have q3 : (w2.drewN d).cell? ⟨w1.heap.size, 0, none⟩ = some (.bool false) := by rw [cell_of_row (w2.drewN d) _ 0 _ 4 (0, 0) q2]; rfl
         try have q4 : (w2.drewN d).frozen? ⟨w1.heap.size, 0, none⟩ = false := by simp [World.frozen?, World.drewN, q2])))
    all_goals
      have htn : (t != 0) = decide (N ≠ 2) := by
        rw [hN, r4.is] at ht
        by_cases h2 : N = 2
        · simp [h2, ht.2 h2]
        · have : t ≠ 0 := fun h => h2 (ht.1 h)
          simp [h2, this]
      obtain ⟨b, hb⟩ : ∃ b, decide (N ≠ 2) = b := ⟨_, rfl⟩
      rw [hb] at htn
      rw [htn]
      have Hb := Lib.hid hb
      clear hb ht htn
      go_wp2
      go_ret
      refine ⟨_, rfl, .a _ ?_ ?_ hev, ?_⟩
      · first
          | (simp [World.setCell]; done)
          | (have := (Array.getElem?_eq_some_iff.1 q2).1; simpa [World.setCell] using this)
      · rw [Hb.out]
        first
          | exact World.cell?_setCell_same _ _ _ (nc1 _ _ _ _)
          | exact World.cell?_setCell_same _ _ _ (nc2 _ _ _ _)
          | exact World.cell?_setCell_same _ _ _ q3
      · first
          | exact ((below_drewN b2 d).alloc (Nat.le_of_lt s2) _).setCell (Nat.le_of_lt s2) _
          | exact (below_drewN (b2.alloc (Nat.le_of_lt s2) _) d).setCell (Nat.le_of_lt s2) _
          | exact (below_drewN b2 d).setCell (Nat.le_of_lt hs1) _
  · rw [h0]
    have hN2 : N < 2 := by omega
    have hb1 : bl N = 1 := by
      have : N = 1 := by omega
      subst this
      decide
    have hbits := bits_any h1 (by omega)
    rw [hN, hb1] at hbits
    go_wp2_with fail
    refine hbits.mono ?_
    rintro e w2 ⟨rfl, rfl⟩
    go_wp2_with fail
    go_region_held3 (fun w' => w'.cell? ⟨w.heap.size, 0, none⟩ = some (Value.slice A n c))
      (first | assumption | go_keep | exact keep_store (by assumption) (by simp; omega))
      ((first
      | (go_at_call 23; refine (of_any 2 _ rfl (by omega) _).mono ?_; rintro e w2 ⟨A4, n4, c4, x4, rfl, r4⟩
         have b2 := bthen (by first | exact hbd | exact hbd.alloc (Nat.le_of_lt hs1) _) r4.bel
         have e2 : w2.cell? ⟨w.heap.size, 0, none⟩ = some (Value.slice A n c) := (r4.bel.cell (p := ⟨w.heap.size, 0, none⟩) (by simp; omega)).trans (by assumption)
         have s2 : w.heap.size < w2.heap.size := Nat.lt_of_lt_of_le (by simp; omega) r4.bel.size
         try have q2 : w2.heap[w1.heap.size]? = some (.cells #[.bool false] 4 (0, 0)) := (r4.bel.block _ (by simp)).trans (heap_alloc_new _ _))
      | (go_at_call 26; refine (cmp_same (B := w2.heap.size) (by first | exact h.up b2 | exact (h.up b2).alloc _) (by first | exact r4.nt | exact r4.nt.alloc _)).mono ?_; rintro e w3 ⟨t, rfl, ht, d, rfl⟩
         try have q3 : (w2.drewN d).cell? ⟨w1.heap.size, 0, none⟩ = some (.bool false) := by rw [cell_of_row (w2.drewN d) _ 0 _ 4 (0, 0) q2]; rfl
         try have q4 : (w2.drewN d).frozen? ⟨w1.heap.size, 0, none⟩ = false := by simp [World.frozen?, World.drewN, q2])))
    all_goals
      have htn : (t != 0) = decide (N ≠ 2) := by
        rw [hN, r4.is] at ht
        by_cases h2 : N = 2
        · simp [h2, ht.2 h2]
        · have : t ≠ 0 := fun h => h2 (ht.1 h)
          simp [h2, this]
      obtain ⟨b, hb⟩ : ∃ b, decide (N ≠ 2) = b := ⟨_, rfl⟩
      rw [hb] at htn
      rw [htn]
      have Hb := Lib.hid hb
      clear hb ht htn
      go_wp2
      go_ret
      refine ⟨_, rfl, .a _ ?_ ?_ hev, ?_⟩
      · first
          | (simp [World.setCell]; done)
          | (have := (Array.getElem?_eq_some_iff.1 q2).1; simpa [World.setCell] using this)
      · rw [Hb.out]
        first
          | exact World.cell?_setCell_same _ _ _ (nc1 _ _ _ _)
          | exact World.cell?_setCell_same _ _ _ (nc2 _ _ _ _)
          | exact World.cell?_setCell_same _ _ _ q3
      · first
          | exact ((below_drewN b2 d).alloc (Nat.le_of_lt s2) _).setCell (Nat.le_of_lt s2) _
          | exact (below_drewN (b2.alloc (Nat.le_of_lt s2) _) d).setCell (Nat.le_of_lt s2) _
          | exact (below_drewN b2 d).setCell (Nat.le_of_lt hs1) _
end Go.Proofs.YtkhlmcknbangfaaGreatDoor
