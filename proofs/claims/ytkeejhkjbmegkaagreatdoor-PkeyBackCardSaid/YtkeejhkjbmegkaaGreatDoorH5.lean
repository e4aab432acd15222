/- pkey: Public, Verify. -/
import Derived.Test.YtkeejhkjbmegkaaGreatDoorHs
namespace Go.Proofs.YtkeejhkjbmegkaaGreatDoor
open Go.RowKit
set_option linter.unusedVariables false
set_option maxRecDepth 100000

set_option maxHeartbeats 1000000 in
theorem copied_any {w : World} {A : Option Addr} {n c : Nat} {xs : List Nat} (h : Nt w w.heap.size A n c xs) (hn : n ≤ 1000) :
    Calls Tryz.prog 55 #[.slice A n c] w fun e w' => ∃ A5, e = .returned (.slice A5 n n) ∧ Nt w' w'.heap.size A5 n n xs ∧ Below w.heap.size w w' := by
  have hr := h.rooms
  go_enter Tryz.func55, Tryz.ntmps55
  go_wp2_with (first
    | (refine wpList_make_us _ rfl _ _ rfl _ _ n rfl rfl (by omega) (by omega) (by omega) ?_; intro w1 hw1 hg1)
    | (refine wpList_copy_us rfl _ _ rfl rfl rfl hw1 (by simp) (h.below (below_none hg1 (Nat.le_refl _))) (by omega) ?_; intro w2 hw2 hg2))
  go_ret
  have hb := (below_none hg1 (Nat.le_refl _)).grown hg2 hg1.size (fun k hk => by cases hk; exact Nat.le_refl _)
  rw [List.drop_replicate, Nat.sub_self, List.replicate_zero, List.append_nil] at hw2
  exact ⟨_, rfl, (hw2.whole (by rw [h.len]; unfold maxLen; omega) h.lim h.len.symm).more hw2.lt, hb⟩
set_option maxHeartbeats 4000000 in
theorem public_any {w : World} {v : Value} {N E D : Nat} (h : Pr w v N E D) :
    Calls Tryz.prog 19 #[v] w fun e w' => ∃ v', e = .returned v' ∧ Pr w' v' N E 0 ∧ Below w.heap.size w w' := by
  obtain ⟨A1, n1, c1, x1, A2, n2, c2, x2, A3, n3, c3, x3, rfl, h1', e1, l1, h2', e2, l2, h3', e3, l3⟩ := h.ex
  clear h
  obtain ⟨w0, e0⟩ : ∃ w0, w0 = w.alloc (.cells #[Value.slice A1 n1 c1, .slice A2 n2 c2, .slice A3 n3 c3] 24) := ⟨_, rfl⟩
  obtain ⟨hx0, b0⟩ := box_new e0
  have hsz : w0.heap.size = w.heap.size + 1 := by rw [e0]; simp
  obtain ⟨wz, ez⟩ : ∃ wz, wz = w0.alloc (.cells #[Value.slice none 0 0, .slice none 0 0, .slice none 0 0] 24) := ⟨_, rfl⟩
  have hz0 : wz.heap[w.heap.size + 1]? = some (.cells #[Value.slice none 0 0, .slice none 0 0, .slice none 0 0] 24 (0, 0)) := by rw [ez, ← hsz]; exact heap_alloc_new w0 _
  have hzs : w.heap.size + 1 < wz.heap.size := by rw [ez]; simp [hsz]
  have bz : Below w0.heap.size w0 wz := ez ▸ (Below.refl _ w0).alloc (Nat.le_refl _) _
  have bd : Below wz.heap.size wz wz.drew := (Below.refl _ _).drew
  have h1 := ((h1'.up b0).up bz).drew
  have h2 := ((h2'.up b0).up bz).drew
  have hy := hx0.up bz
  have hyd : Bx wz.drew w.heap.size (.slice A1 n1 c1) (.slice A2 n2 c2) (.slice A3 n3 c3) := ⟨hy.lt, hy.c0, hy.c1, hy.c2⟩
  have z0 := hyd.c0
  have z1 := hyd.c1
  clear h1' h2' h3' hx0 hy
  go_enter Tryz.func19, Tryz.ntmps19
  go_wp2_with fail
  rw [← e0]
  clear e0
  rw [← ez]
  clear ez
  go_region_with ((first
      | (go_at_call 55; with_reducible refine (copied_any h1 (by omega)).mono ?_; rintro e w3 ⟨A5, rfl, m3, b3⟩
         have g3 := hyd.up b3
         have g30 := g3.c0
         have g31 := g3.c1)
      | (go_at_call 55; with_reducible refine (copied_any (h2.up b3) (by omega)).mono ?_; rintro e w4 ⟨A6, rfl, m4, b4⟩
         have B4 := bthen (bthen bd b3) b4
         have hx := (B4.block (w.heap.size + 1) hzs).trans hz0
         have g4 := g3.up b4
         have g40 := g4.c0
         have g41 := g4.c1
         obtain ⟨q0, q1, q2, q3, q4, q5⟩ := three_cells hx)))
  all_goals
    go_wp2_with fail
    refine bodyPost_ret (results_cell_row rfl _ _ (w.heap.size + 1) 24 _ (0, 0) _ rfl (three_fin hx) Tryz.underlying24 rfl (by kernel_rfl)) rfl ?_
    have hb := (((bthen b0 (bthen bz B4)).setCell (p := ⟨w.heap.size + 1, 0, none⟩) (by simp) (.slice A5 n1 n1)).setCell (p := ⟨w.heap.size + 1, 1, none⟩) (by simp) (.slice A6 n2 n2)).setCell (p := ⟨w.heap.size + 1, 2, none⟩) (by simp) (.slice none 0 0)
    exact ⟨_, rfl, ⟨_, _, _, _, _, _, _, _, _, _, _, _, rfl, (m3.up b4).away3 (B := 0) ((m3.up b4).not_in hx), e1, l1, m4.away3 (B := 0) (m4.not_in hx), e2, l2, nt_nil _ _, rfl, by omega⟩, hb⟩
end Go.Proofs.YtkeejhkjbmegkaaGreatDoor
