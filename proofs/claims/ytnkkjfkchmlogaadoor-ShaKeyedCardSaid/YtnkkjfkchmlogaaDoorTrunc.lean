/- sha.Trunc. -/
import Derived.Test.YtnkkjfkchmlogaaDoorRef4
namespace Go.Proofs.YtnkkjfkchmlogaaDoor
open Go.RowKit
set_option linter.unusedVariables false
set_option maxRecDepth 100000

theorem splice_all (D : List Nat) (m : Nat) (h : (D.take m).length = m) : splice (bs (List.replicate m 0)) 0 (bs (D.take m)) = bs (D.take m) := by
  unfold splice
  rw [length_bs, h, List.take_zero, List.nil_append, List.drop_eq_nil_of_le (by rw [length_bs, List.length_replicate]; omega), List.append_nil]
set_option maxHeartbeats 1000000 in
theorem trunc_in {w : World} (hk : Ks w) {A : Option Addr} {n c : Nat} {xs : List Nat} (hx : Nb w w.heap.size A n c xs) (hn : n ≤ 1000000) (m : Nat) (hm : m ≤ 32) :
    Calls Tryd.prog 16 #[.slice A n c, .int .i64 (m : Int)] w fun e w' => ∃ A' c', e = .returned (.tuple #[.slice A' m c', .int .i64 0]) ∧ Nb w' w'.heap.size A' m c' ((sha xs).take m) ∧ Below w.heap.size w w' := by
  have hr := hx.room
  have hl := length_sha xs
  have hL := sha_lim xs
  have H := Lib.hid (sum_any hk hx (by omega))
  obtain ⟨D, hD⟩ : ∃ D, sha xs = D := ⟨_, rfl⟩
  rw [hD] at hl hL H ⊢
  have HDl : Hid ((bs D).length = 32) := Lib.hid (by rw [length_bs, hl])
  have hml : (D.take m).length = m := by rw [List.length_take, hl]; omega
  have Hml := Lib.hid hml
  have Hspl := Lib.hid (splice_all D m hml)
  clear hD hml
  go_enter Tryd.func16, Tryd.ntmps16
  go_wp2_with fail
  refine H.out.mono ?_
  rintro e w1 ⟨rfl, b1⟩
  have t0 : Bb (w1.alloc (Yb 26 (List.replicate 32 0))) w1.heap.size 26 (List.replicate 32 0) := alloc_bb _ _ _
  have B2 : Below w.heap.size w ((w1.alloc (Yb 26 (List.replicate 32 0))).setRow w1.heap.size (bs D).toArray) := below_setRow (b1.alloc b1.size _) b1.size _
  have t1 : Bb ((w1.alloc (Yb 26 (List.replicate 32 0))).setRow w1.heap.size (bs D).toArray) w1.heap.size 26 D := setRow_heap _ _ _ _ _ _ t0
  obtain ⟨w2, hw2⟩ : ∃ w2, (w1.alloc (Yb 26 (List.replicate 32 0))).setRow w1.heap.size (bs D).toArray = w2 := ⟨_, rfl⟩
  rw [hw2] at B2 t1
  have Hw2 := Lib.hid hw2
  clear hw2
  have hs2 := B2.size
  have hsl := fun W => slice_sum w1.heap.size W
  have Ht0 := Lib.hid t0
  have Ht1 := Lib.hid t1
  clear t0 t1
  go_wp2_with (first
    | (change wpList _ _ _ _ _ (w1.alloc (Yb 26 (List.replicate 32 0))); refine wpList_store_row rfl rfl 26 (.tmp 6) (.tmp 15) rfl w1.heap.size rfl (bs D) rfl 26 _ Ht0.out (bs_one _) (by rw [HDl.out]; simp [bs]) (by rw [HDl.out]; kernel_rfl) ?_; rw [Hw2.out])
    | (refine wpList_make_bs _ rfl (.tmp 16) (.tmp 16) rfl _ _ m rfl rfl rfl rfl (by omega) ?_; intro w3 hm3 hb3; have B3 := B2.trans (hb3.mono hs2); have t3 := Lib.hid (Ht1.out.below hb3 Ht1.out.lt); have Hm3 := Lib.hid hm3; have hm3l := hm3.lt)
    | (refine wpList_copy_splice rfl (.tmp 18) (.tmp 19) 22 22 rfl 5 Tryd.underlying22 (by kernel_rfl) (some ⟨w2.heap.size, 0, none⟩) (some ⟨w1.heap.size, 0, none⟩) m m 32 32 rfl rfl w2.heap.size 0 (bs (List.replicate m 0)) 5 Hm3.out (bs (D.take m)) (by rw [length_bs, Hml.out]; simp only [Nat.min_def]; split <;> omega) (fun _ => ⟨rfl, _, rfl, fun j v hj => by
          simp only [bs, List.getElem?_map, Option.map_eq_some_iff] at hj
          obtain ⟨y, hy, rfl⟩ := hj
          have hy2 : D[j]? = some y := by
            rw [List.getElem?_take] at hy
            split at hy
            · exact hy
            · cases hy
          have := t3.out.cell hy2
          by_cases hj0 : j = 0
          · subst hj0; simpa [Addr.add] using this
          · simpa [Addr.add, hj0] using this⟩) (by rw [length_bs, length_bs, Hml.out, List.length_replicate]; omega) (bs_one _) w.heap.size w B3 hs2 ?_; intro w4 hw4 B4))
  go_ret2
  have hb4 : Bb w4 w2.heap.size 5 (D.take m) := by
    have := hw4.out
    rw [Hspl.out] at this
    exact this
  have hn4 := hb4.nb 0 m m (by rw [Hml.out]; omega) (Nat.le_refl _) (by omega) (hL.take m)
  rw [List.drop_zero, List.take_of_length_le (Nat.le_of_eq Hml.out)] at hn4
  exact ⟨_, _, rfl, hn4, B4⟩
end Go.Proofs.YtnkkjfkchmlogaaDoor
