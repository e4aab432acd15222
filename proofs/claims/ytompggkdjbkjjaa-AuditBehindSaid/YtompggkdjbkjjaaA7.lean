/- audit: the places that wait under a key. -/
import Derived.Test.YtompggkdjbkjjaaA6
import Derived.ArgAppend
import Derived.DeepKeys5
namespace Go.Proofs.Ytompggkdjbkjjaa
open Go.RowKit Go.Maps Go.MapKept Go.ChangeMaps
open Go.WideMaps (KeyLaw)
set_option linter.unusedVariables false
set_option maxRecDepth 100000
def is (xs : List Nat) : List Value := xs.map fun x : Nat => .int .i64 (x : Int)
/-- the slice v holds the places xs, in a row from base on that may be written behind them -/
def Sv (w : World) (base : Nat) (v : Value) (xs : List Nat) : Prop :=
  (v = .slice none 0 0 ∧ xs = []) ∨ ∃ g off c, v = .slice (some ⟨g, off, none⟩) xs.length c ∧ base ≤ g ∧ g < w.heap.size ∧ xs.length ≤ c ∧ c ≤ maxLen ∧
    (∀ i, i < c → (w.cell? ⟨g, off + i, none⟩).isSome = true ∧ w.frozen? ⟨g, off + i, none⟩ = false) ∧ ∀ i x : Nat, xs[i]? = some x → w.cell? ⟨g, off + i, none⟩ = some (.int .i64 (x : Int))
theorem Sv.keep {w w' : World} {base : Nat} {v : Value} {xs : List Nat} (h : Sv w base v xs) (hs : w.heap.size ≤ w'.heap.size) (hk : ∀ k, v.ownBlock = some k → k < w.heap.size → w'.heap[k]? = w.heap[k]?) : Sv w' base v xs := by
  refine h.imp id ?_
  rintro ⟨g, off, c, rfl, h1, h2, h3, h4, h5, h6⟩
  have e := hk g rfl h2
  refine ⟨g, off, c, rfl, h1, by omega, h3, h4, fun i hi => ?_, fun i x hx => ?_⟩
  · rw [World.cell?_of_block (a := ⟨g, off + i, none⟩) e, World.frozen?_of_block (a := ⟨g, off + i, none⟩) e]
    exact h5 i hi
  · rw [World.cell?_of_block (a := ⟨g, off + i, none⟩) e]
    exact h6 i x hx
theorem Sv.blk_lt {w : World} {base : Nat} {v : Value} {xs : List Nat} (h : Sv w base v xs) : ∀ k, v.ownBlock = some k → base ≤ k ∧ k < w.heap.size := by
  intro k hk
  rcases h with ⟨rfl, _⟩ | ⟨g, off, c, rfl, h1, h2, _⟩
  · cases hk
  · cases hk; exact ⟨h1, h2⟩
theorem is_get {xs : List Nat} {i x : Nat} (h : xs[i]? = some x) : (is xs)[i]? = some (.int .i64 (x : Int)) := by simp [is, h]
theorem is_olds {xs : List Nat} {j : Nat} {u : Value} (h : (is xs)[j]? = some u) : ∃ x : Nat, xs[j]? = some x ∧ u = .int .i64 (x : Int) := by
  simp only [is, List.getElem?_map, Option.map_eq_some_iff] at h
  obtain ⟨x, hx, rfl⟩ := h
  exact ⟨x, hx, rfl⟩
theorem Sv.of_own {w : World} {base : Nat} {v : Value} {xs : List Nat} (h : w.ownsRow base 3 1 v xs.length (is xs)) : Sv w base v xs := by
  rcases h.2 with ⟨rfl, h0⟩ | ⟨g, cap, cur, rfl, h1, hh, h3, h4, h5, h6⟩
  · exact .inl ⟨rfl, List.eq_nil_of_length_eq_zero h0⟩
  · refine .inr ⟨g, 0, cap, rfl, h1, ?_, h3, h4, fun i hi => ?_, fun i x hx => ?_⟩
    · rcases Nat.lt_or_ge g w.heap.size with hlt | hge
      · exact hlt
      · rw [Array.getElem?_eq_none hge] at hh; cases hh
    · rw [cell_of_row w g _ cur 3 (0, 0) hh, frozen_of_row w g _ cur 3 hh, Nat.zero_add]
      exact ⟨by simp; omega, rfl⟩
    · rw [cell_of_row w g _ cur 3 (0, 0) hh, Nat.zero_add]
      have := is_get hx
      rw [← h6, List.getElem?_take] at this
      split at this
      · simpa using this
      · cases this
theorem i3 : (Try.prog.info? 3).map (fun i => (i.zero, i.size, i.bytes)) = some (some (.int .i64 0), 1, 8) := by kernel_rfl
/-- a place behind them -/
theorem Sv.push {w : World} {base : Nat} {v : Value} {xs : List Nat} (h : Sv w base v xs) (hb : base ≤ w.heap.size) (hn : xs.length ≤ 1000000) (ty : TypeId) {a y : Nat} {t2 : TypeId} (hc : w.heap[a]? = some (.cells #[.int .i64 (y : Int)] t2 (0, 0))) :
    ∃ v' w', (Builtin.append_ #[30, 30] ty #[v, .slice (some ⟨a, 0, none⟩) 1 1]).run Try.prog w = .ok v' w' ∧ Sv w' base v' (xs ++ [y]) ∧ w.grownBy w' v.ownBlock ∧ (v'.ownBlock = v.ownBlock ∨ ∃ k, v'.ownBlock = some k ∧ w.heap.size ≤ k) := by
  obtain ⟨i0, hi, hz0, hz1, hz2⟩ := info_parts i3
  have hnews : ∀ j u, [Value.int .i64 (y : Int)][j]? = some u → w.cell? ((⟨a, 0, none⟩ : Addr).add j) = some u := World.news_of_block hc
  have h1 : ∀ u ∈ [Value.int .i64 (y : Int)], u.oneCell' = true := by intro u hu; simp at hu; subst hu; rfl
  rcases h with ⟨rfl, rfl⟩ | ⟨g, off, c, rfl, hbg, hg, hlc, hcm, hcell, hval⟩
  · obtain ⟨v', w', hr, h2, h3, h4, h5⟩ := run_append_own_at (P := Try.prog) w base 30 ty 3 i0 (.int .i64 0) 1 8 Try.underlying30 hi hz0 hz1 hz2 rfl (by decide) (.slice none 0 0) 0 [] (World.ownsRow_nil _ _ _ _) ⟨a, 0, none⟩ 1 1 [.int .i64 (y : Int)] rfl hnews h1 (by unfold maxLen; omega) (by omega) hb
    exact ⟨v', w', hr, Sv.of_own (xs := [y]) h2, h3, h5.imp id fun e => ⟨_, e, Nat.le_refl _⟩⟩
  · by_cases hroom : xs.length + 1 ≤ c
    · have hr := run_append_room_cells (P := Try.prog) w 30 ty 3 i0 Try.underlying30 hi g off xs.length c ⟨a, 0, none⟩ 1 1 [.int .i64 (y : Int)] (by rw [hz1]; rfl) hnews h1 hroom
        (fun j hj => by simp at hj; subst hj; rw [hz1]; simpa using (hcell xs.length (by omega)).1) (fun j hj => by simp at hj; subst hj; rw [hz1]; simpa using (hcell xs.length (by omega)).2)
      rw [hz1, Nat.mul_one] at hr
      refine ⟨_, _, hr, .inr ⟨g, off, c, by simp, hbg, ?_, by simpa using hroom, hcm, fun i hi => ?_, fun i x hx => ?_⟩, ?_, .inl rfl⟩
      · show g < (w.setCell _ _).heap.size
        simpa [World.setCell] using hg
      · show ((w.setCell ⟨g, off + xs.length, none⟩ _).cell? _).isSome = true ∧ (w.setCell _ _).frozen? _ = false
        rw [World.frozen?_setCell]
        refine ⟨?_, (hcell i hi).2⟩
        by_cases e : i = xs.length
        · subst e; rw [World.cell?_setCell_same' _ _ _ (hcell _ hi).1]; rfl
        · rw [World.cell?_setCell_other _ _ _ _ (by intro e2; simp at e2; try exact e e2.symm)]; exact (hcell i hi).1
      · show (w.setCell ⟨g, off + xs.length, none⟩ _).cell? _ = _
        by_cases e : i = xs.length
        · subst e
          rw [World.cell?_setCell_same' _ _ _ (hcell _ hroom).1]
          simp at hx; rw [hx]
        · rw [World.cell?_setCell_other _ _ _ _ (by intro e2; simp at e2; try exact e e2.symm)]
          refine hval i x ?_
          rw [List.getElem?_append] at hx
          split at hx
          · exact hx
          · have : i - xs.length = 0 ∨ 0 < i - xs.length := by omega
            rcases this with h0 | h0
            · omega
            · rw [List.getElem?_eq_none (by simp; omega)] at hx; cases hx
      · exact ⟨rfl, rfl, rfl, by show _ ≤ (w.setCell _ _).heap.size; simp [World.setCell], fun k _ hk => Below.heap_setCell _ _ _ _ (fun e => hk (by simp [Value.ownBlock, e]))⟩
    · have holds : ∀ j u, (is xs)[j]? = some u → w.cell? ((⟨g, off, none⟩ : Addr).add j) = some u := fun j u hj => by
        obtain ⟨x, hx, rfl⟩ := is_olds hj
        rw [Addr.add_lit]; exact hval j x hx
      obtain ⟨v', w', hr, h2, h3⟩ := run_append_arg_grows (P := Try.prog) w 30 ty 3 i0 (.int .i64 0) 1 8 Try.underlying30 hi hz0 hz1 hz2 rfl (by decide) ⟨g, off, none⟩ xs.length c (is xs) (by simp [is]) holds ⟨a, 0, none⟩ 1 1 [.int .i64 (y : Int)] rfl hnews (by omega) (by unfold maxLen; omega) (by omega)
      have h2' : w'.ownsRow w.heap.size 3 1 v' (xs ++ [y]).length (is (xs ++ [y])) := by simpa [is] using h2
      have hsv := Sv.of_own h2'
      refine ⟨v', w', hr, ?_, ⟨h3.os, h3.tape, h3.output, h3.size, fun k hk _ => h3.block k hk (by simp)⟩, .inr ?_⟩
      · rcases hsv with ⟨_, h0⟩ | ⟨g', off', c', e, hb', hr'⟩
        · simp at h0
        · exact .inr ⟨g', off', c', e, by omega, hr'⟩
      · rcases hsv with ⟨_, h0⟩ | ⟨g', off', c', e, hb', hr'⟩
        · simp at h0
        · exact ⟨g', by rw [e]; rfl, hb'⟩
end Go.Proofs.Ytompggkdjbkjjaa
