/- wire.Front: the bytes ahead of the Mac. -/
import Derived.Test.YtafpnpfiefbddaaDoorWiR12
namespace Go.Proofs.YtafpnpfiefbddaaDoor.Wi
set_option linter.unusedSimpArgs false
set_option linter.unusedVariables false
open Go.RowKit Go.Shelf
set_option linter.unusedVariables false
set_option maxRecDepth 100000
attribute [local go_sem] Oper.semAt_some
theorem prs_code {xs : List Nat} {a k : Nat} (h : prs xs = .bad a k) : k ≠ 0 ∧ a ≤ xs.length ∧ (xs.length < 48 → xs.length ≤ 8192 → a = xs.length ∧ k = 72) := by
  unfold prs at h
  split at h
  · cases h; exact ⟨by decide, Nat.zero_le _, fun h1 h2 => by omega⟩
  · split at h
    · cases h; exact ⟨by decide, Nat.le_refl _, fun _ _ => ⟨rfl, rfl⟩⟩
    · split at h
      · cases h; exact ⟨by decide, Nat.zero_le _, fun h1 h2 => by omega⟩
      · split at h
        · cases h; exact ⟨by decide, by omega, fun h1 h2 => by omega⟩
        · split at h
          · cases h; exact ⟨by decide, by omega, fun h1 h2 => by omega⟩
          · split at h
            · rename_i a' hgo
              cases h
              refine ⟨by decide, ?_, fun h1 h2 => by omega⟩
              have : ∀ (L : List (Nat × Nat)) (acc : List Ex) (e : Nat), (∀ p ∈ L, p.1 ≤ xs.length) → goF xs L acc e = .inl a → a ≤ xs.length := by
                intro L
                induction L with
                | nil => intro acc e _ h; cases h
                | cons p r ih =>
                  intro acc e hp h
                  unfold goF at h
                  split at h
                  · cases h; exact hp p (by simp)
                  · split at h
                    · cases h; exact hp p (by simp)
                    · exact ih _ _ (fun q hq => hp q (by simp [hq])) h
              exact this _ _ _ (fun p hp => (fds_ok xs _ 48 (by omega) p hp).1) hgo
            · rename_i es en hgo
              split at h
              · cases h
              · cases h
                refine ⟨by decide, ?_, fun h1 h2 => by omega⟩
                have : ∀ (L : List (Nat × Nat)) (acc : List Ex) (e : Nat), (∀ p ∈ L, p.1 ≤ xs.length ∧ p.1 + p.2 ≤ xs.length) → e ≤ xs.length → ∀ es en, goF xs L acc e = .inr (es, en) → en ≤ xs.length := by
                  intro L
                  induction L with
                  | nil => intro acc e _ he es en h; cases h; exact he
                  | cons p r ih =>
                    intro acc e hp he es en h
                    unfold goF at h
                    split at h
                    · cases h
                    · split at h
                      · cases h
                      · exact ih _ _ (fun q hq => hp q (by simp [hq])) (hp p (by simp)).2 _ _ h
                exact this _ _ _ (fun p hp => by have := fds_ok xs _ 48 (by omega) p hp; omega) (by omega) _ _ hgo
def FrPost (xs : List Nat) (w : World) (e : Ending) (w' : World) : Prop :=
  RowKit.Below w.heap.size w w' ∧
  match prs xs with
  | .bad a k => e = .returned (.tuple #[.slice none 0 0, .int .i64 (k : Nat)])
  | .ok h es en => ∃ A c, e = .returned (.tuple #[.slice A en c, .int .i64 0]) ∧ Nb w' w'.heap.size A en c (xs.take en)
set_option maxHeartbeats 4000000 in
theorem front_any {w : World} {n c : Nat} {A : Option Addr} {xs : List Nat} (h : Nb w w.heap.size A n c xs) (hn : n ≤ 1073741824) :
    Calls Tryd.prog 10 #[.slice A n c] w (FrPost xs w) := by
  have hlen := h.len
  have HH := Lib.hid h
  have HR := Lib.hid (parse_rd h hn)
  have hcap := h.cap
  have hA0 : 0 < n → pa A c 0 = A := fun h0 => pa_zero A c fun ad e => by
    obtain ⟨b, off, e2, _⟩ := h.cell h0
    exact ⟨b, off, Option.some.inj (e.symm.trans e2)⟩
  clear h
  go_enter Tryd.func10, Tryd.ntmps10
  go_wp2_with fail
  refine HR.out.mono ?_
  rintro e w1 ⟨b1, p, en, a, k, rfl, hrd⟩
  have HRd := Lib.hid hrd
  have HB1 := Lib.hid b1
  clear hrd b1 HR
  unfold res3
  obtain ⟨V1, hV1⟩ : ∃ V, V = w1.alloc (.cells #[.int .i64 0, .int .i64 0, .int .i64 0, .int .i64 0, .int .i64 0, .int .i64 0, .int .u32 0, .int .u32 0, .int .u32 0, .int .u64 0, .int .u64 0, .int .u64 0, .int .u64 0, .slice none 0 0, .bool false, .int .u32 0, .slice none 0 0] 29) := ⟨_, rfl⟩
  obtain ⟨V2, hV2⟩ : ∃ V, V = V1.alloc (.cells #[.int .i64 0, .int .i64 0] 38) := ⟨_, rfl⟩
  have vs1 : V1.heap.size = w1.heap.size + 1 := by rw [hV1]; simp
  have vx1 : V1.heap[w1.heap.size]? = some (.cells (pkC pk0) 29 (0, 0)) := by rw [hV1]; exact heap_alloc_new w1 _
  have vx : V2.heap[w1.heap.size]? = some (.cells (pkC pk0) 29 (0, 0)) := by rw [hV2]; exact (Below.heap_alloc _ _ _ (by omega)).trans vx1
  have vy : V2.heap[w1.heap.size + 1]? = some (.cells (flC 0 0) 38 (0, 0)) := by rw [hV2, ← vs1]; exact heap_alloc_new V1 _
  have vb : RowKit.Below w1.heap.size w1 V2 := by rw [hV2, hV1]; exact ((Below.refl _ _).alloc (Nat.le_refl _) _).alloc (by simp) _
  have HV := Lib.hid (hV1 ▸ hV2)
  have VX := Lib.hid vx
  have VY := Lib.hid vy
  have VB := Lib.hid vb
  clear hV1 hV2 vs1 vx1 vx vy vb
  go_upto_region 2 with (first
    | (refine wpList_store_row rfl 29 (.tmp 4) (.tmp 10) rfl w1.heap.size (pkC p) rfl rfl 29 _ VX.out s29 rfl (pk_all _) ?_)
    | (refine wpList_store_row rfl 38 (.tmp 6) (.tmp 12) rfl (w1.heap.size + 1) (flC a k) rfl rfl 38 _ ((setRow_other V2 w1.heap.size (w1.heap.size + 1) (pkC p) (by omega)).trans VY.out) s39 rfl (fl_all _ _) ?_)
    | (rw [← HV.out]))
  obtain ⟨D0, hD0⟩ : ∃ D, D = (V2.setRow w1.heap.size (pkC p)).setRow (w1.heap.size + 1) (flC a k) := ⟨_, rfl⟩
  have x6 : D0.heap[w1.heap.size + 1]? = some (.cells (flC a k) 38 (0, 0)) := by
    rw [hD0]
    exact setRow_heap _ _ _ _ _ _ ((setRow_other V2 w1.heap.size (w1.heap.size + 1) (pkC p) (by omega)).trans VY.out)
  have bD : RowKit.Below w1.heap.size w1 D0 := by rw [hD0]; exact below_setRow (below_setRow VB.out (Nat.le_refl _) _) (by omega) _
  rw [← hD0]
  clear hD0 VX VY VB HV
  have BD := Lib.hid (bthen HB1.out bD (Nat.le_refl _))
  have c6 : D0.cell? ⟨w1.heap.size + 1, 1, none⟩ = some (.int .i64 (k : Int)) := by rw [cell_of_row D0 _ 1 _ 38 (0, 0) x6]; rfl
  clear x6 bD
  have hr := HRd.out
  unfold Rd at hr
  cases hp : prs xs with
  | bad a' k' =>
    rw [hp] at hr
    obtain ⟨-, -, rfl, rfl⟩ := hr
    have HP := Lib.hid hp
    have hk : ((k : Int) != 0) = true := by simp; exact (prs_code hp).1
    clear hp
    go_upto_region 3 with fail
    go_quiet (fail)
    generalize hw3 : World.drewN _ _ = w3
    go_wp2_with fail
    go_ret2
    exact ⟨by rw [← hw3]; exact below_drewN' BD.out _, by rw [HP.out]; rfl⟩
  | ok hd es en' =>
    rw [hp] at hr
    obtain ⟨rfl, rfl, rfl, -, -, -, els, ms, -, -, -, -, -, -, -⟩ := hr
    have HP := Lib.hid hp
    obtain ⟨-, -, -, -, -, -, q7, -, -⟩ := prs_rev HH.out.lim hp
    rw [hlen] at q7
    have h48 : 0 < n := by
      obtain ⟨-, -, -, -, -, q6, q7, -, -⟩ := prs_rev HH.out.lim hp
      omega
    have g1 : ∀ W, (Instr.slice 25 (.slice A n c) none (some (.int .i64 (en : Int))) none).run Tryd.prog W = .ok (.slice A en c) W := fun W => by
      have := sl_to A n c en .i64 (by omega) W
      rw [hA0 h48] at this
      exact this
    have hNt : Nb w w.heap.size A en c (xs.take en) := by
      have := HH.out.part 0 en (by omega) q7
      rw [hA0 h48, List.drop_zero, Nat.sub_zero, Nat.sub_zero] at this
      exact this
    have HC := Lib.hid (clone_any (hNt.far BD.out) (Nat.le_refl _) (by omega))
    clear hNt hA0 hp HRd
    go_wp2_with fail
    refine HC.out.mono ?_
    rintro e w3 ⟨A', c', rfl, hn3, -, b3⟩
    have HN3 := Lib.hid hn3
    have HB3 := Lib.hid b3
    clear hn3 b3
    go_wp2_with fail
    go_ret2
    exact ⟨bthen BD.out HB3.out (Nat.le_refl _), by rw [HP.out]; exact ⟨A', c', rfl, HN3.out⟩⟩
end Go.Proofs.YtafpnpfiefbddaaDoor.Wi
