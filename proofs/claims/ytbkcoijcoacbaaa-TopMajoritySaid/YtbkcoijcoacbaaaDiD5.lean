/- disc: Update and Slew, whatever the input; the fixed calls. -/
import Derived.Test.YtbkcoijcoacbaaaDiD4
namespace Go.Proofs.Ytbkcoijcoacbaaa.Di
open Go.RowKit
set_option linter.unusedVariables false
set_option linter.unusedSimpArgs false
set_option maxRecDepth 100000
theorem upd_any (c : Ck) (o t : Int) (w : World) : Ck.UpdIs c o t (c.upd o t) w := by
  obtain ⟨f, l, a, p, s⟩ := c
  unfold Ck.upd
  by_cases hm : Ck.may ⟨f, l, a, p, s⟩
  · by_cases ho : inB 1152921504606846976 o
    · by_cases ht : inB 1152921504606846976 t
      · rw [if_neg (fun h => h ⟨hm, ho, ht⟩)]
        cases s
        · rw [if_pos rfl]
          exact upd_new hm ho ht w
        · rw [if_neg (fun h => by cases h)]
          by_cases hp : inB 4294967296000 o
          · rw [if_neg (fun h => h hp)]
            by_cases hl : t < a
            · rw [if_pos hl]
              exact upd_old hm ho ht hp hl w
            · rw [if_neg hl]
              by_cases hq : inB 549755814 o
              · rw [if_neg (fun h => h hq)]
                exact upd_slew hm ho ht hp (by simp only [hl]) hq w
              · rw [if_pos hq]
                exact upd_step hm ho ht hp (by simp only [hl]) hq w
          · rw [if_pos hp]
            exact upd_panic hm ho ht hp w
      · rw [if_pos (fun h => ht h.2.2)]
        exact upd_e3 hm ho ht w
    · rw [if_pos (fun h => ho h.2.1)]
      exact upd_e2 hm ho w
  · rw [if_pos (fun h => hm h.1)]
    exact upd_e1 hm w
def Ck.sle (c : Ck) (n : Int) : Ck × Int × Int := if c.slewOk n then (c.slewed n, c.moved n, 0) else (Ck.zero, 0, 1)
def Ck.SleIs (c : Ck) (n : Int) (r : Ck × Int × Int) (w : World) : Prop :=
    Calls Try.prog 21 #[.agg #[.int .i64 c.f, .int .i64 c.l, .int .i64 c.a, .int .i64 c.p, .bool c.s], .int .i64 n] w fun e w' => e = .returned (.tuple #[r.1.val, .int .i64 r.2.1, .int .i64 r.2.2]) ∧ RowKit.Below w.heap.size w w'
theorem sle_any (c : Ck) (n : Int) (w : World) : Ck.SleIs c n (c.sle n) w := by
  unfold Ck.SleIs Ck.sle
  by_cases h : c.slewOk n
  · rw [if_pos h]; exact slew_yes h w
  · rw [if_neg h]; exact slew_no h w
theorem a1 (w : World) : Calls Try.prog 15 #[.agg #[.int .i64 0, .int .i64 0, .int .i64 0, .int .i64 6, .bool false], .int .i64 5, .int .i64 0] w fun e w' => e = .returned (.tuple #[.agg #[.int .i64 0, .int .i64 0, .int .i64 0, .int .i64 6, .bool true], .agg #[.int .i64 1, .int .i64 5], .int .i64 0]) ∧ RowKit.Below w.heap.size w w' := by
  have h := upd_any ⟨0, 0, 0, 6, false⟩ 5 0 w
  rw [show Ck.upd ⟨0, 0, 0, 6, false⟩ 5 0 = (⟨0, 0, 0, 6, true⟩, 1, 5, 0) by rw [Ck.upd, if_neg (by decide), if_pos rfl]] at h
  exact h
theorem a2 (w : World) : Calls Try.prog 15 #[.agg #[.int .i64 0, .int .i64 0, .int .i64 0, .int .i64 6, .bool true], .int .i64 1125899906842624, .int .i64 0] w fun e w' => e = .returned (.tuple #[.agg #[.int .i64 0, .int .i64 0, .int .i64 0, .int .i64 0, .bool false], .agg #[.int .i64 0, .int .i64 0], .int .i64 160]) ∧ RowKit.Below w.heap.size w w' := by
  have h := upd_any ⟨0, 0, 0, 6, true⟩ 1125899906842624 0 w
  rw [show Ck.upd ⟨0, 0, 0, 6, true⟩ 1125899906842624 0 = (Ck.zero, 0, 0, 160) by rw [Ck.upd, if_neg (by decide), if_neg (by decide), if_pos (by decide)]] at h
  exact h
theorem a3 (w : World) : Calls Try.prog 21 #[.agg #[.int .i64 0, .int .i64 640, .int .i64 0, .int .i64 0, .bool false], .int .i64 1] w fun e w' => e = .returned (.tuple #[.agg #[.int .i64 0, .int .i64 630, .int .i64 0, .int .i64 0, .bool false], .int .i64 10, .int .i64 0]) ∧ RowKit.Below w.heap.size w w' := by
  have h := sle_any ⟨0, 640, 0, 0, false⟩ 1 w
  rw [show Ck.sle ⟨0, 640, 0, 0, false⟩ 1 = (⟨0, 630, 0, 0, false⟩, 10, 0) by rw [Ck.sle, if_pos (by decide)]; rfl] at h
  exact h
theorem two_res {w2 w' : World} {c : Ck} {x y : Int} (e : w' = (w2.alloc (.cells #[.int .i64 c.f, .int .i64 c.l, .int .i64 c.a, .int .i64 c.p, .bool c.s] 45)).alloc (.cells #[.int .i64 x, .int .i64 y] 47)) :
    RowKit.Below w2.heap.size w2 w' ∧ Box w' w2.heap.size c ∧ Tb w' (w2.heap.size + 1) x y ∧ w'.heap.size = w2.heap.size + 2 := by
  have e1 : (w2.alloc (.cells #[.int .i64 c.f, .int .i64 c.l, .int .i64 c.a, .int .i64 c.p, .bool c.s] 45)).heap.size = w2.heap.size + 1 := World.size_alloc ..
  have t := World.alloc_heap_new (w2.alloc (.cells #[.int .i64 c.f, .int .i64 c.l, .int .i64 c.a, .int .i64 c.p, .bool c.s] 45)) (.cells #[.int .i64 x, .int .i64 y] 47)
  rw [e1] at t
  subst e
  refine ⟨((Below.refl _ _).alloc (Nat.le_refl _) _).alloc (by omega) _, ?_, t, by rw [World.size_alloc, e1]⟩
  exact ((Below.refl (w2.heap.size + 1) _).alloc (by omega) _).block _ (by omega) |>.trans (World.alloc_heap_new w2 _)
theorem one_res {w2 w' : World} {c : Ck} (e : w' = w2.alloc (.cells #[.int .i64 c.f, .int .i64 c.l, .int .i64 c.a, .int .i64 c.p, .bool c.s] 45)) :
    RowKit.Below w2.heap.size w2 w' ∧ Box w' w2.heap.size c ∧ w'.heap.size = w2.heap.size + 1 := by
  subst e
  exact ⟨(Below.refl _ _).alloc (Nat.le_refl _) _, World.alloc_heap_new w2 _, World.size_alloc ..⟩
theorem bthen {B : Nat} {w0 w w' : World} (h : RowKit.Below B w0 w) (k : RowKit.Below w.heap.size w w') (hB : B ≤ w0.heap.size) : RowKit.Below B w0 w' := h.trans (k.mono (Nat.le_trans hB h.size))
end Go.Proofs.Ytbkcoijcoacbaaa.Di
