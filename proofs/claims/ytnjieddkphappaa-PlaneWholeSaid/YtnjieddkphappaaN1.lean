/- plane: the nearest point's closure. -/
import Derived.Test.YtnjieddkphappaaS2
import Derived.Deep.RegionHeld3
namespace Go.Proofs.Ytnjieddkphappaa
open Go.RowKit
set_option maxRecDepth 100000
set_option linter.unusedVariables false
/-- is the first one less? -/
def ltF (a b : Nat) : Bool := od a b == some .lt
theorem ltF_al {a b a' b' : Nat} (h : al a a') (g : al b b') : ltF a b = ltF a' b' := by unfold ltF; rw [od_al h g]
/-- the place of the nearest so far, after j points -/
def nearC (l : List (Nat × Nat)) (z : Nat × Nat) : Nat → Nat
  | 0 => 0
  | j + 1 =>
    if ltF (farC (l.getD j (0, 0)).1 (l.getD j (0, 0)).2 z.1 z.2) (farC (l.getD (nearC l z j) (0, 0)).1 (l.getD (nearC l z j) (0, 0)).2 z.1 z.2) then j else nearC l z j
theorem nearC_le (l : List (Nat × Nat)) (z : Nat × Nat) : ∀ j, nearC l z j ≤ j - 1
  | 0 => by simp [nearC]
  | j + 1 => by
    have := nearC_le l z j
    unfold nearC
    split <;> omega
def Ex (w w' : World) : Prop := ∃ m, w' = w.drewN m
theorem Ex.of (w : World) (m : Nat) : Ex w (w.drewN m) := ⟨m, rfl⟩
theorem Ex.more {w w' : World} (h : Ex w w') (k : Nat) : Ex w (w'.drewN k) := by obtain ⟨m, rfl⟩ := h; exact ⟨m + k, by simp [World.drewN, Nat.add_assoc]⟩
theorem Ex.one {w w' : World} (h : Ex w w') : Ex w w'.drew := h.more 1
theorem far_two (a b c d : Nat) (w : World) : Calls Try.prog 16 #[.complex .f64 a b, .complex .f64 c d] w fun e w' => (∃ r, e = .returned (.float .f64 r) ∧ r < 18446744073709551616 ∧ al r (farC a b c d)) ∧ ∃ k, w' = w.drewN k := far_any a b c d w
def stepW (b : Bool) (w : World) (nb j : Nat) : World := cond b (w.setCell ⟨nb, 0, none⟩ (.int .i64 (j : Int))) w
set_option maxHeartbeats 4000000 in
theorem near1_any (j k n c : Nat) (x y x2 y2 x3 y3 : Nat) {zb lb nb g off : Nat} {w : World}
    (hz : w.cell? ⟨zb, 0, none⟩ = some (.complex .f64 x2 y2)) (hl : w.cell? ⟨lb, 0, none⟩ = some (.slice (some ⟨g, off, none⟩) n c)) (hn : Boxed w nb 3 (.int .i64 (k : Int)))
    (hk : w.cell? ⟨g, off + k, none⟩ = some (.complex .f64 x3 y3)) (hkn : k < n) {b : Bool} (hb : ltF (farC x y x2 y2) (farC x3 y3 x2 y2) = b) :
    Calls Try.prog 42 #[.int .i64 (j : Int), .complex .f64 x y, .pointer (some ⟨zb, 0, none⟩), .pointer (some ⟨lb, 0, none⟩), .pointer (some ⟨nb, 0, none⟩)] w fun e w' =>
      e = .returned (.tuple #[]) ∧ ∃ m, w' = stepW b (w.drewN m) nb j := by
  have HQ := Lib.hid hb
  clear hb
  have c1 := hn.cell
  have f1 := hn.frozen
  have i0 : (0 : Int) ≤ (k : Int) := by omega
  have i1 : (k : Int) < (n : Int) := by omega
  have E0 : Ex w w.drew := ⟨1, rfl⟩
  go_enter Try.func42, Try.ntmps42
  go_wp2_with fail
  go_region_held3 (fun w' => w'.cell? ⟨zb, 0, none⟩ = some (.complex .f64 x2 y2) ∧ w'.cell? ⟨lb, 0, none⟩ = some (.slice (some ⟨g, off, none⟩) n c) ∧ w'.cell? ⟨nb, 0, none⟩ = some (.int .i64 (k : Int)) ∧ w'.cell? ⟨g, off + k, none⟩ = some (.complex .f64 x3 y3) ∧ Ex w w')
    (first | exact ⟨hz, hl, c1, hk, E0⟩ | (go_split_ands; refine ⟨?_, ?_, ?_, ?_, ?_⟩ <;> first | assumption | (rw [World.cell?_drewN]; assumption) | exact Ex.of _ _ | exact Ex.more (Ex.of _ _) _ | exact Ex.more (by assumption) _))
    (first
    | (go_at_call 16; with_reducible refine (far_two x y _ _ _).mono ?_; rintro e wn ⟨⟨r1, rfl, hr1, ha1⟩, kn, rfl⟩; dsimp only)
    | (go_at_call 16; with_reducible refine (far_two x3 y3 _ _ _).mono ?_; rintro e wn ⟨⟨r2, rfl, hr2, ha2⟩, kn, rfl⟩; dsimp only))
  rename_i ks hH
  have h1 : (FloatKind.f64.format.order r1 r2 == some Ordering.lt) = b := by
    show ltF r1 r2 = b
    rw [ltF_al ha1 ha2]; exact HQ.out
  clear hH HQ ha1 ha2
  rw [h1]
  clear h1
  cases b
  · go_wp2_with fail
    go_end0
    exact ⟨rfl, 1 + ks + kn, by simp [stepW, World.drewN, Nat.add_assoc]⟩
  · go_wp2_with fail
    go_end0
    exact ⟨rfl, 1 + ks + kn, by simp [stepW, World.drewN, Nat.add_assoc]⟩
end Go.Proofs.Ytnjieddkphappaa
