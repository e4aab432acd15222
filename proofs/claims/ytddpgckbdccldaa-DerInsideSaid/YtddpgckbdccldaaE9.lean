/- What the reader keeps; isTag, hasKids; reader.tag. -/
import Derived.Test.YtddpgckbdccldaaE8
import Derived.BigQuiet
namespace Go.Proofs.Ytddpgckbdccldaa
open Go.RowKit
set_option linter.unusedVariables false
set_option linter.unusedSimpArgs false
set_option maxRecDepth 100000
/-- every block that was there is as it was, but g -/
def Kp (g : Nat) (w w' : World) : Prop := w.grownBy w' (some g)
theorem Kp.refl (g : Nat) (w : World) : Kp g w w := ⟨rfl, rfl, rfl, Nat.le_refl _, fun _ _ _ => rfl⟩
theorem Kp.trans {g : Nat} {w w' w'' : World} (h : Kp g w w') (k : Kp g w' w'') : Kp g w w'' :=
  ⟨k.os.trans h.os, k.tape.trans h.tape, k.output.trans h.output, Nat.le_trans h.size k.size, fun q hq hne => (k.block q (Nat.lt_of_lt_of_le hq h.size) hne).trans (h.block q hq hne)⟩
theorem Kp.of {g : Nat} {w w' : World} (b : Below w.heap.size w w') : Kp g w w' := ⟨b.os, b.tape, b.output, b.size, fun k hk _ => b.block k hk⟩
theorem Kp.cell {g : Nat} {w w' : World} (h : Kp g w w') {p : Addr} (hp : p.block < w.heap.size) (hne : p.block ≠ g) : w'.cell? p = w.cell? p := World.cell?_of_block (w := w) (h.block p.block hp (fun e => hne (by simpa using e)))
theorem Kp.low {g : Nat} {w w' : World} (h : Kp g w w') (hg : g ≤ w.heap.size) : ∀ p : Addr, p.block < g → w'.cell? p = w.cell? p := fun p hp => h.cell (by omega) (by omega)
theorem Kp.set {g : Nat} {w w' : World} (h : Kp g w w') (o : Nat) (v : Value) : Kp g w (w'.setCell ⟨g, o, none⟩ v) :=
  h.trans ⟨rfl, rfl, rfl, by simp [World.setCell], fun k _ hne => Below.heap_setCell _ _ _ _ (fun e => hne (by rw [e]))⟩
theorem Kp.drew {g : Nat} {w w' : World} (h : Kp g w w') : Kp g w w'.drew := h.trans ⟨rfl, rfl, rfl, Nat.le_refl _, fun _ _ _ => rfl⟩
theorem Kp.drewN {g : Nat} {w w' : World} (h : Kp g w w') (n : Nat) : Kp g w (w'.drewN n) := h.trans (Kp.of (below_drewN (Below.refl _ _) n))
theorem Kp.below {g B : Nat} {w0 w w' : World} (h : Kp g w w') (b : Below B w0 w) (hB : B ≤ g) (hs : B ≤ w.heap.size) : Below B w0 w' := b.grown h hs fun k hk => by cases hk; exact hB
theorem Bx.kp {w w' : World} {g b : Nat} {t : TypeId} {x y z : Value} (h : Bx w b t x y z) (k : Kp g w w') (hne : b ≠ g) : Bx w' b t x y z := (k.block b h.lt (fun e => hne (by simpa using e))).trans h
/-- block b holds the two cells of a struct -/
def B2 (w : World) (g : Nat) (t : TypeId) (a b : Value) : Prop := w.heap[g]? = some (.cells #[a, b] t (0, 0))
theorem B2.cells {w : World} {g : Nat} {t : TypeId} {a b : Value} (h : B2 w g t a b) : w.cell? ⟨g, 0, none⟩ = some a ∧ w.cell? ⟨g, 1, none⟩ = some b ∧ w.frozen? ⟨g, 0, none⟩ = false ∧ w.frozen? ⟨g, 1, none⟩ = false := by
  unfold B2 at h
  refine ⟨?_, ?_, ?_, ?_⟩
  · rw [cell_of_row w g 0 _ t (0, 0) h]; rfl
  · rw [cell_of_row w g 1 _ t (0, 0) h]; rfl
  all_goals simp [World.frozen?, h]
theorem B2.set {w : World} {g : Nat} {t : TypeId} {a b : Value} (h : B2 w g t a b) (x y : Value) : B2 ((w.setCell ⟨g, 0, none⟩ x).setCell ⟨g, 1, none⟩ y) g t x y := by
  unfold B2 at h ⊢
  simp [World.setCell, Array.getElem?_modify, h]
theorem B2.new (w : World) (t : TypeId) (a b : Value) : B2 (w.alloc (.cells #[a, b] t)) w.heap.size t a b := heap_alloc_new w _
theorem B2.lt {w : World} {g : Nat} {t : TypeId} {a b : Value} (h : B2 w g t a b) : g < w.heap.size := by
  rcases Nat.lt_or_ge g w.heap.size with hlt | hge
  · exact hlt
  · unfold B2 at h; rw [Array.getElem?_eq_none hge] at h; cases h
theorem B2.kp {w w' : World} {g b : Nat} {t : TypeId} {x y : Value} (h : B2 w b t x y) (k : Kp g w w') (hne : b ≠ g) : B2 w' b t x y := (k.block b h.lt (fun e => hne (by simpa using e))).trans h
theorem B2.keep {w w' : World} {g B : Nat} {t : TypeId} {a b : Value} (h : B2 w g t a b) (hb : Below B w w') (hg : g < B) : B2 w' g t a b := (hb.block g hg).trans h
theorem below_set2 {w : World} {B g : Nat} {W : World} (h : Below B W w) (hg : B ≤ g) (x y : Value) : Below B W ((w.setCell ⟨g, 0, none⟩ x).setCell ⟨g, 1, none⟩ y) :=
  (h.setCell (p := ⟨g, 0, none⟩) hg x).setCell (p := ⟨g, 1, none⟩) hg y
/-- the reader at block g -/
def Rb (w : World) (g : Nat) (A : Option Addr) (n c : Nat) (a h : Nat) : Prop := Bx w g 69 (.slice A n c) (.int .i64 (a : Int)) (.int .i64 (h : Int))
theorem hasKids_any (t : Int) (w : World) : Calls Try.prog 51 #[.int .i64 t] w fun e w' => e = .returned (.bool (hk t)) ∧ w' = w := by
  by_cases h1 : t = 48
  · subst h1
    go_enter Try.func51, Try.ntmps51
    go_wp2_with fail
    go_ret
    exact ⟨rfl, rfl⟩
  · by_cases h2 : t = 49
    · subst h2
      go_enter Try.func51, Try.ntmps51
      go_wp2_with fail
      go_ret
      exact ⟨rfl, rfl⟩
    · have k1 : (t == 48) = false := by simpa using h1
      have k2 : (t == 49) = false := by simpa using h2
      have HF := Lib.hid (show hk t = false by unfold hk; rw [k1, k2]; rfl)
      have k3 : (t = 48) = False := by simpa using h1
      have k4 : (t = 49) = False := by simpa using h2
      clear h1 h2
      go_enter Try.func51, Try.ntmps51
      go_wp2_with fail
      go_ret
      exact ⟨by rw [HF.out]; rfl, rfl⟩
/-- is it a tag of the table? -/
def tg (t : Int) : Bool := t == 1 || t == 2 || t == 3 || t == 4 || t == 5 || t == 12 || hk t
theorem isTag_any (t : Int) (w : World) : Calls Try.prog 72 #[.int .i64 t] w fun e w' => e = .returned (.bool (tg t)) ∧ w' = w := by
  by_cases h : t = 1 ∨ t = 2 ∨ t = 3 ∨ t = 4 ∨ t = 5 ∨ t = 12
  · rcases h with rfl | rfl | rfl | rfl | rfl | rfl
    all_goals
      go_enter Try.func72, Try.ntmps72
      go_wp2_with fail
      go_ret
      exact ⟨rfl, rfl⟩
  · have k1 : (t == 1) = false := by simp; omega
    have k2 : (t == 2) = false := by simp; omega
    have k3 : (t == 3) = false := by simp; omega
    have k4 : (t == 4) = false := by simp; omega
    have k5 : (t == 5) = false := by simp; omega
    have k6 : (t == 12) = false := by simp; omega
    have HF := Lib.hid (show tg t = hk t by unfold tg; rw [k1, k2, k3, k4, k5, k6]; rfl)
    have j1 : (t = 1) = False := by simp; omega
    have j2 : (t = 2) = False := by simp; omega
    have j3 : (t = 3) = False := by simp; omega
    have j4 : (t = 4) = False := by simp; omega
    have j5 : (t = 5) = False := by simp; omega
    have j6 : (t = 12) = False := by simp; omega
    clear h
    go_enter Try.func72, Try.ntmps72
    go_wp2_with fail
    refine (hasKids_any _ _).mono ?_
    rintro e w' ⟨rfl, rfl⟩
    go_wp2_with fail
    go_ret
    exact ⟨by rw [HF.out]; rfl, rfl⟩
end Go.Proofs.Ytddpgckbdccldaa
