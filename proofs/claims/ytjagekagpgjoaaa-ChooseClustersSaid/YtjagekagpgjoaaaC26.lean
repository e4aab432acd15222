/- choose: Cluster. -/
import Derived.Test.YtjagekagpgjoaaaC25
namespace Go.Proofs.Ytjagekagpgjoaaa
open Go.RowKit
set_option linter.unusedVariables false
set_option linter.unusedSimpArgs false
set_option maxRecDepth 100000
/-- the strangest one that is left -/
def sgt (os : List Int) (L : List Nat) : Nat := grt (str os L) L
/-- the least distance of those that are left -/
def nrt (ds : List Int) (L : List Nat) : Nat := grt (fun j => -ds.getD j 0) L
/-- what is left, as steps go on -/
def clN (os ds : List Int) (least : Int) : Nat → List Nat → List Nat
  | 0, L => L
  | k + 1, L => if (L.length : Int) ≤ least then L else if str os L (sgt os L) ≤ ds.getD (nrt ds L) 0 * ((L.length : Int) - 1) then L else clN os ds least k (L.erase (sgt os L))
/-- what Cluster leaves -/
def clus (os ds : List Int) (least : Int) : List Nat := clN os ds least os.length (List.range os.length)
/-- a box -/
def Bx (w : World) (b : Nat) (t : TypeId) (v : Value) : Prop := w.heap[b]? = some (.cells #[v] t (0, 0))
theorem Bx.cell {w : World} {b : Nat} {t : TypeId} {v : Value} (h : Bx w b t v) : w.cell? ⟨b, 0, none⟩ = some v := blk_cell h rfl
theorem Bx.fr {w : World} {b : Nat} {t : TypeId} {v : Value} (h : Bx w b t v) : w.frozen? ⟨b, 0, none⟩ = false := blk_fr h 0
theorem Bx.lt {w : World} {b : Nat} {t : TypeId} {v : Value} (h : Bx w b t v) : b < w.heap.size := (Array.getElem?_eq_some_iff.1 h).1
theorem Bx.below {w w' : World} {b B : Nat} {t : TypeId} {v : Value} (h : Bx w b t v) (k : Below B w w') (hb : b < B) : Bx w' b t v := (k.block b hb).trans h
theorem Bx.ot {w w' : World} {b g : Nat} {t : TypeId} {v : Value} (h : Bx w b t v) (k : Ot g w w') (hb : b ≠ g) : Bx w' b t v := (k.far b hb).trans h
theorem Bx.set {w : World} {b : Nat} {t : TypeId} {v : Value} (h : Bx w b t v) (u : Value) : Bx (w.setCell ⟨b, 0, none⟩ u) b t u := set_cell h 0 u
theorem Bx.far {w : World} {b g : Nat} {t : TypeId} {v : Value} (h : Bx w b t v) (hb : b ≠ g) (i : Nat) (u : Value) : Bx (w.setCell ⟨g, i, none⟩ u) b t v := (set_far w g i u hb).trans h
theorem Lw.below {w w' : World} {g cap B : Nat} {L : List Nat} (h : Lw w g L cap) (k : Below B w w') (hg : g < B) : Lw w' g L cap := by
  obtain ⟨cur, hg2, h2⟩ := h
  exact ⟨cur, (k.block g hg).trans hg2, h2⟩
theorem Lw.far {w : World} {g cap b : Nat} {L : List Nat} (h : Lw w g L cap) (hb : g ≠ b) (i : Nat) (u : Value) : Lw (w.setCell ⟨b, i, none⟩ u) g L cap := by
  obtain ⟨cur, hg2, h2⟩ := h
  exact ⟨cur, (set_far w b i u hb).trans hg2, h2⟩
theorem Lw.lt {w : World} {g cap : Nat} {L : List Nat} (h : Lw w g L cap) : g < w.heap.size := by
  obtain ⟨cur, hg2, h2⟩ := h
  exact (Array.getElem?_eq_some_iff.1 hg2).1
theorem run_make_i (n : Nat) (hn : n ≤ 64) (w : World) : (Instr.makeSlice 27 (.int .i64 (n : Int)) (.int .i64 (n : Int))).run Try.prog w =
    .ok (.slice (some ⟨w.heap.size, 0, none⟩) n n) (w.alloc (.cells (List.replicate n (Value.int .i64 0)).toArray 3)) := by
  obtain ⟨i0, hi, hz0, hz1, hz2⟩ := info_parts Try.info3
  have hr := run_make (P := Try.prog) w 27 3 i0 (.int .i64 0) Try.underlying27 hi hz0 .i64 .i64 n n (by omega) (Int.le_refl _) (by rw [hz2]; omega) (by omega)
  simp only [Int.toNat_natCast] at hr
  rw [hr, hz1, Nat.mul_one]
  have : (madeCells (Value.int .i64 0).cells n) = (List.replicate n (Value.int .i64 0)).toArray := by
    apply Array.ext'
    exact toList_madeCells_one _ _
  rw [this]
theorem sgt_mem {os : List Int} {L : List Nat} (h : L ≠ []) : sgt os L ∈ L := grt_mem h
theorem nrt_mem {ds : List Int} {L : List Nat} (h : L ≠ []) : nrt ds L ∈ L := grt_mem h
theorem two_boxes {w w1 : World} {v1 v2 : Value} {t1 t2 : TypeId} (e1 : w1 = (w.alloc (.cells #[v1] t1)).alloc (.cells #[v2] t2)) : Bx w1 w.heap.size t1 v1 ∧ Bx w1 (w.heap.size + 1) t2 v2 ∧ RowKit.Below w.heap.size w w1 ∧ w1.heap.size = w.heap.size + 2 := by
  subst e1
  have s1 : (w.alloc (.cells #[v1] t1)).heap.size = w.heap.size + 1 := World.size_alloc ..
  have k : Below (w.alloc (.cells #[v1] t1)).heap.size (w.alloc (.cells #[v1] t1)) ((w.alloc (.cells #[v1] t1)).alloc (.cells #[v2] t2)) := (Below.refl _ _).alloc (Nat.le_refl _) _
  refine ⟨(k.block _ (by rw [s1]; omega)).trans (World.alloc_heap_new w _), ?_, ((Below.refl _ _).alloc (Nat.le_refl _) _).alloc (by rw [s1]; omega) _, by rw [World.size_alloc, s1]⟩
  have h := World.alloc_heap_new (w.alloc (.cells #[v1] t1)) (.cells #[v2] t2)
  rw [s1] at h
  exact h
/-- where Cluster may not be -/
theorem clus_bad {w : World} {A1 A2 : Option Addr} {n1 c1 n2 c2 : Nat} {os ds : List Int} (h1 : Ri w w.heap.size A1 n1 os) (h2 : Ri w w.heap.size A2 n2 ds) (hm1 : n1 ≤ 9223372036854775807) (hm2 : n2 ≤ 9223372036854775807) (least : Int) (hb : ¬ (Fit os ds ∧ 1 ≤ least)) :
    Calls Try.prog 18 #[.slice A1 n1 c1, .slice A2 n2 c2, .int .i64 least] w fun e w' => e = .returned (.tuple #[.slice none 0 0, .int .i64 1]) ∧ RowKit.Below w.heap.size w w' := by
  obtain ⟨w1, e1⟩ : ∃ w1, w1 = (w.alloc (.cells #[.slice A1 n1 c1] 33)).alloc (.cells #[.slice A2 n2 c2] 33) := ⟨_, rfl⟩
  obtain ⟨y1, y2, b1, s1⟩ := two_boxes e1
  have x1 := y1.cell
  have x2 := y2.cell
  clear y1 y2 s1
  have HM := Lib.hid (mayBe_any (c1 := c1) (c2 := c2) (h1.below b1 (Nat.le_refl _)) (h2.below b1 (Nat.le_refl _)) hm1 hm2)
  have HB := Lib.hid b1
  clear h1 h2 b1
  by_cases hF : Fit os ds
  · rw [decide_eq_true hF] at HM
    have hl : (least < 1) = True := by
      simp only [eq_iff_iff, iff_true]
      exact Int.not_le.1 fun h => hb ⟨hF, h⟩
    go_enter Try.func18, Try.ntmps18
    go_wp2_with fail
    rw [← e1]
    clear e1
    go_wp2_with fail
    refine HM.out.mono ?_
    rintro e w2 ⟨rfl, e3⟩
    subst w2
    go_wp2_with fail
    go_ret2
    exact ⟨rfl, HB.out⟩
  · rw [decide_eq_false hF] at HM
    go_enter Try.func18, Try.ntmps18
    go_wp2_with fail
    rw [← e1]
    clear e1
    go_wp2_with fail
    refine HM.out.mono ?_
    rintro e w2 ⟨rfl, e3⟩
    subst w2
    go_wp2_with fail
    go_ret2
    exact ⟨rfl, HB.out⟩
end Go.Proofs.Ytjagekagpgjoaaa
