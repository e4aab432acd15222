/- The filter's Reset. -/
import Derived.Test.YtofieoklcegddaaK8
import Derived.Laws.Tables
namespace Go.Proofs.Ytofieoklcegddaa
open Go.RowKit Go.Sort Go.Shelf Go.Lib
set_option linter.unusedVariables false
set_option linter.unusedSimpArgs false
set_option maxRecDepth 100000

theorem fcs_len {ring : List S4} (nx ct : Nat) (h : ring.length = 8) : (fcs ring nx ct).length = 34 := by unfold fcs; rw [List.length_append, sc_len, h]; rfl
set_option maxHeartbeats 1000000 in
theorem reset_any {w : World} {g : Nat} {L : List S4} (h : Flt w g L) : Calls Try.prog 15 #[.pointer (some ⟨g, 0, none⟩)] w fun e w' => e = .returned (.int .i64 0) ∧ Flt w' g [] ∧ w.grownBy w' (some g) := by
  obtain ⟨ring, nx, hb, hr⟩ := h
  have hb' : w.heap[g]? = some (.cells (fcs ring nx L.length).toArray 54 (0, 0)) := hb
  have HB := Lib.hid hb'
  have HL := Lib.hid (show (fcs ring nx L.length).toArray.size = 34 by simp [fcs_len _ _ hr.len])
  clear hb hb' hr
  go_enter Try.func15, Try.ntmps15
  go_wp2_with (refine Go.wpList_store_row rfl 54 (.tmp 7) (.tmp 6) rfl g _ rfl rfl 54 _ HB.out (by kernel_rfl) (by rw [HL.out]; rfl) (by kernel_rfl) ?_)
  go_ret
  refine ⟨rfl, ⟨List.replicate 8 S0, 0, setRow_heap w g _ _ 54 (0, 0) HB.out, ⟨rfl, by omega, by simp, fun j hj => by simp at hj⟩⟩, ⟨rfl, rfl, rfl, ?_, fun k hk hn => ?_⟩⟩
  · simp [World.setRow]
  · show (w.heap.modify g _)[k]? = _
    rw [Array.getElem?_modify, if_neg (fun e => hn (by rw [e]))]
/-- times that can be read -/
def Ti (w : World) (B : Nat) (A : Option Addr) (n : Nat) (xs : List Int) : Prop :=
  xs.length = n ∧ (n = 0 ∨ ∃ g off, A = some ⟨g, off, none⟩ ∧ g < B ∧ ∀ i t, xs[i]? = some t → w.cell? ⟨g, off + i, none⟩ = some (.int .i64 t))
theorem Ti.below {w w' : World} {B C n : Nat} {A : Option Addr} {xs : List Int} (h : Ti w B A n xs) (b : RowKit.Below C w w') (hB : B ≤ C) : Ti w' B A n xs := by
  refine ⟨h.1, h.2.imp id ?_⟩
  rintro ⟨g, off, rfl, hg, hc⟩
  exact ⟨g, off, rfl, hg, fun i t hs => (World.cell?_of_block (b.block g (by omega))).trans (hc i t hs)⟩
theorem rs_new (w : World) : Rs (w.alloc (.cells #[.slice none 0 0] 49)) w.heap.size [] := ⟨none, 0, 0, World.alloc_heap_new w _, ⟨rfl, Nat.le_refl _, Nat.zero_le _, .inl ⟨rfl, rfl⟩⟩, Nat.zero_le _⟩
theorem Rs.only {w w' : World} {g h : Nat} {L : List S4} (k : Rs w h L) (q : w.grownBy w' (some g)) (hg : g < h) : Rs w' h L := by
  obtain ⟨A, n, c, hb, ho, h8⟩ := k
  refine ⟨A, n, c, (q.block h hb.lt (by intro e; cases e; omega)).trans hb, ⟨ho.len, ho.room, ho.cmax, ho.lies.imp id ?_⟩, h8⟩
  rintro ⟨b, off, rfl, hbb, hbh, hbl, hc, hsp⟩
  have e := q.block b hbl (by intro e; cases e; omega)
  exact ⟨b, off, rfl, hbb, hbh, Nat.lt_of_lt_of_le hbl q.size, fun j u hj => (World.cell?_of_block e).trans (hc j u hj), fun j hj => by
    have := hsp j hj
    exact ⟨by rw [World.cell?_of_block (a := ⟨b, off + n * 4 + j, none⟩) e]; exact this.1, by rw [World.frozen?_of_block (a := ⟨b, off + n * 4 + j, none⟩) e]; exact this.2⟩⟩
end Go.Proofs.Ytofieoklcegddaa
