/- A row of eight words that a call builds and then turns in place. -/
import Derived.Test.YtonfpomgkgljiaaDoorRef2
namespace Go.Proofs.YtonfpomgkgljiaaDoor
open Go.RowKit
set_option linter.unusedVariables false
set_option maxRecDepth 100000

/-- block g begins with the eight words xs -/
def Vw (w : World) (g : Nat) (xs : List Nat) : Prop := ∃ cur : Array Value, w.heap[g]? = some (.cells cur 22 (0, 0)) ∧ cur.toList.take 8 = wv xs ∧ xs.length = 8
theorem Vw.lt {w : World} {g : Nat} {xs : List Nat} (h : Vw w g xs) : g < w.heap.size := by
  obtain ⟨cur, h1, _⟩ := h
  rcases Nat.lt_or_ge g w.heap.size with hlt | hge
  · exact hlt
  · rw [Array.getElem?_eq_none hge] at h1; cases h1
theorem Vw.cell {w : World} {g : Nat} {xs : List Nat} (h : Vw w g xs) {j : Nat} (hj : j < 8) : w.cell? ⟨g, j, none⟩ = some (.int .u32 ((xs.getD j 0 : Nat) : Int)) := by
  obtain ⟨cur, h1, h2, h3⟩ := h
  rw [cell_of_row w g j cur 22 (0, 0) h1]
  have : (cur.toList.take 8)[j]? = (wv xs)[j]? := by rw [h2]
  rw [List.getElem?_take, if_pos hj] at this
  have e : cur[j]? = cur.toList[j]? := by simp
  rw [e, this]
  have hl : j < xs.length := by omega
  simp [wv, List.getD, List.getElem?_eq_getElem hl]
theorem Vw.frozen {w : World} {g : Nat} {xs : List Nat} (h : Vw w g xs) (j : Nat) : w.frozen? ⟨g, j, none⟩ = false := by
  obtain ⟨cur, h1, _⟩ := h
  simp [World.frozen?, h1]
theorem Vw.set_ {w : World} {g : Nat} {xs : List Nat} (h : Vw w g xs) (j x : Nat) : Vw (w.setCell ⟨g, j, none⟩ (.int .u32 (x : Int))) g (xs.set j x) := by
  obtain ⟨cur, h1, h2, h3⟩ := h
  refine ⟨cur.setIfInBounds j (.int .u32 (x : Int)), ?_, ?_, by simp [h3]⟩
  · simp [World.setCell, Array.getElem?_modify, h1]
  · rw [Array.toList_setIfInBounds, List.take_set, h2]
    simp [wv]
theorem Vw.drewN {w : World} {g : Nat} {xs : List Nat} (h : Vw w g xs) (q : Nat) : Vw (w.drewN q) g xs := h
theorem Vw.drew {w : World} {g : Nat} {xs : List Nat} (h : Vw w g xs) : Vw w.drew g xs := h
theorem Vw.other {w : World} {g : Nat} {xs : List Nat} (h : Vw w g xs) {p : Addr} (hp : p.block ≠ g) (v : Value) : Vw (w.setCell p v) g xs := by
  obtain ⟨cur, h1, h2⟩ := h
  exact ⟨cur, (Below.heap_setCell w p v g (fun e => hp e.symm)).trans h1, h2⟩
theorem Vw.below {w w' : World} {B g : Nat} {xs : List Nat} (h : Vw w g xs) (hb : Below B w w') (hg : g < B) : Vw w' g xs := by
  obtain ⟨cur, h1, h2⟩ := h
  exact ⟨cur, (hb.block g hg).trans h1, h2⟩
theorem Gw.vw {w : World} {base c : Nat} {A : Option Addr} {xs : List Nat} (h : Gw w base A 8 c xs) : ∃ g, A = some ⟨g, 0, none⟩ ∧ base ≤ g ∧ Vw w g xs ∧ 8 ≤ c := by
  rcases h.2.2 with ⟨he, _⟩ | ⟨g, cap, cur, e, hg, hh, hn, hm, hs, ht⟩
  · cases he
  · cases e
    exact ⟨g, rfl, hg, ⟨cur, hh, by simpa using ht, h.1⟩, hn⟩
theorem nw_drewN {w : World} {B n c : Nat} {A : Option Addr} {xs : List Nat} (h : Nw w B A n c xs) (q : Nat) : Nw (w.drewN q) B A n c xs := ⟨h.len, h.cap, h.room, h.lim, h.cell⟩
theorem nw_other {w : World} {B n c g : Nat} {A : Option Addr} {xs : List Nat} (h : Nw w B A n c xs) (hg : B ≤ g) (j : Nat) (v : Value) : Nw (w.setCell ⟨g, j, none⟩ v) B A n c xs :=
  h.keep fun p hp => (((Below.refl B w).setCell (p := ⟨g, j, none⟩) hg v).cell hp)

/-- the words of a state, those behind place i moved on -/
def moved (ws : List Nat) (i : Nat) : List Nat := ws.take (i + 1) ++ (ws.drop i).take (7 - i)
theorem words_8 (s : St) : (words s).length = 8 := rfl
theorem moved_7 (s : St) : moved (words s) 7 = words s := rfl
theorem moved_step (s : St) (i : Nat) (h1 : 1 ≤ i) (h2 : i ≤ 7) : (moved (words s) i).set i ((moved (words s) i).getD (i - 1) 0) = moved (words s) (i - 1) := by
  have hh : i = 1 ∨ i = 2 ∨ i = 3 ∨ i = 4 ∨ i = 5 ∨ i = 6 ∨ i = 7 := by omega
  rcases hh with rfl | rfl | rfl | rfl | rfl | rfl | rfl <;> rfl
theorem moved_done (s : St) (k w : Nat) : ((moved (words s) 0).set 0 (ad (t1 s k w) (t2 s))).set 4 (ad ((moved (words s) 0).getD 4 0) (t1 s k w)) = words (rnd s k w) := rfl
/-- the first i words of the sum, the others as they were -/
def plusN (x y : St) (i : Nat) : List Nat := (words (plus x y)).take i ++ (words x).drop i
theorem plusN_0 (x y : St) : plusN x y 0 = words x := rfl
theorem plusN_8 (x y : St) : plusN x y 8 = words (plus x y) := rfl
theorem plusN_step (x y : St) (i : Nat) (h : i < 8) : (plusN x y i).set i (ad ((plusN x y i).getD i 0) ((words y).getD i 0)) = plusN x y (i + 1) := by
  have hh : i = 0 ∨ i = 1 ∨ i = 2 ∨ i = 3 ∨ i = 4 ∨ i = 5 ∨ i = 6 ∨ i = 7 := by omega
  rcases hh with rfl | rfl | rfl | rfl | rfl | rfl | rfl | rfl <;> rfl
end Go.Proofs.YtonfpomgkgljiaaDoor
