/- clepsydralaw02.alive: the fixed calls. -/
import Derived.Test.YtnkkjfkchmlogaaDoorEq
import Derived.Lib.SlBytesConst
namespace Go.Proofs.YtnkkjfkchmlogaaDoor
open Go.RowKit
set_option linter.unusedVariables false
set_option maxRecDepth 100000

def dNil : List Nat := [227, 176, 196, 66, 152, 252, 28, 20, 154, 251, 244, 200, 153, 111, 185, 36, 39, 174, 65, 228, 100, 155, 147, 76, 164, 149, 153, 27, 120, 82, 184, 85]
def dAbc : List Nat := [186, 120, 22, 191, 143, 1, 207, 234, 65, 65, 64, 222, 93, 174, 34, 35, 176, 3, 97, 163, 150, 23, 122, 156, 180, 16, 255, 97, 242, 0, 21, 173]
theorem sha_nil : sha [] = dNil := by decide +kernel
theorem sha_abc : sha [97, 98, 99] = dAbc := by decide +kernel
theorem cells32 {w : World} {g : Nat} (h : Bb w g 26 dAbc) : w.cell? ⟨g, 0, none⟩ = some (.int .u8 186) ∧ w.cell? ⟨g, 1, none⟩ = some (.int .u8 120) ∧ w.cell? ⟨g, 2, none⟩ = some (.int .u8 22) ∧ w.cell? ⟨g, 3, none⟩ = some (.int .u8 191) ∧ w.cell? ⟨g, 4, none⟩ = some (.int .u8 143) ∧ w.cell? ⟨g, 5, none⟩ = some (.int .u8 1) ∧ w.cell? ⟨g, 6, none⟩ = some (.int .u8 207) ∧ w.cell? ⟨g, 7, none⟩ = some (.int .u8 234) ∧ w.cell? ⟨g, 8, none⟩ = some (.int .u8 65) ∧ w.cell? ⟨g, 9, none⟩ = some (.int .u8 65) ∧ w.cell? ⟨g, 10, none⟩ = some (.int .u8 64) ∧ w.cell? ⟨g, 11, none⟩ = some (.int .u8 222) ∧ w.cell? ⟨g, 12, none⟩ = some (.int .u8 93) ∧ w.cell? ⟨g, 13, none⟩ = some (.int .u8 174) ∧ w.cell? ⟨g, 14, none⟩ = some (.int .u8 34) ∧ w.cell? ⟨g, 15, none⟩ = some (.int .u8 35) ∧ w.cell? ⟨g, 16, none⟩ = some (.int .u8 176) ∧ w.cell? ⟨g, 17, none⟩ = some (.int .u8 3) ∧ w.cell? ⟨g, 18, none⟩ = some (.int .u8 97) ∧ w.cell? ⟨g, 19, none⟩ = some (.int .u8 163) ∧ w.cell? ⟨g, 20, none⟩ = some (.int .u8 150) ∧ w.cell? ⟨g, 21, none⟩ = some (.int .u8 23) ∧ w.cell? ⟨g, 22, none⟩ = some (.int .u8 122) ∧ w.cell? ⟨g, 23, none⟩ = some (.int .u8 156) ∧ w.cell? ⟨g, 24, none⟩ = some (.int .u8 180) ∧ w.cell? ⟨g, 25, none⟩ = some (.int .u8 16) ∧ w.cell? ⟨g, 26, none⟩ = some (.int .u8 255) ∧ w.cell? ⟨g, 27, none⟩ = some (.int .u8 97) ∧ w.cell? ⟨g, 28, none⟩ = some (.int .u8 242) ∧ w.cell? ⟨g, 29, none⟩ = some (.int .u8 0) ∧ w.cell? ⟨g, 30, none⟩ = some (.int .u8 21) ∧ w.cell? ⟨g, 31, none⟩ = some (.int .u8 173) := by
  refine ⟨h.cell (j := 0) (x := 186) rfl, h.cell (j := 1) (x := 120) rfl, h.cell (j := 2) (x := 22) rfl, h.cell (j := 3) (x := 191) rfl, h.cell (j := 4) (x := 143) rfl, h.cell (j := 5) (x := 1) rfl, h.cell (j := 6) (x := 207) rfl, h.cell (j := 7) (x := 234) rfl, h.cell (j := 8) (x := 65) rfl, h.cell (j := 9) (x := 65) rfl, h.cell (j := 10) (x := 64) rfl, h.cell (j := 11) (x := 222) rfl, h.cell (j := 12) (x := 93) rfl, h.cell (j := 13) (x := 174) rfl, h.cell (j := 14) (x := 34) rfl, h.cell (j := 15) (x := 35) rfl, h.cell (j := 16) (x := 176) rfl, h.cell (j := 17) (x := 3) rfl, h.cell (j := 18) (x := 97) rfl, h.cell (j := 19) (x := 163) rfl, h.cell (j := 20) (x := 150) rfl, h.cell (j := 21) (x := 23) rfl, h.cell (j := 22) (x := 122) rfl, h.cell (j := 23) (x := 156) rfl, h.cell (j := 24) (x := 180) rfl, h.cell (j := 25) (x := 16) rfl, h.cell (j := 26) (x := 255) rfl, h.cell (j := 27) (x := 97) rfl, h.cell (j := 28) (x := 242) rfl, h.cell (j := 29) (x := 0) rfl, h.cell (j := 30) (x := 21) rfl, h.cell (j := 31) (x := 173) rfl⟩
/-- the value points to the digest of abc -/
def IsAbc (w : World) : Value → Prop
  | .pointer (some ⟨g, 0, none⟩) => Bb w g 26 dAbc
  | _ => False
theorem isAbc_ptr (w : World) (g : Nat) : IsAbc w (.pointer (some ⟨g, 0, none⟩)) = Bb w g 26 dAbc := rfl
theorem wp_load_abc {x : Operand} {d : Option Tmp} {ty : TypeId} {p : String} {af : Array Edge} {gd : Option (Nat × Bool)} {a : Act} {w : World} {K : Act → World → Prop} {Q : Exit → Act → World → Prop} (h : IsAbc w (a.eval x)) :
    Oper.wp Tryd.prog { dst := d, op := Op.load 26 x, type := ty, pos := p, after := af, guard := gd } a w K Q = K (a.put d (.agg (bs dAbc).toArray)) w := by
  match hx : a.eval x, h with
  | .pointer (some ⟨g, 0, none⟩), h =>
    have hr := run_loadVar_row (P := Tryd.prog) w g 26 26 (bs dAbc).toArray (0, 0) _ h Tryd.underlying26 rfl (by rw [List.size_toArray, length_bs]; kernel_rfl)
    unfold Oper.wp execOp
    simp only [hx, Instr.loadAt, Instr.sureAddr, Sem.run_bind, Sem.run_pure, Result.andThen_ok, hr]
    rfl
attribute [local go_sem ↓] wp_load_abc
attribute [local go_sem] isAbc_ptr
def Yes (w : World) (e : Ending) (w' : World) : Prop := e = .returned (.bool true) ∧ Below w.heap.size w w'
def AbcO : Obj := .cells #[.int .u8 97, .int .u8 98, .int .u8 99] 5 (3, 4)
theorem abc_nb (w : World) : Nb (w.alloc AbcO) (w.alloc AbcO).heap.size (some ⟨w.heap.size, 0, none⟩) 3 3 [97, 98, 99] := by
  refine ⟨rfl, Nat.le_refl _, by omega, by intro x hx; simp at hx; omega, fun _ => ⟨w.heap.size, 0, rfl, by simp, fun j x hj => ?_⟩⟩
  rw [cell_of_row _ _ _ _ 5 (3, 4) (heap_alloc_new w AbcO)]
  match j, hj with
  | 0, hj => cases hj; rfl
  | 1, hj => cases hj; rfl
  | 2, hj => cases hj; rfl
set_option maxHeartbeats 4000000 in
theorem alive_any {w : World} (hk : Ks w) : Calls Tryd.prog 12 #[] w (Yes w) := by
  have hsz := hk.size
  have hcv := fun (w : World) (C : Array Value) (n c : Nat) => Lib.run_convert_bytes_const (P := Tryd.prog) w 22 5 C n c Tryd.underlying22 Tryd.underlying5
  go_enter Tryd.func12, Tryd.ntmps12
  go_wp2_with fail
  have s1 := sum_any hk (Nb.nil w w.heap.size 0 (by omega) none) (by omega)
  rw [sha_nil] at s1
  refine s1.mono ?_
  rintro e w1 ⟨rfl, b1⟩
  clear s1
  go_wp2_with fail
  have k1 := hk.bel b1
  have bb : Below w1.heap.size w1 (w1.alloc AbcO) := (Below.refl _ _).alloc (Nat.le_refl _) _
  have s2 := sum_any (k1.bel bb) (abc_nb w1) (by omega)
  rw [sha_abc] at s2
  change Calls _ _ _ (w1.alloc AbcO) _
  refine s2.mono ?_
  rintro e w2 ⟨rfl, b2⟩
  clear s2
  have B2 : Below w.heap.size w w2 := (b1.trans (bb.mono b1.size)).trans (b2.mono (Nat.le_trans b1.size bb.size))
  clear bb b2 k1 b1
  have n1 : Bb ((w2.alloc (Yb 26 (List.replicate 32 0))).alloc (Yb 26 (List.replicate 32 0))) w2.heap.size 26 (List.replicate 32 0) := (alloc_bb _ _ _).alloc _
  have n2 : Bb ((w2.alloc (Yb 26 (List.replicate 32 0))).alloc (Yb 26 (List.replicate 32 0))) (w2.heap.size + 1) 26 (List.replicate 32 0) := by
    have := alloc_bb (w2.alloc (Yb 26 (List.replicate 32 0))) 26 (List.replicate 32 0)
    rwa [World.size_alloc] at this
  have B3 : Below w.heap.size w ((w2.alloc (Yb 26 (List.replicate 32 0))).alloc (Yb 26 (List.replicate 32 0))) := (B2.alloc B2.size _).alloc (by simp; have := B2.size; omega) _
  have hs2 := B2.size
  have Hs3 : ((w2.alloc (Yb 26 (List.replicate 32 0))).alloc (Yb 26 (List.replicate 32 0))).heap.size = w2.heap.size + 2 := by simp
  obtain ⟨w3, hw3⟩ : ∃ w3, (w2.alloc (Yb 26 (List.replicate 32 0))).alloc (Yb 26 (List.replicate 32 0)) = w3 := ⟨_, rfl⟩
  rw [hw3] at n1 n2 B3 Hs3
  have Hw3 := Lib.hid hw3
  clear hw3 B2
  have n1' : Bb (w3.setRow w2.heap.size (bs dNil).toArray) w2.heap.size 26 dNil := setRow_heap _ _ _ _ _ _ n1
  have n2' : Bb (w3.setRow w2.heap.size (bs dNil).toArray) (w2.heap.size + 1) 26 _ := (setRow_other _ _ _ _ (by omega)).trans n2
  have m1 : Bb ((w3.setRow w2.heap.size (bs dNil).toArray).setRow (w2.heap.size + 1) (bs dAbc).toArray) w2.heap.size 26 dNil := (setRow_other _ _ _ _ (by omega)).trans n1'
  have m2 : Bb ((w3.setRow w2.heap.size (bs dNil).toArray).setRow (w2.heap.size + 1) (bs dAbc).toArray) (w2.heap.size + 1) 26 dAbc := setRow_heap _ _ _ _ _ _ n2'
  have B4 : Below w.heap.size w ((w3.setRow w2.heap.size (bs dNil).toArray).setRow (w2.heap.size + 1) (bs dAbc).toArray) := below_setRow (below_setRow B3 hs2 _) (by omega) _
  obtain ⟨w4, hw4⟩ : ∃ w4, (w3.setRow w2.heap.size (bs dNil).toArray).setRow (w2.heap.size + 1) (bs dAbc).toArray = w4 := ⟨_, rfl⟩
  rw [hw4] at m1 m2 B4
  have Hw4 := Lib.hid hw4
  clear hw4 B3
  go_wp2_with (first
    | (change wpList _ _ _ _ _ ((w2.alloc (Yb 26 (List.replicate 32 0))).alloc (Yb 26 (List.replicate 32 0))); rw [Hw3.out]; refine wpList_store_row rfl rfl 26 (.tmp 1) (.tmp 5) rfl w2.heap.size rfl (bs dNil) rfl 26 _ n1 (bs_one _) (by simp [bs, dNil]) (by kernel_rfl) ?_)
    | (refine wpList_store_row rfl rfl 26 (.tmp 2) (.tmp 8) rfl (w2.heap.size + 1) rfl (bs dAbc) rfl 26 _ n2' (bs_one _) (by simp [bs, dAbc]) (by kernel_rfl) ?_; rw [Hw4.out]))
  refine (new_any w4).mono ?_
  rintro e w5 ⟨rfl, hh5, b5⟩
  have m15 := m1.below b5 m1.lt
  have m25 := m2.below b5 m2.lt
  have B5 : Below w.heap.size w w5 := B4.trans (b5.mono B4.size)
  have hg5 := b5.size
  have hg4 := m2.lt
  clear m1 m2 B4 b5 n1 n2 n1' n2'
  go_wp2_with fail
  have bb : Below w5.heap.size w5 (w5.alloc AbcO) := (Below.refl _ _).alloc (Nat.le_refl _) _
  change Calls _ _ _ (w5.alloc AbcO) _
  have hw := write_any (hk.below (B5.trans (bb.mono B5.size)) hsz) (hh5.below bb) (abc_nb w5) (by simp) (by omega)
  rw [List.nil_append] at hw
  refine hw.mono ?_
  rintro e w6 ⟨rfl, hh6, q6⟩
  have m16 : Bb w6 w2.heap.size 26 dNil := (q6.block _ (by simp; omega) (by simp; omega)).trans (m15.alloc AbcO)
  have m26 : Bb w6 (w2.heap.size + 1) 26 dAbc := (q6.block _ (by simp; omega) (by simp; omega)).trans (m25.alloc AbcO)
  have B6 : Below w.heap.size w w6 := (B5.trans (bb.mono B5.size)).trans ⟨q6.os, q6.tape, q6.output, q6.size, fun i hi => q6.block i (by simp; omega) (by simp; omega)⟩
  clear hw m15 m25 B5 bb hh5
  have k6 := hk.below B6 hsz
  have hs6 := hh6.lt
  have ht6 := hh6.top
  generalize hGe : w4.heap.size = G at *
  have HG := Lib.hid hGe
  clear hGe
  have x0 : w6.cell? ⟨w2.heap.size, 0, none⟩ = some (.int .u8 227) := m16.cell (j := 0) (x := 227) rfl
  have x3 : w6.cell? ⟨w2.heap.size, 3, none⟩ = some (.int .u8 66) := m16.cell (j := 3) (x := 66) rfl
  have y0 : w6.cell? ⟨w2.heap.size + 1, 0, none⟩ = some (.int .u8 186) := m26.cell (j := 0) (x := 186) rfl
  have y1 : w6.cell? ⟨w2.heap.size + 1, 1, none⟩ = some (.int .u8 120) := m26.cell (j := 1) (x := 120) rfl
  have hq := eq_arr dAbc rfl
  have hsum := sumOf_any (w := w6.drew) k6.drew (hh6.grown (row := none) ⟨rfl, rfl, rfl, Nat.le_refl _, fun _ _ _ => rfl⟩ (fun _ e => by cases e))
  rw [sha_abc] at hsum
  have Hsum := Lib.hid hsum
  have Hh6 := Lib.hid (hh6.grown (w' := w6.drew) (row := none) ⟨rfl, rfl, rfl, Nat.le_refl _, fun _ _ _ => rfl⟩ (fun _ e => by cases e))
  have Hm26 := Lib.hid m26.drew
  have HB6 := Lib.hid (below_drew B6)
  have z6 : Bb w6.drew (w2.heap.size + 1) 26 dAbc := m26.drew
  have z6' : Bb { heap := w6.heap, tape := w6.tape, drawn := w6.drawn + 1, os := w6.os, output := w6.output } (w2.heap.size + 1) 26 dAbc := m26.drew
  have z6'' : Bb w6 (w2.heap.size + 1) 26 dAbc := m26
  have hlt6 := m26.lt
  clear hsum hh6 m26 m16 B6 q6 k6 hcv Hw3 Hw4 HG ht6 hg5 hg4 hs6 Hs3 hk
  go_wp2_with fail
  go_region_law (first
    | (go_simp; go_at_call 23; refine Hsum.out.mono ?_; rintro e w7 ⟨rfl, b7⟩; have hh7 := Hh6.out.below b7; have Hl7 := Lib.hid (len_any hh7); have z7 := Hm26.out.below b7 (by exact hlt6); have HB7 := Lib.hid (HB6.out.trans (b7.mono HB6.out.size)); clear hh7 b7; dsimp only)
    | (go_simp; go_at_call 24; refine Hl7.out.mono ?_; rintro e w8 ⟨rfl, rfl⟩; dsimp only))
  all_goals go_wp2
  all_goals go_ret
  all_goals exact ⟨rfl, HB7.out⟩
end Go.Proofs.YtnkkjfkchmlogaaDoor
