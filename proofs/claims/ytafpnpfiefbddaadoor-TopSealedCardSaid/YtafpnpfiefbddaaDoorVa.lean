/- values.Signed of a value of noughts: twelve bytes. -/
import Derived.Test.YtafpnpfiefbddaaDoorText2
import Derived.RangeFuncBox
import Derived.Laws.CopyOwn
import Derived.Laws.BitsAllLaws
import Derived.OwnWalk
import Derived.Deep.RegionHeld
import Derived.Lib.SliceRun
import Derived.Laws.CopyRow
import Derived.Laws.Rows
namespace Go.Proofs.YtafpnpfiefbddaaDoor.Va
set_option linter.unusedSimpArgs false
set_option linter.unusedVariables false
open Go.RowKit
set_option linter.unusedVariables false
set_option maxRecDepth 100000
def by4 (x : Nat) : List Nat := [x / 16777216 % 256, x / 65536 % 256, x / 256 % 256, x % 256]
def bs (xs : List Nat) : List Value := xs.map fun x : Nat => .int .u8 (x : Int)
/-- a row of bytes in a block of type t -/
def Bb (w : World) (g t : Nat) (xs : List Nat) : Prop := w.heap[g]? = some (.cells (bs xs).toArray t (0, 0))
theorem Bb.lt {w : World} {g t : Nat} {xs : List Nat} (h : Bb w g t xs) : g < w.heap.size := (Array.getElem?_eq_some_iff.1 h).1
theorem Bb.cell {w : World} {g t : Nat} {xs : List Nat} (h : Bb w g t xs) {j x : Nat} (hx : xs[j]? = some x) : w.cell? ⟨g, j, none⟩ = some (.int .u8 (x : Int)) := by
  have h' : w.heap[g]? = _ := h
  simp [World.cell?, h', bs, hx]
theorem bs_splice (xs ys : List Nat) (o : Nat) : splice (bs xs) o (bs ys) = bs (splice xs o ys) := by simp [splice, bs]
set_option maxHeartbeats 1000000 in
theorem place_any {w : World} {g t o n c a : Nat} {xs : List Nat} (hx : Bb w g t xs) (ha : a < 4294967296) (hn : 4 ≤ n) (ho : o + 4 ≤ xs.length) :
    Calls Tryd.prog 28 #[.slice (some ⟨g, o, none⟩) n c, .int .u32 (a : Int)] w fun e w' => (∃ v, e = .returned v) ∧ Bb w' g t (splice xs o (by4 a)) ∧ Below g w w' := by
  have hlt := hx.lt
  have e0 : (a : Int) / 16777216 = (((by4 a).getD 0 0 : Nat) : Int) := by simp only [by4, List.getD, List.getElem?_cons_zero, Option.getD_some]; omega
  have e1 : (a : Int) / 65536 % 256 = (((by4 a).getD 1 0 : Nat) : Int) := by simp only [by4, List.getD, List.getElem?_cons_zero, List.getElem?_cons_succ, Option.getD_some]; omega
  have e2 : (a : Int) / 256 % 256 = (((by4 a).getD 2 0 : Nat) : Int) := by simp only [by4, List.getD, List.getElem?_cons_zero, List.getElem?_cons_succ, Option.getD_some]; omega
  have e3 : (a : Int) % 256 = (((by4 a).getD 3 0 : Nat) : Int) := by simp only [by4, List.getD, List.getElem?_cons_zero, List.getElem?_cons_succ, Option.getD_some]; omega
  have hb4 : by4 a = [(by4 a).getD 0 0, (by4 a).getD 1 0, (by4 a).getD 2 0, (by4 a).getD 3 0] := rfl
  have Hb4 := Lib.hid hb4
  clear hb4
  generalize (by4 a).getD 0 0 = y0 at *
  generalize (by4 a).getD 1 0 = y1 at *
  generalize (by4 a).getD 2 0 = y2 at *
  generalize (by4 a).getD 3 0 = y3 at *
  obtain ⟨w1, hw1⟩ : ∃ w1, w1 = w.alloc (.cells #[.int .u8 (y0 : Int), .int .u8 (y1 : Int), .int .u8 (y2 : Int), .int .u8 (y3 : Int)] 100) := ⟨_, rfl⟩
  have b1 : Below g w w1 := by rw [hw1]; exact (Below.refl _ _).alloc (by omega) _
  have x1 : Bb w1 g t xs := by rw [hw1]; exact (Below.heap_alloc _ _ _ hlt).trans hx
  have f1 : Bb w1 w.heap.size 100 [y0, y1, y2, y3] := by rw [hw1]; exact World.alloc_heap_new w _
  have HW := Lib.hid hw1
  have X1 := Lib.hid x1
  have F1 := Lib.hid f1
  clear hw1 x1 f1 hx
  go_enter Tryd.func28, Tryd.ntmps28
  have HC := Lib.hid (show ∀ (j : Nat) (v : Value), (bs [y0, y1, y2, y3])[j]? = some v → w1.cell? ((⟨w.heap.size, 0, none⟩ : Addr).add j) = some v from fun j v hj => by
    simp only [bs, List.getElem?_map, Option.map_eq_some_iff] at hj
    obtain ⟨y, hy, rfl⟩ := hj
    have := F1.out.cell hy
    by_cases hj0 : j = 0
    · subst hj0; simpa [Addr.add] using this
    · simpa [Addr.add, hj0] using this)
  have Hmin := Lib.hid (show (bs [y0, y1, y2, y3]).length = Nat.min 4 n by simp only [bs, List.length_map, List.length_cons, List.length_nil, Nat.min_def]; split <;> omega)
  have Hfit := Lib.hid (show o + (bs [y0, y1, y2, y3]).length ≤ (bs xs).length by simp only [bs, List.length_map, List.length_cons, List.length_nil]; omega)
  go_wp2_with (change wpList _ _ _ _ _ (w.alloc (.cells #[.int .u8 (y0 : Int), .int .u8 (y1 : Int), .int .u8 (y2 : Int), .int .u8 (y3 : Int)] 100)); rw [← HW.out]; refine wpList_copy_splice rfl (.tmp 17) (.tmp 18) 25 25 rfl 5 Tryd.underlying25 (by kernel_rfl) (some ⟨g, o, none⟩) (some ⟨w.heap.size, 0, none⟩) n c 4 4 rfl rfl g o (bs xs) t X1.out (bs [y0, y1, y2, y3]) Hmin.out (fun _ => ⟨rfl, _, rfl, HC.out⟩) Hfit.out (bs_one _) g w b1 (Nat.le_refl _) ?_; intro w2 h2 b2)
  go_end0
  have h2' := h2.out
  rw [bs_splice] at h2'
  exact ⟨⟨_, rfl⟩, by rw [Hb4.out]; exact h2', b2⟩
def ObjV (ts : Nat) : Obj := .cells #[.int .u32 (ts : Int), .int .u32 0, .slice none 0 0, .slice none 0 0] 51
structure BoxV (w : World) (g ts : Nat) : Prop where
  at_ : w.heap[g]? = some (ObjV ts)
theorem BoxV.cells {w : World} {g ts : Nat} (h : BoxV w g ts) : w.cell? ⟨g, 0, none⟩ = some (.int .u32 (ts : Int)) ∧ w.cell? ⟨g, 1, none⟩ = some (.int .u32 0) ∧ w.cell? ⟨g, 2, none⟩ = some (.slice none 0 0) ∧ w.cell? ⟨g, 3, none⟩ = some (.slice none 0 0) := by
  have := h.at_
  refine ⟨?_, ?_, ?_, ?_⟩ <;> simp [World.cell?, this, ObjV]
theorem BoxV.lt {w : World} {g ts : Nat} (h : BoxV w g ts) : g < w.heap.size := (Array.getElem?_eq_some_iff.1 h.at_).1
theorem BoxV.new (w : World) (ts : Nat) : BoxV (w.alloc (ObjV ts)) w.heap.size ts := ⟨World.alloc_heap_new w _⟩
theorem BoxV.alloc {w : World} {g ts : Nat} (h : BoxV w g ts) (o : Obj) : BoxV (w.alloc o) g ts := ⟨(Below.heap_alloc _ _ _ h.lt).trans h.at_⟩
theorem Tryd.info5' : (Tryd.prog.info? 5).map (fun i => (i.zero, i.size, i.bytes)) = some (some (.int .u8 0), 1, 1) := by kernel_rfl
theorem then_ {W w w' : World} (B : Below W.heap.size W w) (b : Below w.heap.size w w') : Below W.heap.size W w' := B.trans (b.mono B.size)
set_option maxHeartbeats 2000000 in
/-- what is signed of nothing has twelve bytes -/
theorem signed_nil (w : World) : Calls Tryd.prog 13 #[.agg #[.int .u32 0, .int .u32 0, .slice none 0 0, .slice none 0 0]] w fun e w' => (∃ A c, e = .returned (.slice A 12 c)) ∧ Below w.heap.size w w' := by
  obtain ⟨w2, hw2⟩ : ∃ w2, w2 = (w.alloc (ObjV 0)).alloc (.cells (bs (List.replicate 12 0)).toArray 71) := ⟨_, rfl⟩
  have b2 : Below w.heap.size w w2 := by rw [hw2]; exact ((Below.refl _ _).alloc (Nat.le_refl _) _).alloc (by simp) _
  have x2 : Bb w2 (w.heap.size + 1) 71 (List.replicate 12 0) := by
    rw [hw2]
    have := World.alloc_heap_new (w.alloc (ObjV 0)) (.cells (bs (List.replicate 12 0)).toArray 71)
    rwa [World.size_alloc] at this
  have v2 : BoxV w2 w.heap.size 0 := by rw [hw2]; exact (BoxV.new w 0).alloc _
  have HP := Lib.hid (fun (w3 : World) (o : Nat) (n : Nat) (c : Nat) (x3 : Bb w3 (w.heap.size + 1) 71 (List.replicate 12 0)) (ho : o + 4 ≤ 12) (hn : 4 ≤ n) => place_any (a := 0) (o := o) (n := n) (c := c) x3 (by omega) hn (by simpa using ho))
  have j0 : ∀ W : World, (Instr.index 72 (.agg #[.int .u32 0, .int .u32 0, .int .u32 0]) (.int .i64 0)).run Tryd.prog W = .ok (.int .u32 0) W := fun W => by rfl
  have j1 : ∀ W : World, (Instr.index 72 (.agg #[.int .u32 0, .int .u32 0, .int .u32 0]) (.int .i64 1)).run Tryd.prog W = .ok (.int .u32 0) W := fun W => by rfl
  have j2 : ∀ W : World, (Instr.index 72 (.agg #[.int .u32 0, .int .u32 0, .int .u32 0]) (.int .i64 2)).run Tryd.prog W = .ok (.int .u32 0) W := fun W => by rfl
  obtain ⟨i5, hi5, hz0, hz1, hz2⟩ := info_parts Tryd.info5'
  have ap : ∀ W : World, (Builtin.append_ #[25, 25] 25 #[.slice (some ⟨w.heap.size + 1, 0, none⟩) 12 12, .slice none 0 0]).run Tryd.prog W = .ok (.slice (some ⟨w.heap.size + 1, 0, none⟩) 12 12) W := fun W => by
    simp [Builtin.append_, run_underlying Tryd.underlying25, sizeOf, typeInfo, hi5, Builtin.lenOf, Builtin.firstCells, storeCells]
  have HW := Lib.hid hw2
  have s2 : w2.heap.size = w.heap.size + 2 := by rw [hw2]; simp
  clear hw2
  go_enter Tryd.func13, Tryd.ntmps13
  go_wp2
  change Code.wp _ _ _ _ ((w.alloc (ObjV 0)).alloc (.cells (bs (List.replicate 12 0)).toArray 71))
  rw [← HW.out]
  refine wp_loop_rounds 4 ?_
  rw [rounds_succ]; go_wp2_with fail
  refine (HP.out w2 0 12 12 x2 (by omega) (by omega)).mono ?_
  rintro e w3 ⟨⟨r3, rfl⟩, x3, b3⟩
  rw [show splice (List.replicate 12 0) 0 (by4 0) = List.replicate 12 0 from rfl] at x3
  have c3 := b2.trans (b3.mono (Nat.le_succ _))
  have v3 : BoxV w3 w.heap.size 0 := ⟨(b3.block _ (Nat.lt_succ_self _)).trans v2.at_⟩
  clear b3 x2 b2 v2
  go_wp2_with fail
  rw [rounds_succ]; go_wp2_with fail
  refine (HP.out w3 4 8 8 x3 (by omega) (by omega)).mono ?_
  rintro e w4 ⟨⟨r4, rfl⟩, x4, b4⟩
  rw [show splice (List.replicate 12 0) 4 (by4 0) = List.replicate 12 0 from rfl] at x4
  have c4 := c3.trans (b4.mono (Nat.le_succ _))
  have v4 : BoxV w4 w.heap.size 0 := ⟨(b4.block _ (Nat.lt_succ_self _)).trans v3.at_⟩
  clear b4 x3 c3 v3
  go_wp2_with fail
  rw [rounds_succ]; go_wp2_with fail
  refine (HP.out w4 8 4 4 x4 (by omega) (by omega)).mono ?_
  rintro e w5 ⟨⟨r5, rfl⟩, x5, b5⟩
  rw [show splice (List.replicate 12 0) 8 (by4 0) = List.replicate 12 0 from rfl] at x5
  have c5 := c4.trans (b5.mono (Nat.le_succ _))
  have v5 : BoxV w5 w.heap.size 0 := ⟨(b5.block _ (Nat.lt_succ_self _)).trans v4.at_⟩
  clear b5 x4 c4 v4
  obtain ⟨m0, m1, m2, m3⟩ := v5.cells
  go_wp2_with fail
  rw [rounds_succ]; go_wp2
  have m2' : w5.drew.cell? ⟨w.heap.size, 2, none⟩ = some (.slice none 0 0) := m2
  have c5' : Below w.heap.size w w5.drew := c5.drew
  go_region_held (fun w' => w'.cell? ⟨w.heap.size, 2, none⟩ = some (.slice none 0 0)) (exact m2') (fail)
  go_wp2
  go_ret
  exact ⟨⟨_, _, rfl⟩, c5'⟩
end Go.Proofs.YtafpnpfiefbddaaDoor.Va
