/- A map of one sort or none: what look-ups and stores do. A copy of a value without bytes. Put on a shelf with room for one sort, values without bytes. Put on a shelf that is full. values.place and values.Pair; what is signed of a value without bytes. values.numberOf, values.PairOf; what is signed of a value without bytes. clepsydralaw12.alive: the fixed calls. -/
import Derived.Test.YthipdagebijbiaaGreatDoorProg
import Derived.WalkKit
import Derived.Below
import Derived.Laws.CopyOwn
import Derived.Deep.QuietTactic
import Derived.BigQuiet
import Derived.Lib.Hide
import Derived.RangeFuncBox
import Derived.Deep.RegionHeld
import Derived.Lib.SliceRun
import Derived.Laws.CopyRow
import Derived.Laws.Rows
import Derived.Laws.BitsAllLaws
import Derived.OwnWalk
namespace Go.Proofs.YthipdagebijbiaaGreatDoor.Vv
open Go.RowKit
set_option linter.unusedVariables false
set_option linter.unusedSimpArgs false
set_option maxRecDepth 100000

def zeroV : Value := .agg #[.int .u32 0, .int .u32 0, .slice none 0 0, .slice none 0 0]
theorem run_getObj {P : Program} {w : World} {m : Nat} {es : Array MapEntry} {c : Nat} (h : w.heap[m]? = some (.map es c)) : (getObj m).run P w = .ok (.map es c) w := by simp [getObj, Sem.run, h]
theorem run_setObj {P : Program} {w : World} {m : Nat} {es : Array MapEntry} {c : Nat} (o' : Obj) (h : w.heap[m]? = some (.map es c)) : (setObj m o').run P w = .ok () (w.putObj m o') := by simp [setObj, Sem.run, h, World.putObj]
theorem run_zero33 (w : World) : (zeroValue 25).run Tryz.prog w = .ok zeroV w := by kernel_rfl
theorem run_check (b : Bool) (k : Int) (w : World) : (Instr.checkKey b 10000 3 (.int .i64 k)).run Tryz.prog w = .ok () w := by
  unfold Instr.checkKey
  simp only [Sem.run_bind, run_underlying Tryz.underlying3, Result.andThen]
  rfl
theorem look_empty {w : World} {m c : Nat} (h : w.heap[m]? = some (.map #[] c)) (k : Int) : (Instr.lookup 93 (.map (some m)) (.int .i64 k) true).run Tryz.prog w = .ok (.tuple #[zeroV, .bool false]) w := by
  simp only [Instr.lookup, Sem.run_bind, run_underlying Tryz.underlying93, Result.andThen, run_getObj h, Sem.run_pure, run_check, Instr.findKey, run_underlying Tryz.underlying3, Instr.findNow, run_zero33, if_true]
theorem look_one {w : World} {m c b : Nat} {k0 : Int} {v : Value} (h : w.heap[m]? = some (.map #[⟨.int .i64 k0, v, b⟩] c)) (k : Int) : (Instr.lookup 93 (.map (some m)) (.int .i64 k) true).run Tryz.prog w = .ok (if k = k0 then .tuple #[v, .bool true] else .tuple #[zeroV, .bool false]) w := by
  by_cases hk : k = k0
  · subst hk
    simp [Instr.lookup, Sem.run_bind, run_underlying Tryz.underlying93, Result.andThen, run_getObj h, Sem.run_pure, run_check, Instr.findKey, run_underlying Tryz.underlying3, Instr.findNow, Instr.sameNow]
  · have hb : (k == k0) = false := by simp [hk]
    simp [Instr.lookup, Sem.run_bind, run_underlying Tryz.underlying93, Result.andThen, run_getObj h, run_check, Instr.findKey, run_underlying Tryz.underlying3, Instr.findNow, Instr.sameNow, hb, hk, zeroV]
theorem put_empty {w : World} {m c : Nat} (h : w.heap[m]? = some (.map #[] c)) (k : Int) (v : Value) : (Instr.mapUpdate 93 (.map (some m)) (.int .i64 k) v).run Tryz.prog w = .ok () (w.putObj m (.map #[⟨.int .i64 k, v, c⟩] (c + 1))) := by
  simp [Instr.mapUpdate, Sem.run_bind, run_underlying Tryz.underlying93, Result.andThen, run_getObj h, run_setObj _ h, run_check, Instr.findKey, run_underlying Tryz.underlying3, Instr.findNow]
theorem put_one {w : World} {m c b : Nat} {k : Int} {v0 : Value} (h : w.heap[m]? = some (.map #[⟨.int .i64 k, v0, b⟩] c)) (v : Value) : (Instr.mapUpdate 93 (.map (some m)) (.int .i64 k) v).run Tryz.prog w = .ok () (w.putObj m (.map #[⟨.int .i64 k, v, b⟩] c)) := by
  simp [Instr.mapUpdate, Sem.run_bind, run_underlying Tryz.underlying93, Result.andThen, run_getObj h, run_setObj _ h, run_check, Instr.findKey, run_underlying Tryz.underlying3, Instr.findNow, Instr.sameNow, Instr.keyThatStays, Instr.sameBits]
end Go.Proofs.YthipdagebijbiaaGreatDoor.Vv
namespace Go.Proofs.YthipdagebijbiaaGreatDoor.Vv
open Go.RowKit
set_option linter.unusedVariables false
set_option maxRecDepth 100000

theorem len_map {w : World} {m : Nat} {es : Array MapEntry} {c : Nat} (h : w.heap[m]? = some (.map es c)) (ty : TypeId) : (Builtin.len_ #[93] ty #[.map (some m)]).run Tryz.prog w = .ok (.int .i64 (es.size : Int)) w := by
  simp [Builtin.len_, Sem.run_bind, run_underlying Tryz.underlying93, Result.andThen, run_getObj h, goInt]
def Vz (ts : Nat) : Value := .agg #[.int .u32 (ts : Int), .int .u32 0, .slice none 0 0, .slice none 0 0]
theorem cell_block {W W' : World} {b j : Nat} (h : W'.heap[b]? = W.heap[b]?) : W'.cell? ⟨b, j, none⟩ = W.cell? ⟨b, j, none⟩ := by unfold World.cell?; rw [h]
theorem cell_put {w : World} {m g j : Nat} {v : Value} {o : Obj} (h : w.cell? ⟨g, j, none⟩ = some v) (hne : g ≠ m) : (w.putObj m o).cell? ⟨g, j, none⟩ = some v := (cell_block (World.putObj_heap_other hne)).trans h
theorem not_map {w : World} {m g : Nat} {v : Value} {es : Array MapEntry} {c : Nat} (h : w.cell? ⟨g, 0, none⟩ = some v) (hm : w.heap[m]? = some (.map es c)) : g ≠ m := by
  intro e
  subst e
  simp [World.cell?, hm] at h
theorem run_storeVar_row {P : Program} (w : World) (g : Nat) (ty : TypeId) (cs : List Value) (t : TypeId) (cur : Array Value) (hg : w.heap[g]? = some (.cells cur t (0, 0)))
    (h1 : ∀ v ∈ cs, v.oneCell' = true) (hs : cs.length = cur.size) (hi : (P.info? ty).map (·.size) = some cs.length) :
    (storeVar ty ⟨g, 0, none⟩ (.agg cs.toArray)).run P w = .ok () (w.setRow g cs.toArray) := by
  cases hq : P.info? ty with
  | none => simp [hq] at hi
  | some i =>
    have hsz : i.size = cs.length := by simpa [hq] using hi
    have hst := run_storeCells_at (P := P) g 0 t cs 0 cur w hg (by omega) h1
    have e : (List.take (0 + 0) cur.toList ++ cs ++ List.drop (0 + 0 + cs.length) cur.toList).toArray = cs.toArray := by
      rw [List.drop_eq_nil_of_le (by simp; omega)]; simp
    rw [e] at hst
    simp [storeVar, Sem.run_bind, sizeOf, typeInfo, hq, hsz, Value.cells, hst]
theorem wpList_store_row {P : Program} {ops : Array Oper} {rest : List Oper} {o : Oper} {a : Act} {w : World} {Q : Exit → Act → World → Prop} (hgd : o.guard = none) (hd : o.dst = none) (ty : TypeId) (x v : Operand) (ho : o.op = .store ty x v)
    (g : Nat) (hx : a.eval x = .pointer (some ⟨g, 0, none⟩)) (cs : List Value) (hv : a.eval v = .agg cs.toArray) (t : TypeId) (cur : Array Value) (hg : w.heap[g]? = some (.cells cur t (0, 0)))
    (h1 : ∀ v ∈ cs, v.oneCell' = true) (hs : cs.length = cur.size) (hi : (P.info? ty).map (·.size) = some cs.length)
    (h : wpList P ops Q rest a (w.setRow g cs.toArray)) : wpList P ops Q (o :: rest) a w := by
  refine wpList_plain hgd fun K hK => ?_
  unfold Oper.wp execOp
  simp only [ho, hx, hv, Instr.storeAt, Instr.sureAddr, Sem.run_bind, Sem.run_pure, Result.andThen_ok, run_storeVar_row w g ty cs t cur hg h1 hs hi]
  have := hK _ _ h
  simpa [Oper.upon, hd, Act.put] using this
theorem clone_nil (c : Nat) (w : World) : Calls Tryz.prog 29 #[.slice none 0 c] w fun e w' => e = .returned (.slice none 0 0) ∧ w = w' := by
  have q31 : ∀ (w : World) (a : Option Addr) (n c n' c' : Nat), (binOp .eql 23 (.slice a n c) (.slice none n' c')).run Tryz.prog w = .ok (.bool a.isNone) w := fun w a n c n' c' => Lib.run_eql_slice_nil w _ _ a n c n' c' Tryz.underlying23
  go_enter Tryz.func29, Tryz.ntmps29
  go_wp2
  go_ret
  exact ⟨rfl, rfl⟩
def ObjV (ts : Nat) : Obj := .cells #[.int .u32 (ts : Int), .int .u32 0, .slice none 0 0, .slice none 0 0] 25
structure BoxV (w : World) (g ts : Nat) : Prop where
  at_ : w.heap[g]? = some (ObjV ts)
theorem BoxV.cells {w : World} {g ts : Nat} (h : BoxV w g ts) : w.cell? ⟨g, 0, none⟩ = some (.int .u32 (ts : Int)) ∧ w.cell? ⟨g, 1, none⟩ = some (.int .u32 0) ∧ w.cell? ⟨g, 2, none⟩ = some (.slice none 0 0) ∧ w.cell? ⟨g, 3, none⟩ = some (.slice none 0 0) := by
  have := h.at_
  refine ⟨?_, ?_, ?_, ?_⟩ <;> simp [World.cell?, this, ObjV]
theorem BoxV.froz {w : World} {g ts : Nat} (h : BoxV w g ts) (j : Nat) : w.frozen? ⟨g, j, none⟩ = false := by simp [World.frozen?, h.at_, ObjV]
theorem BoxV.lt {w : World} {g ts : Nat} (h : BoxV w g ts) : g < w.heap.size := (Array.getElem?_eq_some_iff.1 h.at_).1
theorem BoxV.new (w : World) (ts : Nat) : BoxV (w.alloc (ObjV ts)) w.heap.size ts := ⟨World.alloc_heap_new w _⟩
theorem BoxV.alloc {w : World} {g ts : Nat} (h : BoxV w g ts) (o : Obj) : BoxV (w.alloc o) g ts := ⟨(Below.heap_alloc _ _ _ h.lt).trans h.at_⟩
theorem BoxV.below {w w' : World} {g ts : Nat} (h : BoxV w g ts) (b : Below w.heap.size w w') : BoxV w' g ts := ⟨(b.block g h.lt).trans h.at_⟩
theorem BoxV.same2 {w : World} {g ts : Nat} (h : BoxV w g ts) : w.setCell ⟨g, 2, none⟩ (.slice none 0 0) = w := by
  have hk := h.at_
  have : w.heap.modify g (fun o => match o with | .cells c elem frozen => .cells (c.setIfInBounds 2 (.slice none 0 0)) elem frozen | o => o) = w.heap := by
    apply Array.ext
    · simp
    · intro i h1 h2
      rw [Array.getElem_modify]
      split
      · next e => subst e; rw [(Array.getElem?_eq_some_iff.1 hk).2]; rfl
      · rfl
  show { w with heap := w.heap.modify g _ } = w
  have e := congrArg (fun x => ({ w with heap := x } : World)) this
  exact e
theorem BoxV.same3 {w : World} {g ts : Nat} (h : BoxV w g ts) : w.setCell ⟨g, 3, none⟩ (.slice none 0 0) = w := by
  have hk := h.at_
  have : w.heap.modify g (fun o => match o with | .cells c elem frozen => .cells (c.setIfInBounds 3 (.slice none 0 0)) elem frozen | o => o) = w.heap := by
    apply Array.ext
    · simp
    · intro i h1 h2
      rw [Array.getElem_modify]
      split
      · next e => subst e; rw [(Array.getElem?_eq_some_iff.1 hk).2]; rfl
      · rfl
  show { w with heap := w.heap.modify g _ } = w
  have e := congrArg (fun x => ({ w with heap := x } : World)) this
  exact e
set_option maxHeartbeats 1000000 in
/-- a copy of a value without bytes -/
theorem copied_nil (ts : Nat) (w : World) : Calls Tryz.prog 46 #[.agg #[.int .u32 (ts : Int), .int .u32 0, .slice none 0 0, .slice none 0 0]] w fun e w' => e = .returned (.agg #[.int .u32 (ts : Int), .int .u32 0, .slice none 0 0, .slice none 0 0]) ∧ Below w.heap.size w w' := by
  obtain ⟨w2, hw2⟩ : ∃ w2, w2 = (w.alloc (ObjV ts)).alloc (ObjV 0) := ⟨_, rfl⟩
  have x2 : BoxV w2 w.heap.size ts := by rw [hw2]; exact (BoxV.new w ts).alloc _
  have y2 : BoxV w2 (w.heap.size + 1) 0 := by
    rw [hw2]
    have := BoxV.new (w.alloc (ObjV ts)) 0
    rwa [World.size_alloc] at this
  have b2 : Below w.heap.size w w2 := by rw [hw2]; exact ((Below.refl _ _).alloc (Nat.le_refl _) _).alloc (by simp) _
  have s2 : w2.heap.size = w.heap.size + 2 := by rw [hw2]; simp
  have HW := Lib.hid hw2
  clear hw2
  go_enter Tryz.func46, Tryz.ntmps46
  go_wp2
  change Code.wp _ _ _ _ ((w.alloc (ObjV ts)).alloc (ObjV 0))
  rw [← HW.out]
  obtain ⟨e0, e1, e2, e3⟩ := x2.cells
  have d0 : w2.drew.cell? ⟨w.heap.size, 2, none⟩ = some (.slice none 0 0) := e2
  have d1 : w2.drew.cell? ⟨w.heap.size, 3, none⟩ = some (.slice none 0 0) := e3
  have g2 := x2.same2
  have g3 := x2.same3
  have f0 : w2.drew.frozen? ⟨w.heap.size, 2, none⟩ = false := x2.froz 2
  have f1 : w2.drew.frozen? ⟨w.heap.size, 3, none⟩ = false := x2.froz 3
  go_region_held (fun w' => w'.cell? ⟨w.heap.size, 2, none⟩ = some (.slice none 0 0) ∧ w'.cell? ⟨w.heap.size, 3, none⟩ = some (.slice none 0 0))
    (first | exact ⟨d0, d1⟩ | go_keep)
    ((first
    | (go_at_call 29; refine (clone_nil _ _).mono ?_; rintro e w5 ⟨rfl, rfl⟩)))
  have k0 : w2.drew.cell? ⟨w.heap.size, 0, none⟩ = some (.int .u32 (ts : Int)) := e0
  have k1 : w2.drew.cell? ⟨w.heap.size, 1, none⟩ = some (.int .u32 0) := e1
  have ho : w2.drew.heap[w.heap.size + 1]? = some (.cells #[.int .u32 0, .int .u32 0, .slice none 0 0, .slice none 0 0] 25 (0, 0)) := y2.at_
  have hr1 := setRow_heap w2.drew (w.heap.size + 1) _ #[.int .u32 (ts : Int), .int .u32 0, .slice none 0 0, .slice none 0 0] 25 (0, 0) ho
  go_wp2_with (refine wpList_store_row rfl rfl 25 (.tmp 2) (.tmp 11) rfl (w.heap.size + 1) rfl [.int .u32 (ts : Int), .int .u32 0, .slice none 0 0, .slice none 0 0] rfl 25 _ ho (by intro v hv; simp at hv; rcases hv with rfl | rfl | rfl | rfl <;> rfl) rfl (by kernel_rfl) ?_)
  exact bodyPost_ret (v := .agg #[.int .u32 (ts : Int), .int .u32 0, .slice none 0 0, .slice none 0 0]) (results_cell_row rfl _ _ (w.heap.size + 1) 25 _ (0, 0) _ rfl hr1 Tryz.underlying25 rfl (by kernel_rfl)) rfl ⟨rfl, below_setRow b2.drew (Nat.le_succ _) _⟩
end Go.Proofs.YthipdagebijbiaaGreatDoor.Vv
namespace Go.Proofs.YthipdagebijbiaaGreatDoor.Vv
open Go.RowKit
set_option linter.unusedVariables false
set_option maxRecDepth 100000

/-- a shelf with room for one: its cells, its map -/
structure Shelf1 (w : World) (g m : Nat) (es : Array MapEntry) (c : Nat) : Prop where
  c0 : w.cell? ⟨g, 0, none⟩ = some (.int .i64 1)
  c1 : w.cell? ⟨g, 1, none⟩ = some (.map (some m))
  hm : w.heap[m]? = some (.map es c)
theorem cell_more {w : World} {p : Addr} {v : Value} (h : w.cell? p = some v) (X : Obj) : (w.alloc X).cell? p = some v :=
  ((Below.refl w.heap.size w).alloc (Nat.le_refl _) X).cell (World.block_lt_of_cell? w p h) |>.trans h
theorem heap_two {w : World} {m : Nat} {o : Obj} (h : w.heap[m]? = some o) (X Y : Obj) : ((w.alloc X).alloc Y).heap[m]? = some o := by
  have hl := (Array.getElem?_eq_some_iff.1 h).1
  exact (Below.heap_alloc _ _ _ (by simp; omega)).trans ((Below.heap_alloc _ _ _ hl).trans h)
theorem BoxV.put {w : World} {m g ts : Nat} {o : Obj} (h : BoxV w g ts) (hne : g ≠ m) : BoxV (w.putObj m o) g ts := ⟨(World.putObj_heap_other hne).trans h.at_⟩
set_option maxHeartbeats 1000000 in
theorem put_a {w : World} {g m : Nat} (h : Shelf1 w g m #[] 0) (k ts : Nat) (hk : k ≤ 1000) :
    Calls Tryz.prog 20 #[.pointer (some ⟨g, 0, none⟩), .int .i64 (k : Int), .agg #[.int .u32 (ts : Int), .int .u32 0, .slice none 0 0, .slice none 0 0]] w fun e w' => e = .returned (.int .i64 0) ∧ Shelf1 w' g m #[⟨.int .i64 (k : Int), Vz ts, 0⟩] 1 ∧ w.grownBy w' (some m) := by
  have c0 := h.c0
  have c1 := h.c1
  have c01 := fun X => cell_more c0 X
  have c11 := fun X => cell_more c1 X
  have c02 := fun X Y => cell_more (cell_more c0 X) Y
  have c12 := fun X Y => cell_more (cell_more c1 X) Y
  have c03 := fun X Y Z => cell_more (cell_more (cell_more c0 X) Y) Z
  have c13 := fun X Y Z => cell_more (cell_more (cell_more c1 X) Y) Z
  have hl := fun X Y => look_empty (heap_two h.hm X Y) (k : Int)
  unfold zeroV at hl
  go_enter Tryz.func20, Tryz.ntmps20
  go_wp2
  obtain ⟨w3, hw3⟩ : ∃ w3, w3 = ((w.alloc (.cells #[.int .u32 (ts : Int), .int .u32 0, .slice none 0 0, .slice none 0 0] 25)).alloc (.cells #[.int .u32 (ts : Int), .int .u32 0, .slice none 0 0, .slice none 0 0] 25)).alloc (.cells #[.int .u32 0, .int .u32 0, .slice none 0 0, .slice none 0 0] 25) := ⟨_, rfl⟩
  have d0 : w3.cell? ⟨g, 0, none⟩ = some (.int .i64 1) := by rw [hw3]; exact c03 _ _ _
  have d1 : w3.cell? ⟨g, 1, none⟩ = some (.map (some m)) := by rw [hw3]; exact c13 _ _ _
  have d2 : w3.heap[m]? = some (.map #[] 0) := by
    have hlm := (Array.getElem?_eq_some_iff.1 h.hm).1
    rw [hw3]; exact (Below.heap_alloc _ _ _ (by simp; omega)).trans (heap_two h.hm _ _)
  have s3 : w3.heap.size = w.heap.size + 3 := by rw [hw3]; simp
  have q3 : w.grownBy w3 none := by rw [hw3]; exact ⟨rfl, rfl, rfl, by simp; omega, fun k hk _ => ((Below.heap_alloc _ _ _ (by simp; omega)).trans (Below.heap_alloc _ _ _ (by simp; omega))).trans (Below.heap_alloc _ _ _ hk)⟩
  have bx : BoxV w3 w.heap.size ts := by rw [hw3]; exact ((BoxV.new w ts).alloc _).alloc _
  rw [← hw3]
  clear c01 c11 c02 c12 c03 c13 hl hw3 c0 c1
  have e0 : w3.drew.cell? ⟨g, 0, none⟩ = some (.int .i64 1) := d0
  have e1 : w3.drew.cell? ⟨g, 1, none⟩ = some (.map (some m)) := d1
  have e2 : (Builtin.len_ #[93] 3 #[.map (some m)]).run Tryz.prog w3.drew = .ok (.int .i64 0) w3.drew := len_map (w := w3.drew) d2 3
  go_region_held (fun w' => w'.cell? ⟨g, 0, none⟩ = some (.int .i64 1) ∧ w'.cell? ⟨g, 1, none⟩ = some (.map (some m)) ∧ (Builtin.len_ #[93] 3 #[.map (some m)]).run Tryz.prog w' = .ok (.int .i64 0) w')
    (exact ⟨e0, e1, e2⟩) (fail)
  clear e2
  have hgm := not_map d0 d2
  have hsm : w.heap.size ≠ m := by have := (Array.getElem?_eq_some_iff.1 h.hm).1; omega
  have hml := (Array.getElem?_eq_some_iff.1 d2).1
  have hgl : g < w3.drew.heap.size := World.block_lt_of_cell? w3 _ d0
  have d2' : w3.drew.heap[m]? = some (.map #[] 0) := d2
  have q3' : w.grownBy w3.drew none := ⟨q3.os, q3.tape, q3.output, q3.size, fun k hk hn => q3.block k hk hn⟩
  have bx' : BoxV w3.drew w.heap.size ts := ⟨bx.at_⟩
  have hml' : m < w3.drew.heap.size := hml
  have t0 := fun X => cell_more e0 X
  have t1 := fun X => cell_more e1 X
  go_wp2
  clear t0 t1 d0 d1 d2 q3 bx hml s3
  generalize w3.drew = w4 at *
  have f0 : w4.drew.cell? ⟨g, 0, none⟩ = some (.int .i64 1) := e0
  have f1 : w4.drew.cell? ⟨g, 1, none⟩ = some (.map (some m)) := e1
  have f2 : w4.drew.heap[m]? = some (.map #[] 0) := d2'
  have hgl2 : g < w4.drew.heap.size := hgl
  have hml2 : m < w4.drew.heap.size := hml'
  have bd : BoxV w4.drew w.heap.size ts := ⟨bx'.at_⟩
  obtain ⟨p0, p1, p2, p3⟩ := bd.cells
  go_region_held (fun w' => w'.cell? ⟨g, 1, none⟩ = some (.map (some m)) ∧ w'.cell? ⟨w.heap.size, 0, none⟩ = some (.int .u32 (ts : Int)) ∧ w'.cell? ⟨w.heap.size, 1, none⟩ = some (.int .u32 0) ∧ w'.cell? ⟨w.heap.size, 2, none⟩ = some (.slice none 0 0) ∧ w'.cell? ⟨w.heap.size, 3, none⟩ = some (.slice none 0 0))
    (first | exact ⟨x6, q0, q1, q2, q3⟩ | exact ⟨x5, o0, o1, o2, o3⟩ | exact ⟨f1, p0, p1, p2, p3⟩)
    ((first
    | (go_at_call 46; refine (copied_nil ts _).mono ?_; rintro e w5 ⟨rfl, b5⟩
       have x5 := (b5.cell (p := ⟨g, 1, none⟩) hgl2).trans f1
       have y5 := (b5.cell (p := ⟨g, 0, none⟩) hgl2).trans f0
       have h5 : w5.heap[m]? = some (.map #[] 0) := (b5.block m hml2).trans f2
       have bx5 := bd.below b5
       obtain ⟨o0, o1, o2, o3⟩ := bx5.cells
       have hu5 := put_empty h5 (k : Int) (.agg #[.int .u32 (ts : Int), .int .u32 0, .slice none 0 0, .slice none 0 0])
       have x6 := cell_put (o := .map #[⟨.int .i64 (k : Int), .agg #[.int .u32 (ts : Int), .int .u32 0, .slice none 0 0, .slice none 0 0], 0⟩] (0 + 1)) x5 hgm
       have bx6 := bx5.put (o := .map #[⟨.int .i64 (k : Int), .agg #[.int .u32 (ts : Int), .int .u32 0, .slice none 0 0, .slice none 0 0], 0⟩] (0 + 1)) hsm
       obtain ⟨q0, q1, q2, q3⟩ := bx6.cells)))
  go_wp2
  go_ret
  have gq : w.grownBy w5 none := ⟨b5.os.trans q3'.os, b5.tape.trans q3'.tape, b5.output.trans q3'.output, Nat.le_trans q3'.size b5.size, fun k hk hn => (b5.block k (Nat.lt_of_lt_of_le hk q3'.size)).trans (q3'.block k hk hn)⟩
  have gp := grownBy_putObj' w5 m (.map #[⟨.int .i64 (k : Int), .agg #[.int .u32 (ts : Int), .int .u32 0, .slice none 0 0, .slice none 0 0], 0⟩] (0 + 1))
  have hm5 := (Array.getElem?_eq_some_iff.1 h5).1
  exact ⟨rfl, ⟨cell_put y5 hgm, x6, World.putObj_heap_same hm5⟩, ⟨gp.os.trans gq.os, gp.tape.trans gq.tape, gp.output.trans gq.output, Nat.le_trans gq.size gp.size, fun k hk hn => (gp.block k (Nat.lt_of_lt_of_le hk gq.size) hn).trans (gq.block k hk (by simp))⟩⟩
end Go.Proofs.YthipdagebijbiaaGreatDoor.Vv
namespace Go.Proofs.YthipdagebijbiaaGreatDoor.Vv
open Go.RowKit
set_option linter.unusedVariables false
set_option maxRecDepth 100000

theorem Shelf1.grown {w w' : World} {g m : Nat} {es : Array MapEntry} {c : Nat} (h : Shelf1 w g m es c) (q : w.grownBy w' none) : Shelf1 w' g m es c := by
  have hg := World.block_lt_of_cell? w _ h.c0
  exact ⟨(cell_block (q.block g hg (by simp))).trans h.c0, (cell_block (q.block g hg (by simp))).trans h.c1, (q.block m (Array.getElem?_eq_some_iff.1 h.hm).1 (by simp)).trans h.hm⟩
set_option maxHeartbeats 1000000 in
theorem put_b {w : World} {g m : Nat} (k0 ts0 : Nat) (h : Shelf1 w g m #[⟨.int .i64 (k0 : Int), Vz ts0, 0⟩] 1) (k ts : Nat) (hk : k ≤ 1000) (hne : k ≠ k0) :
    Calls Tryz.prog 20 #[.pointer (some ⟨g, 0, none⟩), .int .i64 (k : Int), .agg #[.int .u32 (ts : Int), .int .u32 0, .slice none 0 0, .slice none 0 0]] w fun e w' => e = .returned (.int .i64 5) ∧ w.grownBy w' none := by
  have c0 := h.c0
  have c1 := h.c1
  have c01 := fun X => cell_more c0 X
  have c11 := fun X => cell_more c1 X
  have c02 := fun X Y => cell_more (cell_more c0 X) Y
  have c12 := fun X Y => cell_more (cell_more c1 X) Y
  have c03 := fun X Y Z => cell_more (cell_more (cell_more c0 X) Y) Z
  have c13 := fun X Y Z => cell_more (cell_more (cell_more c1 X) Y) Z
  have hl := fun X Y => look_one (heap_two h.hm X Y) (k : Int)
  have hne' : ¬ ((k : Int) = (k0 : Int)) := by omega
  simp only [hne', if_false] at hl
  unfold zeroV at hl
  go_enter Tryz.func20, Tryz.ntmps20
  go_wp2
  obtain ⟨w3, hw3⟩ : ∃ w3, w3 = ((w.alloc (.cells #[.int .u32 (ts : Int), .int .u32 0, .slice none 0 0, .slice none 0 0] 25)).alloc (.cells #[.int .u32 (ts : Int), .int .u32 0, .slice none 0 0, .slice none 0 0] 25)).alloc (.cells #[.int .u32 0, .int .u32 0, .slice none 0 0, .slice none 0 0] 25) := ⟨_, rfl⟩
  have d0 : w3.cell? ⟨g, 0, none⟩ = some (.int .i64 1) := by rw [hw3]; exact c03 _ _ _
  have d1 : w3.cell? ⟨g, 1, none⟩ = some (.map (some m)) := by rw [hw3]; exact c13 _ _ _
  have d2 : w3.heap[m]? = some (.map #[⟨.int .i64 (k0 : Int), Vz ts0, 0⟩] 1) := by
    have hlm := (Array.getElem?_eq_some_iff.1 h.hm).1
    rw [hw3]; exact (Below.heap_alloc _ _ _ (by simp; omega)).trans (heap_two h.hm _ _)
  have q3 : w.grownBy w3 none := by rw [hw3]; exact ⟨rfl, rfl, rfl, by simp; omega, fun k hk _ => ((Below.heap_alloc _ _ _ (by simp; omega)).trans (Below.heap_alloc _ _ _ (by simp; omega))).trans (Below.heap_alloc _ _ _ hk)⟩
  rw [← hw3]
  clear c01 c11 c02 c12 c03 c13 hl hw3 c0 c1
  have e0 : w3.drew.cell? ⟨g, 0, none⟩ = some (.int .i64 1) := d0
  have e1 : w3.drew.cell? ⟨g, 1, none⟩ = some (.map (some m)) := d1
  have e2 : (Builtin.len_ #[93] 3 #[.map (some m)]).run Tryz.prog w3.drew = .ok (.int .i64 1) w3.drew := len_map (w := w3.drew) d2 3
  go_region_held (fun w' => w'.cell? ⟨g, 0, none⟩ = some (.int .i64 1) ∧ w'.cell? ⟨g, 1, none⟩ = some (.map (some m)) ∧ (Builtin.len_ #[93] 3 #[.map (some m)]).run Tryz.prog w' = .ok (.int .i64 1) w')
    (exact ⟨e0, e1, e2⟩) (fail)
  go_wp2
  go_ret
  exact ⟨rfl, ⟨q3.os, q3.tape, q3.output, q3.size, fun k hk hn => q3.block k hk hn⟩⟩
set_option maxHeartbeats 1000000 in
theorem put_c {w : World} {g m : Nat} (k ts : Nat) (h : Shelf1 w g m #[⟨.int .i64 (k : Int), Vz ts, 0⟩] 1) (hk : k ≤ 1000) :
    Calls Tryz.prog 20 #[.pointer (some ⟨g, 0, none⟩), .int .i64 (k : Int), .agg #[.int .u32 (ts : Int), .int .u32 0, .slice none 0 0, .slice none 0 0]] w fun e w' => e = .returned (.int .i64 120) ∧ w.grownBy w' none := by
  have c0 := h.c0
  have c1 := h.c1
  have c01 := fun X => cell_more c0 X
  have c11 := fun X => cell_more c1 X
  have c02 := fun X Y => cell_more (cell_more c0 X) Y
  have c12 := fun X Y => cell_more (cell_more c1 X) Y
  have hl := fun X Y => look_one (heap_two h.hm X Y) (k : Int)
  simp only [if_true] at hl
  unfold Vz at hl
  go_enter Tryz.func20, Tryz.ntmps20
  go_wp2
  go_ret
  refine ⟨rfl, ⟨rfl, rfl, rfl, by simp; omega, fun k hk _ => ?_⟩⟩
  exact ((((Below.heap_alloc _ _ _ (by simp; omega)).trans (Below.heap_alloc _ _ _ (by simp; omega))).trans (Below.heap_alloc _ _ _ (by simp; omega))).trans (Below.heap_alloc _ _ _ (by simp; omega))).trans (Below.heap_alloc _ _ _ hk)
end Go.Proofs.YthipdagebijbiaaGreatDoor.Vv
namespace Go.Proofs.YthipdagebijbiaaGreatDoor.Vv
open Go.RowKit
set_option linter.unusedVariables false
set_option maxRecDepth 100000

def by4 (x : Nat) : List Nat := [x / 16777216 % 256, x / 65536 % 256, x / 256 % 256, x % 256]
def bs (xs : List Nat) : List Value := xs.map fun x : Nat => .int .u8 (x : Int)
theorem bs_one (xs : List Nat) : ∀ v ∈ bs xs, v.oneCell' = true := by
  intro v hv
  simp only [bs, List.mem_map] at hv
  obtain ⟨x, _, rfl⟩ := hv
  rfl
/-- a row of bytes in a block of type t -/
def Bb (w : World) (g t : Nat) (xs : List Nat) : Prop := w.heap[g]? = some (.cells (bs xs).toArray t (0, 0))
theorem Bb.lt {w : World} {g t : Nat} {xs : List Nat} (h : Bb w g t xs) : g < w.heap.size := (Array.getElem?_eq_some_iff.1 h).1
theorem Bb.cell {w : World} {g t : Nat} {xs : List Nat} (h : Bb w g t xs) {j x : Nat} (hx : xs[j]? = some x) : w.cell? ⟨g, j, none⟩ = some (.int .u8 (x : Int)) := by
  have h' : w.heap[g]? = _ := h
  simp [World.cell?, h', bs, hx]
def putAt (xs : List Nat) (o : Nat) (ys : List Nat) : List Nat := splice xs o ys
theorem bs_splice (xs ys : List Nat) (o : Nat) : splice (bs xs) o (bs ys) = bs (splice xs o ys) := by simp [splice, bs]
set_option maxHeartbeats 1000000 in
theorem place_any {w : World} {g t o n c a : Nat} {xs : List Nat} (hx : Bb w g t xs) (ha : a < 4294967296) (hn : 4 ≤ n) (ho : o + 4 ≤ xs.length) :
    Calls Tryz.prog 34 #[.slice (some ⟨g, o, none⟩) n c, .int .u32 (a : Int)] w fun e w' => (∃ v, e = .returned v) ∧ Bb w' g t (splice xs o (by4 a)) ∧ Below g w w' := by
  have hlt := hx.lt
  have e0 : (a : Int) / 16777216 = (((by4 a).getD 0 0 : Nat) : Int) := by simp only [by4, List.getD, List.getElem?_cons_zero, Option.getD_some]; omega
  have e1 : (a : Int) / 65536 % 256 = (((by4 a).getD 1 0 : Nat) : Int) := by simp only [by4, List.getD, List.getElem?_cons_zero, List.getElem?_cons_succ, Option.getD_some]; omega
  have e2 : (a : Int) / 256 % 256 = (((by4 a).getD 2 0 : Nat) : Int) := by simp only [by4, List.getD, List.getElem?_cons_zero, List.getElem?_cons_succ, Option.getD_some]; omega
  have e3 : (a : Int) % 256 = (((by4 a).getD 3 0 : Nat) : Int) := by simp only [by4, List.getD, List.getElem?_cons_zero, List.getElem?_cons_succ, Option.getD_some]; omega
  have hb4 : by4 a = [(by4 a).getD 0 0, (by4 a).getD 1 0, (by4 a).getD 2 0, (by4 a).getD 3 0] := rfl
  have Hb4 := Lib.hid hb4
  clear hb4
  generalize (by4 a).getD 0 0 = y0 at *
  generalize (by4 a).getD 1 0 = y1 at *
  generalize (by4 a).getD 2 0 = y2 at *
  generalize (by4 a).getD 3 0 = y3 at *
  obtain ⟨w1, hw1⟩ : ∃ w1, w1 = w.alloc (.cells #[.int .u8 (y0 : Int), .int .u8 (y1 : Int), .int .u8 (y2 : Int), .int .u8 (y3 : Int)] 98) := ⟨_, rfl⟩
  have b1 : Below g w w1 := by rw [hw1]; exact (Below.refl _ _).alloc (by omega) _
  have x1 : Bb w1 g t xs := by rw [hw1]; exact (Below.heap_alloc _ _ _ hlt).trans hx
  have f1 : Bb w1 w.heap.size 98 [y0, y1, y2, y3] := by rw [hw1]; exact World.alloc_heap_new w _
  have HW := Lib.hid hw1
  have X1 := Lib.hid x1
  have F1 := Lib.hid f1
  clear hw1 x1 f1 hx
  go_enter Tryz.func34, Tryz.ntmps34
  have HC := Lib.hid (show ∀ (j : Nat) (v : Value), (bs [y0, y1, y2, y3])[j]? = some v → w1.cell? ((⟨w.heap.size, 0, none⟩ : Addr).add j) = some v from fun j v hj => by
    simp only [bs, List.getElem?_map, Option.map_eq_some_iff] at hj
    obtain ⟨y, hy, rfl⟩ := hj
    have := F1.out.cell hy
    by_cases hj0 : j = 0
    · subst hj0; simpa [Addr.add] using this
    · simpa [Addr.add, hj0] using this)
  have Hmin := Lib.hid (show (bs [y0, y1, y2, y3]).length = Nat.min 4 n by simp only [bs, List.length_map, List.length_cons, List.length_nil, Nat.min_def]; split <;> omega)
  have Hfit := Lib.hid (show o + (bs [y0, y1, y2, y3]).length ≤ (bs xs).length by simp only [bs, List.length_map, List.length_cons, List.length_nil]; omega)
  go_wp2_with (change wpList _ _ _ _ _ (w.alloc (.cells #[.int .u8 (y0 : Int), .int .u8 (y1 : Int), .int .u8 (y2 : Int), .int .u8 (y3 : Int)] 98)); rw [← HW.out]; refine wpList_copy_splice rfl (.tmp 17) (.tmp 18) 23 23 rfl 5 Tryz.underlying23 (by kernel_rfl) (some ⟨g, o, none⟩) (some ⟨w.heap.size, 0, none⟩) n c 4 4 rfl rfl g o (bs xs) t X1.out (bs [y0, y1, y2, y3]) Hmin.out (fun _ => ⟨rfl, _, rfl, HC.out⟩) Hfit.out (bs_one _) g w b1 (Nat.le_refl _) ?_; intro w2 h2 b2)
  go_end0
  have h2' := h2.out
  rw [bs_splice] at h2'
  exact ⟨⟨_, rfl⟩, by rw [Hb4.out]; exact h2', b2⟩
theorem by4_lim (x : Nat) : ∀ y ∈ by4 x, y < 256 := by
  intro y hy
  simp [by4] at hy
  omega
set_option maxHeartbeats 1000000 in
theorem pair_any (a b : Nat) (ha : a < 4294967296) (hb : b < 4294967296) (w : World) :
    Calls Tryz.prog 22 #[.int .u32 (a : Int), .int .u32 (b : Int)] w fun e w' => ∃ g, e = .returned (.slice (some ⟨g, 0, none⟩) 8 8) ∧ Bb w' g 99 (by4 a ++ by4 b) ∧ Below w.heap.size w w' := by
  obtain ⟨w1, hw1⟩ : ∃ w1, w1 = w.alloc (.cells (bs (List.replicate 8 0)).toArray 99) := ⟨_, rfl⟩
  have x1 : Bb w1 w.heap.size 99 (List.replicate 8 0) := by rw [hw1]; exact World.alloc_heap_new w _
  have b1 : Below w.heap.size w w1 := by rw [hw1]; exact (Below.refl _ _).alloc (Nat.le_refl _) _
  have HW := Lib.hid hw1
  have P1 := Lib.hid (place_any (o := 0) (n := 8) (c := 8) x1 ha (by omega) (by simp))
  have P2 := Lib.hid (fun (w2 : World) (x2 : Bb w2 w.heap.size 99 (splice (List.replicate 8 0) 0 (by4 a))) => place_any (o := 4) (n := 4) (c := 4) x2 hb (by omega) (by simp [splice, by4]))
  have HR := Lib.hid (show splice (splice (List.replicate 8 0) 0 (by4 a)) 4 (by4 b) = by4 a ++ by4 b from rfl)
  clear hw1 x1 ha hb
  go_enter Tryz.func22, Tryz.ntmps22
  go_wp2_with fail
  change Calls _ _ _ (w.alloc (.cells (bs (List.replicate 8 0)).toArray 99)) _
  rw [← HW.out]
  refine P1.out.mono ?_
  rintro e w2 ⟨⟨v, rfl⟩, x2, b2⟩
  have X2 := Lib.hid x2
  have B2 := b1.trans b2
  clear x2 b1 b2
  go_wp2_with fail
  refine (P2.out w2 X2.out).mono ?_
  rintro e w3 ⟨⟨v3, rfl⟩, x3, b3⟩
  have X3 := Lib.hid x3
  have B3 := B2.trans b3
  clear x3 b3 B2
  go_wp2_with fail
  go_ret
  exact ⟨_, rfl, by have := X3.out; rw [HR.out] at this; exact this, B3⟩
end Go.Proofs.YthipdagebijbiaaGreatDoor.Vv
namespace Go.Proofs.YthipdagebijbiaaGreatDoor.Vv
open Go.RowKit
set_option linter.unusedVariables false
set_option maxRecDepth 100000

def wo (a b : Nat) : Nat := (bits .or .u32 (a : Int) (b : Int)).toNat
theorem wrap_u32_nonneg' (n : Int) : 0 ≤ IntKind.u32.wrap n := by rw [IntKind.wrap_u32']; omega
theorem bits_u32_nonneg (o : BinOp) (h : o = .xor ∨ o = .and ∨ o = .or) (a b : Int) : 0 ≤ bits o .u32 a b := by
  rcases h with rfl | rfl | rfl <;> exact wrap_u32_nonneg' _
theorem bits_u32_lt (o : BinOp) (h : o = .xor ∨ o = .and ∨ o = .or) (a b : Int) : bits o .u32 a b < 4294967296 := by
  have : ∀ n : Int, IntKind.u32.wrap n < 4294967296 := fun n => by rw [IntKind.wrap_u32']; omega
  rcases h with rfl | rfl | rfl <;> exact this _
theorem bits_wo (a b : Nat) : bits .or .u32 (a : Int) (b : Int) = (wo a b : Int) := by
  have := bits_u32_nonneg .or (by simp) (a : Int) (b : Int); unfold wo; omega
theorem wo_nat {a b : Nat} (ha : a < 4294967296) (hb : b < 4294967296) : wo a b = a ||| b := by
  unfold wo; rw [u32_or_nat a b ha hb]; rfl
theorem or_add {a b n : Nat} (hb : b < 2 ^ n) : a * 2 ^ n ||| b = a * 2 ^ n + b := by
  rw [Nat.mul_comm, ← Nat.two_pow_add_eq_or_of_lt hb]
def word (a b c d : Nat) : Nat := ((a * 256 + b) * 256 + c) * 256 + d
theorem Tryz.info5' : (Tryz.prog.info? 5).map (fun i => (i.zero, i.size, i.bytes)) = some (some (.int .u8 0), 1, 1) := by kernel_rfl
theorem then_ {W w w' : World} (B : Below W.heap.size W w) (b : Below w.heap.size w w') : Below W.heap.size W w' := B.trans (b.mono B.size)
theorem or_byte {n c : Nat} (hn : n < 16777216) (hc : c < 256) : bits .or .u32 ((n : Int) * 256) (c : Int) = ((n * 256 + c : Nat) : Int) := by
  rw [show ((n : Int) * 256) = ((n * 256 : Nat) : Int) by omega, bits_wo, wo_nat (by omega) (by omega), or_add (n := 8) (by omega)]
theorem or_zero (c : Nat) (hc : c < 256) : bits .or .u32 0 (c : Int) = (c : Int) := by
  have := or_byte (n := 0) (c := c) (by omega) hc
  simpa using this
set_option maxHeartbeats 1000000 in
theorem numberOf_any (x0 x1 x2 x3 : Nat) (h0 : x0 < 256) (h1 : x1 < 256) (h2 : x2 < 256) (h3 : x3 < 256) (w : World) :
    Calls Tryz.prog 47 #[.agg #[.int .u8 (x0 : Int), .int .u8 (x1 : Int), .int .u8 (x2 : Int), .int .u8 (x3 : Int)]] w fun e w' => e = .returned (.int .u32 ((word x0 x1 x2 x3 : Nat) : Int)) ∧ Below w.heap.size w w' := by
  have o0 := or_zero x0 h0
  have o1 := or_byte (n := x0) (c := x1) (by omega) h1
  obtain ⟨p2, e2⟩ : ∃ p2, x0 * 256 + x1 = p2 := ⟨_, rfl⟩
  rw [e2] at o1
  have l2 : p2 < 65536 := by omega
  have o2 := or_byte (n := p2) (c := x2) (by omega) h2
  obtain ⟨p3, e3⟩ : ∃ p3, p2 * 256 + x2 = p3 := ⟨_, rfl⟩
  rw [e3] at o2
  have l3 : p3 < 16777216 := by omega
  have o3 := or_byte (n := p3) (c := x3) (by omega) h3
  obtain ⟨p4, e4⟩ : ∃ p4, p3 * 256 + x3 = p4 := ⟨_, rfl⟩
  rw [e4] at o3
  have Hw := Lib.hid (show word x0 x1 x2 x3 = p4 by unfold word; omega)
  obtain ⟨w1, hw1⟩ : ∃ w1, w1 = w.alloc (.cells #[.int .u8 (x0 : Int), .int .u8 (x1 : Int), .int .u8 (x2 : Int), .int .u8 (x3 : Int)] 98) := ⟨_, rfl⟩
  have b1 : Below w.heap.size w w1 := by rw [hw1]; exact (Below.refl _ _).alloc (Nat.le_refl _) _
  have HW := Lib.hid hw1
  have i0 : ∀ W : World, (Instr.index 98 (.agg #[.int .u8 (x0 : Int), .int .u8 (x1 : Int), .int .u8 (x2 : Int), .int .u8 (x3 : Int)]) (.int .i64 0)).run Tryz.prog W = .ok (.int .u8 (x0 : Int)) W := fun W => by rfl
  have i1 : ∀ W : World, (Instr.index 98 (.agg #[.int .u8 (x0 : Int), .int .u8 (x1 : Int), .int .u8 (x2 : Int), .int .u8 (x3 : Int)]) (.int .i64 1)).run Tryz.prog W = .ok (.int .u8 (x1 : Int)) W := fun W => by rfl
  have i2 : ∀ W : World, (Instr.index 98 (.agg #[.int .u8 (x0 : Int), .int .u8 (x1 : Int), .int .u8 (x2 : Int), .int .u8 (x3 : Int)]) (.int .i64 2)).run Tryz.prog W = .ok (.int .u8 (x2 : Int)) W := fun W => by rfl
  have i3 : ∀ W : World, (Instr.index 98 (.agg #[.int .u8 (x0 : Int), .int .u8 (x1 : Int), .int .u8 (x2 : Int), .int .u8 (x3 : Int)]) (.int .i64 3)).run Tryz.prog W = .ok (.int .u8 (x3 : Int)) W := fun W => by rfl
  clear hw1 e2 e3 e4
  go_enter Tryz.func47, Tryz.ntmps47
  go_wp2
  refine wp_loop_rounds 5 ?_
  rw [rounds_succ]; go_wp2
  rw [rounds_succ]; go_wp2
  rw [rounds_succ]; go_wp2
  rw [rounds_succ]; go_wp2
  rw [rounds_succ]; go_wp2
  change bodyPost _ _ _ _ _ (w.alloc (.cells #[.int .u8 (x0 : Int), .int .u8 (x1 : Int), .int .u8 (x2 : Int), .int .u8 (x3 : Int)] 98))
  rw [← HW.out, Hw.out]
  go_ret
  exact ⟨rfl, b1⟩
set_option maxHeartbeats 1000000 in
theorem pairOf_bad (A : Option Addr) (n c : Nat) (hn : n ≠ 8) (hl : n ≤ 140737488351232) (w : World) : Calls Tryz.prog 21 #[.slice A n c] w fun e w' => e = .returned (.tuple #[.int .u32 0, .int .u32 0, .int .i64 3]) ∧ w = w' := by
  have h : ¬ ((n : Int) = 8) := by omega
  go_enter Tryz.func21, Tryz.ntmps21
  go_wp2
  go_ret3
  exact ⟨rfl, rfl⟩
set_option maxHeartbeats 2000000 in
theorem pairOf_eight {w : World} {g o c : Nat} (hc : 8 ≤ c) (hcm : c ≤ 9223372036854775807) (x : Nat → Nat) (hx : ∀ j, j < 8 → w.cell? ⟨g, o + j, none⟩ = some (.int .u8 ((x j : Nat) : Int))) (hl : ∀ j, x j < 256) :
    Calls Tryz.prog 21 #[.slice (some ⟨g, o, none⟩) 8 c] w fun e w' => e = .returned (.tuple #[.int .u32 ((word (x 0) (x 1) (x 2) (x 3) : Nat) : Int), .int .u32 ((word (x 4) (x 5) (x 6) (x 7) : Nat) : Int), .int .i64 0]) ∧ Below w.heap.size w w' := by
  have a0 := hx 0 (by omega)
  have a1 := hx 1 (by omega)
  have a2 := hx 2 (by omega)
  have a3 := hx 3 (by omega)
  have a4 := hx 4 (by omega)
  have a5 := hx 5 (by omega)
  have a6 := hx 6 (by omega)
  have a7 := hx 7 (by omega)
  have N1 := Lib.hid (numberOf_any (x 0) (x 1) (x 2) (x 3) (hl 0) (hl 1) (hl 2) (hl 3))
  have N2 := Lib.hid (numberOf_any (x 4) (x 5) (x 6) (x 7) (hl 4) (hl 5) (hl 6) (hl 7))
  have hgl : g < w.drew.heap.size := World.block_lt_of_cell? w _ a0
  generalize x 0 = x0 at *
  generalize x 1 = x1 at *
  generalize x 2 = x2 at *
  generalize x 3 = x3 at *
  generalize x 4 = x4 at *
  generalize x 5 = x5 at *
  generalize x 6 = x6 at *
  generalize x 7 = x7 at *
  rw [Nat.add_zero] at a0
  generalize word x0 x1 x2 x3 = u at *
  generalize word x4 x5 x6 x7 = v at *
  clear hx hl
  have d0 : w.drew.cell? ⟨g, o, none⟩ = some (.int .u8 (x0 : Int)) := a0
  have d1 : w.drew.cell? ⟨g, o + 1, none⟩ = some (.int .u8 (x1 : Int)) := a1
  have d2 : w.drew.cell? ⟨g, o + 2, none⟩ = some (.int .u8 (x2 : Int)) := a2
  have d3 : w.drew.cell? ⟨g, o + 3, none⟩ = some (.int .u8 (x3 : Int)) := a3
  have d4 : w.drew.cell? ⟨g, o + 4, none⟩ = some (.int .u8 (x4 : Int)) := a4
  have d5 : w.drew.cell? ⟨g, o + 5, none⟩ = some (.int .u8 (x5 : Int)) := a5
  have d6 : w.drew.cell? ⟨g, o + 6, none⟩ = some (.int .u8 (x6 : Int)) := a6
  have d7 : w.drew.cell? ⟨g, o + 7, none⟩ = some (.int .u8 (x7 : Int)) := a7
  have Bd : Below w.heap.size w w.drew := (Below.refl _ _).drew
  clear a0 a1 a2 a3 a4 a5 a6 a7
  have ar1 : ∀ W : World, (Instr.arrayAt 98 (.slice (some ⟨g, o, none⟩) 8 c)).run Tryz.prog W = .ok (.pointer (some ⟨g, o, none⟩)) W := fun W => by simp [Instr.arrayAt, run_underlying Tryz.underlying98]
  have ar2 : ∀ W : World, (Instr.arrayAt 98 (.slice (some ⟨g, o + 4, none⟩) 4 (c - 4))).run Tryz.prog W = .ok (.pointer (some ⟨g, o + 4, none⟩)) W := fun W => by simp [Instr.arrayAt, run_underlying Tryz.underlying98]
  go_enter Tryz.func21, Tryz.ntmps21
  go_wp2
  go_region_held (fun w' => w'.cell? ⟨g, o, none⟩ = some (.int .u8 (x0 : Int)) ∧ w'.cell? ⟨g, o + 1, none⟩ = some (.int .u8 (x1 : Int)) ∧ w'.cell? ⟨g, o + 2, none⟩ = some (.int .u8 (x2 : Int)) ∧ w'.cell? ⟨g, o + 3, none⟩ = some (.int .u8 (x3 : Int)) ∧ w'.cell? ⟨g, o + 4, none⟩ = some (.int .u8 (x4 : Int)) ∧ w'.cell? ⟨g, o + 5, none⟩ = some (.int .u8 (x5 : Int)) ∧ w'.cell? ⟨g, o + 6, none⟩ = some (.int .u8 (x6 : Int)) ∧ w'.cell? ⟨g, o + 7, none⟩ = some (.int .u8 (x7 : Int)))
    (first | exact ⟨k0, k1, k2, k3, k4, k5, k6, k7⟩ | exact ⟨f0, f1, f2, f3, f4, f5, f6, f7⟩ | exact ⟨d0, d1, d2, d3, d4, d5, d6, d7⟩)
    ((first
    | (go_at_call 47; with_reducible refine (N1.out _).mono ?_; rintro e w5 ⟨rfl, b5⟩
       have f0 := (b5.cell (p := ⟨g, o, none⟩) hgl).trans d0
       have f1 := (b5.cell (p := ⟨g, o + 1, none⟩) hgl).trans d1
       have f2 := (b5.cell (p := ⟨g, o + 2, none⟩) hgl).trans d2
       have f3 := (b5.cell (p := ⟨g, o + 3, none⟩) hgl).trans d3
       have f4 := (b5.cell (p := ⟨g, o + 4, none⟩) hgl).trans d4
       have f5 := (b5.cell (p := ⟨g, o + 5, none⟩) hgl).trans d5
       have f6 := (b5.cell (p := ⟨g, o + 6, none⟩) hgl).trans d6
       have f7 := (b5.cell (p := ⟨g, o + 7, none⟩) hgl).trans d7
       have hg5 : g < w5.heap.size := Nat.lt_of_lt_of_le hgl b5.size)
    | (go_at_call 47; with_reducible refine (N2.out _).mono ?_; rintro e w6 ⟨rfl, b6⟩
       have k0 := (b6.cell (p := ⟨g, o, none⟩) hg5).trans f0
       have k1 := (b6.cell (p := ⟨g, o + 1, none⟩) hg5).trans f1
       have k2 := (b6.cell (p := ⟨g, o + 2, none⟩) hg5).trans f2
       have k3 := (b6.cell (p := ⟨g, o + 3, none⟩) hg5).trans f3
       have k4 := (b6.cell (p := ⟨g, o + 4, none⟩) hg5).trans f4
       have k5 := (b6.cell (p := ⟨g, o + 5, none⟩) hg5).trans f5
       have k6 := (b6.cell (p := ⟨g, o + 6, none⟩) hg5).trans f6
       have k7 := (b6.cell (p := ⟨g, o + 7, none⟩) hg5).trans f7)))
  all_goals go_wp2
  all_goals go_ret3
  all_goals exact ⟨rfl, then_ (then_ Bd b5) b6⟩
set_option maxHeartbeats 2000000 in
/-- what is signed of nothing has twelve bytes -/
theorem signed_nil (w : World) : Calls Tryz.prog 13 #[.agg #[.int .u32 0, .int .u32 0, .slice none 0 0, .slice none 0 0]] w fun e w' => (∃ A c, e = .returned (.slice A 12 c)) ∧ Below w.heap.size w w' := by
  obtain ⟨w2, hw2⟩ : ∃ w2, w2 = (w.alloc (ObjV 0)).alloc (.cells (bs (List.replicate 12 0)).toArray 77) := ⟨_, rfl⟩
  have b2 : Below w.heap.size w w2 := by rw [hw2]; exact ((Below.refl _ _).alloc (Nat.le_refl _) _).alloc (by simp) _
  have x2 : Bb w2 (w.heap.size + 1) 77 (List.replicate 12 0) := by
    rw [hw2]
    have := World.alloc_heap_new (w.alloc (ObjV 0)) (.cells (bs (List.replicate 12 0)).toArray 77)
    rwa [World.size_alloc] at this
  have v2 : BoxV w2 w.heap.size 0 := by rw [hw2]; exact (BoxV.new w 0).alloc _
  have HP := Lib.hid (fun (w3 : World) (o : Nat) (n : Nat) (c : Nat) (x3 : Bb w3 (w.heap.size + 1) 77 (List.replicate 12 0)) (ho : o + 4 ≤ 12) (hn : 4 ≤ n) => place_any (a := 0) (o := o) (n := n) (c := c) x3 (by omega) hn (by simpa using ho))
  have j0 : ∀ W : World, (Instr.index 78 (.agg #[.int .u32 0, .int .u32 0, .int .u32 0]) (.int .i64 0)).run Tryz.prog W = .ok (.int .u32 0) W := fun W => by rfl
  have j1 : ∀ W : World, (Instr.index 78 (.agg #[.int .u32 0, .int .u32 0, .int .u32 0]) (.int .i64 1)).run Tryz.prog W = .ok (.int .u32 0) W := fun W => by rfl
  have j2 : ∀ W : World, (Instr.index 78 (.agg #[.int .u32 0, .int .u32 0, .int .u32 0]) (.int .i64 2)).run Tryz.prog W = .ok (.int .u32 0) W := fun W => by rfl
  obtain ⟨i5, hi5, hz0, hz1, hz2⟩ := info_parts Tryz.info5'
  have ap : ∀ W : World, (Builtin.append_ #[23, 23] 23 #[.slice (some ⟨w.heap.size + 1, 0, none⟩) 12 12, .slice none 0 0]).run Tryz.prog W = .ok (.slice (some ⟨w.heap.size + 1, 0, none⟩) 12 12) W := fun W => by
    simp [Builtin.append_, run_underlying Tryz.underlying23, sizeOf, typeInfo, hi5, Builtin.lenOf, Builtin.firstCells, storeCells]
  have HW := Lib.hid hw2
  have s2 : w2.heap.size = w.heap.size + 2 := by rw [hw2]; simp
  clear hw2
  go_enter Tryz.func13, Tryz.ntmps13
  go_wp2
  change Code.wp _ _ _ _ ((w.alloc (ObjV 0)).alloc (.cells (bs (List.replicate 12 0)).toArray 77))
  rw [← HW.out]
  refine wp_loop_rounds 4 ?_
  rw [rounds_succ]; go_wp2_with fail
  refine (HP.out w2 0 12 12 x2 (by omega) (by omega)).mono ?_
  rintro e w3 ⟨⟨r3, rfl⟩, x3, b3⟩
  rw [show splice (List.replicate 12 0) 0 (by4 0) = List.replicate 12 0 from rfl] at x3
  have c3 := b2.trans (b3.mono (Nat.le_succ _))
  have v3 : BoxV w3 w.heap.size 0 := ⟨(b3.block _ (Nat.lt_succ_self _)).trans v2.at_⟩
  clear b3 x2 b2 v2
  go_wp2_with fail
  rw [rounds_succ]; go_wp2_with fail
  refine (HP.out w3 4 8 8 x3 (by omega) (by omega)).mono ?_
  rintro e w4 ⟨⟨r4, rfl⟩, x4, b4⟩
  rw [show splice (List.replicate 12 0) 4 (by4 0) = List.replicate 12 0 from rfl] at x4
  have c4 := c3.trans (b4.mono (Nat.le_succ _))
  have v4 : BoxV w4 w.heap.size 0 := ⟨(b4.block _ (Nat.lt_succ_self _)).trans v3.at_⟩
  clear b4 x3 c3 v3
  go_wp2_with fail
  rw [rounds_succ]; go_wp2_with fail
  refine (HP.out w4 8 4 4 x4 (by omega) (by omega)).mono ?_
  rintro e w5 ⟨⟨r5, rfl⟩, x5, b5⟩
  rw [show splice (List.replicate 12 0) 8 (by4 0) = List.replicate 12 0 from rfl] at x5
  have c5 := c4.trans (b5.mono (Nat.le_succ _))
  have v5 : BoxV w5 w.heap.size 0 := ⟨(b5.block _ (Nat.lt_succ_self _)).trans v4.at_⟩
  clear b5 x4 c4 v4
  obtain ⟨m0, m1, m2, m3⟩ := v5.cells
  go_wp2_with fail
  rw [rounds_succ]; go_wp2
  have m2' : w5.drew.cell? ⟨w.heap.size, 2, none⟩ = some (.slice none 0 0) := m2
  have c5' : Below w.heap.size w w5.drew := c5.drew
  go_region_held (fun w' => w'.cell? ⟨w.heap.size, 2, none⟩ = some (.slice none 0 0)) (exact m2') (fail)
  go_wp2
  go_ret
  exact ⟨⟨_, _, rfl⟩, c5'⟩
end Go.Proofs.YthipdagebijbiaaGreatDoor.Vv
namespace Go.Proofs.YthipdagebijbiaaGreatDoor.Vv
open Go.RowKit
set_option linter.unusedVariables false
set_option maxRecDepth 100000

def Yes (w : World) (e : Ending) (w' : World) : Prop := e = .returned (.bool true) ∧ Below w.heap.size w w'
theorem below_of_grown {B : Nat} {w0 w w' : World} {r : Option Nat} (h : Below B w0 w) (q : w.grownBy w' r) (hB : B ≤ w.heap.size) (hr : ∀ k, r = some k → B ≤ k) : Below B w0 w' := h.grown q hB hr
theorem new_one (w : World) : Calls Tryz.prog 19 #[.int .i64 1] w fun e w' => e = .returned (.tuple #[.pointer (some ⟨w.heap.size + 1, 0, none⟩), .int .i64 0]) ∧ Below w.heap.size w w' ∧ w'.heap.size = w.heap.size + 2 ∧ Shelf1 w' (w.heap.size + 1) w.heap.size #[] 0 := by
  have hmm := @run_makeMap Tryz.prog
  obtain ⟨w2, hw2⟩ : ∃ w2, w2 = (w.alloc (.map #[] 0)).alloc (.cells #[.int .i64 1, .map (some w.heap.size)] 95) := ⟨_, rfl⟩
  have b2 : Below w.heap.size w w2 := by rw [hw2]; exact ((Below.refl _ _).alloc (Nat.le_refl _) _).alloc (by simp) _
  have s2 : w2.heap.size = w.heap.size + 2 := by rw [hw2]; simp
  have h2 : Shelf1 w2 (w.heap.size + 1) w.heap.size #[] 0 := by
    have a0 := World.alloc_heap_new (w.alloc (.map #[] 0)) (.cells #[.int .i64 1, .map (some w.heap.size)] 95)
    rw [World.size_alloc] at a0
    have a1 : ((w.alloc (.map #[] 0)).alloc (.cells #[.int .i64 1, .map (some w.heap.size)] 95)).heap[w.heap.size]? = some (.map #[] 0) := (Below.heap_alloc _ _ _ (by simp)).trans (World.alloc_heap_new w _)
    rw [hw2]
    exact ⟨by unfold World.cell?; rw [a0]; rfl, by unfold World.cell?; rw [a0]; rfl, a1⟩
  have HW := Lib.hid hw2
  have Hf := Lib.hid (show Below w.heap.size w w2 ∧ w2.heap.size = w.heap.size + 2 ∧ Shelf1 w2 (w.heap.size + 1) w.heap.size #[] 0 from ⟨b2, s2, h2⟩)
  clear hw2 b2 s2 h2
  go_enter Tryz.func19, Tryz.ntmps19
  go_wp2
  change bodyPost _ _ _ _ _ ((w.alloc (.map #[] 0)).alloc (.cells #[.int .i64 1, .map (some w.heap.size)] 95))
  rw [← HW.out]
  go_ret2
  exact ⟨rfl, Hf.out⟩
set_option maxHeartbeats 4000000 in
theorem alive_any (w : World) : Calls Tryz.prog 6 #[] w (Yes w) := by
  have HQ := Lib.hid (fun (w' : World) (g : Nat) (hx : Bb w' g 99 (by4 1 ++ by4 2)) => pairOf_eight (w := w') (g := g) (o := 0) (c := 8) (by omega) (by omega) (fun j => (by4 1 ++ by4 2).getD j 0) (fun j hj => by
    rw [Nat.zero_add]
    have hl : j < (by4 1 ++ by4 2).length := hj
    exact hx.cell (by simp [List.getD, List.getElem?_eq_getElem hl])) (fun j => by
    by_cases hj : j < 8
    · have : j = 0 ∨ j = 1 ∨ j = 2 ∨ j = 3 ∨ j = 4 ∨ j = 5 ∨ j = 6 ∨ j = 7 := by omega
      rcases this with rfl | rfl | rfl | rfl | rfl | rfl | rfl | rfl <;> decide
    · have : (by4 1 ++ by4 2)[j]? = none := List.getElem?_eq_none (by simp [by4]; omega)
      simp [List.getD, this]))
  go_enter Tryz.func6, Tryz.ntmps6
  go_wp2_with fail
  refine (new_one w).mono ?_
  rintro e w1 ⟨rfl, b1, s1, h1⟩
  go_wp2_with fail
  refine (put_a h1 5 1 (by omega)).mono ?_
  rintro e w2 ⟨rfl, h2, q2⟩
  have B2 := below_of_grown b1 q2 (by omega) (fun k e => by cases e; exact Nat.le_refl _)
  have z2 := q2.size
  clear h1 b1 q2
  go_wp2_with fail
  refine (put_b 5 1 h2 6 1 (by omega) (by omega)).mono ?_
  rintro e w3 ⟨rfl, q3⟩
  have h3 := h2.grown q3
  have B3 := below_of_grown B2 q3 (by omega) (fun k e => by cases e)
  have z3 := q3.size
  clear h2 B2 q3
  go_wp2_with fail
  refine (put_c 5 1 h3 (by omega)).mono ?_
  rintro e w4 ⟨rfl, q4⟩
  have B4 := below_of_grown B3 q4 (by omega) (fun k e => by cases e)
  have z4 := q4.size
  clear h3 B3 q4
  go_wp2_with fail
  refine (pair_any 1 2 (by omega) (by omega) w4).mono ?_
  rintro e w5 ⟨g, rfl, x5, b5⟩
  have B5 := B4.trans (b5.mono (by omega))
  have HQ5 := Lib.hid (HQ.out w5 g x5)
  have z5 := b5.size
  clear B4 b5 x5 HQ
  go_wp2_with fail
  refine HQ5.out.mono ?_
  rintro e w6 ⟨rfl, b6⟩
  rw [show word ((by4 1 ++ by4 2).getD 0 0) ((by4 1 ++ by4 2).getD 1 0) ((by4 1 ++ by4 2).getD 2 0) ((by4 1 ++ by4 2).getD 3 0) = 1 from rfl, show word ((by4 1 ++ by4 2).getD 4 0) ((by4 1 ++ by4 2).getD 5 0) ((by4 1 ++ by4 2).getD 6 0) ((by4 1 ++ by4 2).getD 7 0) = 2 from rfl]
  have B6 := B5.trans (b6.mono (by omega))
  have z6 := b6.size
  clear B5 b6 HQ5
  go_wp2_with fail
  refine (signed_nil w6).mono ?_
  rintro e w7 ⟨⟨A, c, rfl⟩, b7⟩
  have B7 := B6.trans (b7.mono (by omega))
  clear B6 b7
  go_wp2_with fail
  go_ret
  exact ⟨rfl, B7⟩
end Go.Proofs.YthipdagebijbiaaGreatDoor.Vv
