/- A copy of a value without bytes. -/
import Derived.Test.YtonfpomgkgljiaaV1
import Derived.Deep.RegionHeld
import Derived.Lib.SliceRun
import Derived.Laws.CopyRow
import Derived.Laws.Rows
namespace Go.Proofs.Ytonfpomgkgljiaa
open Go.RowKit
set_option linter.unusedVariables false
set_option maxRecDepth 100000

theorem len_map {w : World} {m : Nat} {es : Array MapEntry} {c : Nat} (h : w.heap[m]? = some (.map es c)) (ty : TypeId) : (Builtin.len_ #[49] ty #[.map (some m)]).run Try.prog w = .ok (.int .i64 (es.size : Int)) w := by
  simp [Builtin.len_, Sem.run_bind, run_underlying Try.underlying49, Result.andThen, run_getObj h, goInt]
def Vz (ts : Nat) : Value := .agg #[.int .u32 (ts : Int), .int .u32 0, .slice none 0 0, .slice none 0 0]
theorem cell_block {W W' : World} {b j : Nat} (h : W'.heap[b]? = W.heap[b]?) : W'.cell? ⟨b, j, none⟩ = W.cell? ⟨b, j, none⟩ := by unfold World.cell?; rw [h]
theorem cell_put {w : World} {m g j : Nat} {v : Value} {o : Obj} (h : w.cell? ⟨g, j, none⟩ = some v) (hne : g ≠ m) : (w.putObj m o).cell? ⟨g, j, none⟩ = some v := (cell_block (World.putObj_heap_other hne)).trans h
theorem not_map {w : World} {m g : Nat} {v : Value} {es : Array MapEntry} {c : Nat} (h : w.cell? ⟨g, 0, none⟩ = some v) (hm : w.heap[m]? = some (.map es c)) : g ≠ m := by
  intro e
  subst e
  simp [World.cell?, hm] at h
theorem run_storeVar_row {P : Program} (w : World) (g : Nat) (ty : TypeId) (cs : List Value) (t : TypeId) (cur : Array Value) (hg : w.heap[g]? = some (.cells cur t (0, 0)))
    (h1 : ∀ v ∈ cs, v.oneCell' = true) (hs : cs.length = cur.size) (hi : (P.info? ty).map (·.size) = some cs.length) :
    (storeVar ty ⟨g, 0, none⟩ (.agg cs.toArray)).run P w = .ok () (w.setRow g cs.toArray) := by
  cases hq : P.info? ty with
  | none => simp [hq] at hi
  | some i =>
    have hsz : i.size = cs.length := by simpa [hq] using hi
    have hst := run_storeCells_at (P := P) g 0 t cs 0 cur w hg (by omega) h1
    have e : (List.take (0 + 0) cur.toList ++ cs ++ List.drop (0 + 0 + cs.length) cur.toList).toArray = cs.toArray := by
      rw [List.drop_eq_nil_of_le (by simp; omega)]; simp
    rw [e] at hst
    simp [storeVar, Sem.run_bind, sizeOf, typeInfo, hq, hsz, Value.cells, hst]
theorem wpList_store_row {P : Program} {ops : Array Oper} {rest : List Oper} {o : Oper} {a : Act} {w : World} {Q : Exit → Act → World → Prop} (hgd : o.guard = none) (hd : o.dst = none) (ty : TypeId) (x v : Operand) (ho : o.op = .store ty x v)
    (g : Nat) (hx : a.eval x = .pointer (some ⟨g, 0, none⟩)) (cs : List Value) (hv : a.eval v = .agg cs.toArray) (t : TypeId) (cur : Array Value) (hg : w.heap[g]? = some (.cells cur t (0, 0)))
    (h1 : ∀ v ∈ cs, v.oneCell' = true) (hs : cs.length = cur.size) (hi : (P.info? ty).map (·.size) = some cs.length)
    (h : wpList P ops Q rest a (w.setRow g cs.toArray)) : wpList P ops Q (o :: rest) a w := by
  refine wpList_plain hgd fun K hK => ?_
  unfold Oper.wp execOp
  simp only [ho, hx, hv, Instr.storeAt, Instr.sureAddr, Sem.run_bind, Sem.run_pure, Result.andThen_ok, run_storeVar_row w g ty cs t cur hg h1 hs hi]
  have := hK _ _ h
  simpa [Oper.upon, hd, Act.put] using this
theorem clone_nil (c : Nat) (w : World) : Calls Try.prog 35 #[.slice none 0 c] w fun e w' => e = .returned (.slice none 0 0) ∧ w = w' := by
  have q31 : ∀ (w : World) (a : Option Addr) (n c n' c' : Nat), (binOp .eql 31 (.slice a n c) (.slice none n' c')).run Try.prog w = .ok (.bool a.isNone) w := fun w a n c n' c' => Lib.run_eql_slice_nil w _ _ a n c n' c' Try.underlying31
  go_enter Try.func35, Try.ntmps35
  go_wp2
  go_ret
  exact ⟨rfl, rfl⟩
def ObjV (ts : Nat) : Obj := .cells #[.int .u32 (ts : Int), .int .u32 0, .slice none 0 0, .slice none 0 0] 33
structure BoxV (w : World) (g ts : Nat) : Prop where
  at_ : w.heap[g]? = some (ObjV ts)
theorem BoxV.cells {w : World} {g ts : Nat} (h : BoxV w g ts) : w.cell? ⟨g, 0, none⟩ = some (.int .u32 (ts : Int)) ∧ w.cell? ⟨g, 1, none⟩ = some (.int .u32 0) ∧ w.cell? ⟨g, 2, none⟩ = some (.slice none 0 0) ∧ w.cell? ⟨g, 3, none⟩ = some (.slice none 0 0) := by
  have := h.at_
  refine ⟨?_, ?_, ?_, ?_⟩ <;> simp [World.cell?, this, ObjV]
theorem BoxV.froz {w : World} {g ts : Nat} (h : BoxV w g ts) (j : Nat) : w.frozen? ⟨g, j, none⟩ = false := by simp [World.frozen?, h.at_, ObjV]
theorem BoxV.lt {w : World} {g ts : Nat} (h : BoxV w g ts) : g < w.heap.size := (Array.getElem?_eq_some_iff.1 h.at_).1
theorem BoxV.new (w : World) (ts : Nat) : BoxV (w.alloc (ObjV ts)) w.heap.size ts := ⟨World.alloc_heap_new w _⟩
theorem BoxV.alloc {w : World} {g ts : Nat} (h : BoxV w g ts) (o : Obj) : BoxV (w.alloc o) g ts := ⟨(Below.heap_alloc _ _ _ h.lt).trans h.at_⟩
theorem BoxV.below {w w' : World} {g ts : Nat} (h : BoxV w g ts) (b : Below w.heap.size w w') : BoxV w' g ts := ⟨(b.block g h.lt).trans h.at_⟩
theorem BoxV.same2 {w : World} {g ts : Nat} (h : BoxV w g ts) : w.setCell ⟨g, 2, none⟩ (.slice none 0 0) = w := by
  have hk := h.at_
  have : w.heap.modify g (fun o => match o with | .cells c elem frozen => .cells (c.setIfInBounds 2 (.slice none 0 0)) elem frozen | o => o) = w.heap := by
    apply Array.ext
    · simp
    · intro i h1 h2
      rw [Array.getElem_modify]
      split
      · next e => subst e; rw [(Array.getElem?_eq_some_iff.1 hk).2]; rfl
      · rfl
  show { w with heap := w.heap.modify g _ } = w
  have e := congrArg (fun x => ({ w with heap := x } : World)) this
  exact e
theorem BoxV.same3 {w : World} {g ts : Nat} (h : BoxV w g ts) : w.setCell ⟨g, 3, none⟩ (.slice none 0 0) = w := by
  have hk := h.at_
  have : w.heap.modify g (fun o => match o with | .cells c elem frozen => .cells (c.setIfInBounds 3 (.slice none 0 0)) elem frozen | o => o) = w.heap := by
    apply Array.ext
    · simp
    · intro i h1 h2
      rw [Array.getElem_modify]
      split
      · next e => subst e; rw [(Array.getElem?_eq_some_iff.1 hk).2]; rfl
      · rfl
  show { w with heap := w.heap.modify g _ } = w
  have e := congrArg (fun x => ({ w with heap := x } : World)) this
  exact e
set_option maxHeartbeats 1000000 in
/-- a copy of a value without bytes -/
theorem copied_nil (ts : Nat) (w : World) : Calls Try.prog 29 #[.agg #[.int .u32 (ts : Int), .int .u32 0, .slice none 0 0, .slice none 0 0]] w fun e w' => e = .returned (.agg #[.int .u32 (ts : Int), .int .u32 0, .slice none 0 0, .slice none 0 0]) ∧ Below w.heap.size w w' := by
  obtain ⟨w2, hw2⟩ : ∃ w2, w2 = (w.alloc (ObjV ts)).alloc (ObjV 0) := ⟨_, rfl⟩
  have x2 : BoxV w2 w.heap.size ts := by rw [hw2]; exact (BoxV.new w ts).alloc _
  have y2 : BoxV w2 (w.heap.size + 1) 0 := by
    rw [hw2]
    have := BoxV.new (w.alloc (ObjV ts)) 0
    rwa [World.size_alloc] at this
  have b2 : Below w.heap.size w w2 := by rw [hw2]; exact ((Below.refl _ _).alloc (Nat.le_refl _) _).alloc (by simp) _
  have s2 : w2.heap.size = w.heap.size + 2 := by rw [hw2]; simp
  have HW := Lib.hid hw2
  clear hw2
  go_enter Try.func29, Try.ntmps29
  go_wp2
  change Code.wp _ _ _ _ ((w.alloc (ObjV ts)).alloc (ObjV 0))
  rw [← HW.out]
  obtain ⟨e0, e1, e2, e3⟩ := x2.cells
  have d0 : w2.drew.cell? ⟨w.heap.size, 2, none⟩ = some (.slice none 0 0) := e2
  have d1 : w2.drew.cell? ⟨w.heap.size, 3, none⟩ = some (.slice none 0 0) := e3
  have g2 := x2.same2
  have g3 := x2.same3
  have f0 : w2.drew.frozen? ⟨w.heap.size, 2, none⟩ = false := x2.froz 2
  have f1 : w2.drew.frozen? ⟨w.heap.size, 3, none⟩ = false := x2.froz 3
  go_region_held (fun w' => w'.cell? ⟨w.heap.size, 2, none⟩ = some (.slice none 0 0) ∧ w'.cell? ⟨w.heap.size, 3, none⟩ = some (.slice none 0 0))
    (first | exact ⟨d0, d1⟩ | go_keep)
    ((first
    | (go_at_call 35; refine (clone_nil _ _).mono ?_; rintro e w5 ⟨rfl, rfl⟩)))
  have k0 : w2.drew.cell? ⟨w.heap.size, 0, none⟩ = some (.int .u32 (ts : Int)) := e0
  have k1 : w2.drew.cell? ⟨w.heap.size, 1, none⟩ = some (.int .u32 0) := e1
  have ho : w2.drew.heap[w.heap.size + 1]? = some (.cells #[.int .u32 0, .int .u32 0, .slice none 0 0, .slice none 0 0] 33 (0, 0)) := y2.at_
  have hr1 := setRow_heap w2.drew (w.heap.size + 1) _ #[.int .u32 (ts : Int), .int .u32 0, .slice none 0 0, .slice none 0 0] 33 (0, 0) ho
  go_wp2_with (refine wpList_store_row rfl rfl 33 (.tmp 2) (.tmp 11) rfl (w.heap.size + 1) rfl [.int .u32 (ts : Int), .int .u32 0, .slice none 0 0, .slice none 0 0] rfl 33 _ ho (by intro v hv; simp at hv; rcases hv with rfl | rfl | rfl | rfl <;> rfl) rfl (by kernel_rfl) ?_)
  exact bodyPost_ret (v := .agg #[.int .u32 (ts : Int), .int .u32 0, .slice none 0 0, .slice none 0 0]) (results_cell_row rfl _ _ (w.heap.size + 1) 33 _ (0, 0) _ rfl hr1 Try.underlying33 rfl (by kernel_rfl)) rfl ⟨rfl, below_setRow b2.drew (Nat.le_succ _) _⟩
end Go.Proofs.Ytonfpomgkgljiaa
