/- wire.parse: a packet is read, or the first fault is told. -/
import Derived.Test.YtompggkdjbkjjaaWiR9
import Derived.Deep.AppendLies
namespace Go.Proofs.Ytompggkdjbkjjaa.Wi
open Go.RowKit Go.Shelf
set_option linter.unusedVariables false
set_option linter.unusedSimpArgs false
set_option maxRecDepth 100000
attribute [local go_sem] Oper.semAt_some
theorem wpListIn_store_row {F : Fence} {n : Nat} {P : Program} {ops : Array Oper} {rest : List Oper} {o : Oper} {a : Act} {w : World} {Q : Exit → Act → World → Prop} (hgd : o.guard = none) (ty : TypeId) (x v : Operand) (ho : o.op = .store ty x v)
    (g : Nat) (cells : Array Value) (hx : a.eval x = .pointer (some ⟨g, 0, none⟩)) (hv : a.eval v = .agg cells) (t : TypeId) (old : Array Value) (hg : w.heap[g]? = some (.cells old t (0, 0)))
    (hi : (P.info? ty).map (·.size) = some cells.size) (hold : old.size = cells.size) (h1 : cells.all (·.oneCell') = true)
    (h : wpListIn F n P ops Q rest (a.put o.dst undef) (w.setRow g cells)) : wpListIn F n P ops Q (o :: rest) a w := by
  refine wpListIn_plain hgd fun K hK => ?_
  unfold Oper.wpIn
  refine ⟨?_, ?_⟩
  · simp [Oper.about, ho]
  · rw [Oper.semAt_plain F _ _ (by rw [ho]; intro c hc'; cases hc')]
    unfold execOp
    simp only [ho, hx, hv, Instr.storeAt, Instr.sureAddr, Sem.run_bind, Sem.run_pure, Result.andThen_ok, run_storeVar_row w g t ty old cells hg hi hold h1]
    exact hK _ _ h
theorem wpListIn_load_row {F : Fence} {n : Nat} {P : Program} {ops : Array Oper} {rest : List Oper} {o : Oper} {a : Act} {w : World} {Q : Exit → Act → World → Prop} (hgd : o.guard = none) (ty : TypeId) (x : Operand) (ho : o.op = .load ty x)
    (g : Nat) (hx : a.eval x = .pointer (some ⟨g, 0, none⟩)) (t : TypeId) (cs : Array Value) (fr : Nat × Nat) (d : TypeDesc) (hg : w.heap[g]? = some (.cells cs t fr))
    (hu : P.underlying ty = some d) (hd : (match d with | .struct _ | .array _ _ => true | _ => false) = true) (hi : (P.info? ty).map (·.size) = some cs.size)
    (h : wpListIn F n P ops Q rest (a.put o.dst (.agg cs)) w) : wpListIn F n P ops Q (o :: rest) a w := by
  refine wpListIn_plain hgd fun K hK => ?_
  unfold Oper.wpIn
  refine ⟨?_, ?_⟩
  · simp [Oper.about, ho]
  · rw [Oper.semAt_plain F _ _ (by rw [ho]; intro c hc'; cases hc')]
    unfold execOp
    simp only [ho, hx, Instr.loadAt, Instr.sureAddr, Sem.run_bind, Sem.run_pure, Result.andThen_ok, run_loadVar_row w g t ty cs fr d hg hu hd hi]
    exact hK _ _ h
theorem refused2 (a e : Int) (w : World) : Calls Try.prog 42 #[.int .i64 a, .int .i64 e] w fun en w' => en = .returned (.tuple #[pkV pk0, .int .i64 0, flV a e]) ∧ RowKit.Below w.heap.size w w' := refused_any a e w
theorem res31 {D : World} {s : Nat} {p : Pk} {k a e : Int} (hx : D.heap[s]? = some (.cells (pkC p) 79 (0, 0))) (hy : D.heap[s + 1]? = some (.cells #[.int .i64 k] 3 (0, 0))) (hz : D.heap[s + 1 + 1]? = some (.cells (flC a e) 81 (0, 0))) (tmps : Array Value)
    (h2 : tmps[2]? = some (.pointer (some ⟨s, 0, none⟩))) (h3 : tmps[3]? = some (.pointer (some ⟨s + 1, 0, none⟩))) (h4 : tmps[4]? = some (.pointer (some ⟨s + 1 + 1, 0, none⟩))) : (results Try.f39 tmps).run Try.prog D = .ok (res3 p k a e) D := by
  have rl1 := run_loadVar_row (P := Try.prog) D s 79 79 _ (0, 0) _ hx Try.underlying79 rfl s29
  have rl2 := run_loadVar_row (P := Try.prog) D (s + 1 + 1) 81 81 _ (0, 0) _ hz Try.underlying81 rfl s39
  have c1 : D.cell? ⟨s + 1, 0, none⟩ = some (.int .i64 k) := by rw [cell_of_row D _ 0 _ 3 (0, 0) hy]; rfl
  have rl3 : (loadVar 3 ⟨s + 1, 0, none⟩).run Try.prog D = .ok (.int .i64 k) D := by simp [go_sem, c1]
  simp [results, Try.results31, asAddr, h2, h3, h4, rl1, rl2, rl3, res3]
/-- the world behind the three stores of a result -/
def bw (w1 : World) (s : Nat) (p : Pk) (k a e : Int) : World := ((w1.setRow s (pkC p)).setCell ⟨s + 1, 0, none⟩ (.int .i64 k)).setRow (s + 1 + 1) (flC a e)
theorem bw_mid {w1 : World} {s : Nat} {p : Pk} {k a e : Int} (hz : w1.heap[s + 1 + 1]? = some (.cells (flC a e) 81 (0, 0))) : ((w1.setRow s (pkC p)).setCell ⟨s + 1, 0, none⟩ (.int .i64 k)).heap[s + 1 + 1]? = some (.cells (flC a e) 81 (0, 0)) :=
  (heap_setCell_other _ _ _ _ (by dsimp only; omega)).trans ((setRow_other _ _ _ _ (by omega)).trans hz)
theorem bw_cell {w1 : World} {s : Nat} {p : Pk} {k : Int} (hy : w1.heap[s + 1]? = some (.cells #[.int .i64 k] 3 (0, 0))) : (w1.setRow s (pkC p)).cell? ⟨s + 1, 0, none⟩ = some (.int .i64 k) ∧ (w1.setRow s (pkC p)).frozen? ⟨s + 1, 0, none⟩ = false := by
  have h := (setRow_other w1 s (s + 1) (pkC p) (by omega)).trans hy
  exact ⟨by rw [cell_of_row _ _ 0 _ 3 (0, 0) h]; rfl, frozen_of_row _ _ 0 _ 3 h⟩
theorem bw_at {w1 : World} {s : Nat} {p p' : Pk} {k k' a e a' e' : Int} (hx : w1.heap[s]? = some (.cells (pkC p') 79 (0, 0))) (hy : w1.heap[s + 1]? = some (.cells #[.int .i64 k'] 3 (0, 0))) (hz : w1.heap[s + 1 + 1]? = some (.cells (flC a' e') 81 (0, 0))) :
    (bw w1 s p k a e).heap[s]? = some (.cells (pkC p) 79 (0, 0)) ∧ (bw w1 s p k a e).heap[s + 1]? = some (.cells #[.int .i64 k] 3 (0, 0)) ∧ (bw w1 s p k a e).heap[s + 1 + 1]? = some (.cells (flC a e) 81 (0, 0)) := by
  refine ⟨?_, ?_, ?_⟩
  · exact (setRow_other _ _ _ _ (by omega)).trans ((heap_setCell_other _ _ _ _ (by dsimp only; omega)).trans (setRow_heap _ _ _ _ _ _ hx))
  · exact (setRow_other _ _ _ _ (by omega)).trans (heap_setCell_same _ _ _ _ _ _ ((setRow_other _ _ _ _ (by omega)).trans hy))
  · exact setRow_heap _ _ _ _ _ _ (bw_mid hz)
theorem bw_below {w w1 : World} {s : Nat} {p : Pk} {k a e : Int} {B : Nat} (b : RowKit.Below B w w1) (hB : B ≤ s) : RowKit.Below B w (bw w1 s p k a e) :=
  below_setRow ((below_setRow b hB _).setCell (by dsimp only; omega) _) (by omega) _
theorem bw_other {w1 : World} {s q : Nat} {p : Pk} {k a e : Int} (h1 : q ≠ s) (h2 : q ≠ s + 1) (h3 : q ≠ s + 1 + 1) : (bw w1 s p k a e).heap[q]? = w1.heap[q]? :=
  (setRow_other _ _ _ _ h3).trans ((heap_setCell_other _ _ _ _ (by exact h2)).trans (setRow_other _ _ _ _ h1))
theorem bw_size (w1 : World) (s : Nat) (p : Pk) (k a e : Int) : (bw w1 s p k a e).heap.size = w1.heap.size := by simp [bw]
theorem range_stops2 {P : Program} {F : Fence} {n : Nat} {g : Operand} {p1 p2 q1 q2 : Tmp} {assign body : Code} {Q : Exit → Act → World → Prop} {a : Act} {w : World} (u1 u2 : Nat → Value)
    (hro : F.round = none) (h1 : 1 ≤ n) {gf : FuncId} {lb : Array Value} (hg : a.eval g = .func (.func gf) #[] lb) (hFg : F.fn gf) (eg : ∀ args w, (callFunc gf args).run P w = .ok (.enter gf args) w)
    {N : Nat} {Kp : World → World → Prop} (hseq : Yields F (n - 1) P gf lb w.heap.size N (fun k => #[u1 k, u2 k]) Kp w)
    (hKt : ∀ A B C, Kp A B → Kp B C → Kp A C) (hKb : ∀ (A : World) (l : Nat) (o o' : Obj), w.heap.size ≤ l → A.heap[l]? = some o → o.isCells = false → Kp A (A.putObj l o'))
    (J Jx : Nat → World → Prop) (hJ : OwnFrom w.heap.size J) (hJx : OwnFrom w.heap.size Jx) (h0 : J 0 w)
    (hassign : ∀ (l k : Nat) (W : World) (K : Act → World → Prop), K { tmps := (((a.tmps.setIfInBounds p1 (u1 k)).setIfInBounds p2 (u2 k)).setIfInBounds q1 (u1 k)).setIfInBounds q2 (u2 k), defers := [] } W →
      assign.wpIn (F.inRound l) (n - 1 - 1) P (Exit.then K (fun _ _ _ => False)) { tmps := (a.tmps.setIfInBounds p1 (u1 k)).setIfInBounds p2 (u2 k), defers := [] } W)
    (hbody : ∀ (l k : Nat) (W : World), J k W → k < N →
      body.wpIn (F.inRound l) (n - 1 - 1) P (fun e _ W' => KeepsOthers W W' ∧ ((e = .normal ∧ Kp W W' ∧ J (k + 1) W') ∨ (e = .ret ∧ Jx k W'))) { tmps := (((a.tmps.setIfInBounds p1 (u1 k)).setIfInBounds p2 (u2 k)).setIfInBounds q1 (u1 k)).setIfInBounds q2 (u2 k), defers := [] } W)
    (hdone : ∀ (D : Nat) (W : World), w.heap.size ≤ D → J N W → W.heap[D]? = some (.deferred (some [])) → Q .normal { a with defers := { target := .collected D, args := #[] } :: a.defers } W)
    (hstop : ∀ (D k : Nat) (W : World), w.heap.size ≤ D → k < N → Jx k W → W.heap[D]? = some (.deferred (some [])) → Code.ret.wpIn F n P Q { a with defers := { target := .collected D, args := #[] } :: a.defers } W) :
    (Code.rangeFunc g #[p1, p2] assign body).wpIn F n P Q a w :=
  range_stops hro h1 hg hFg eg hseq (fun k => rfl) hKt hKb J Jx hJ hJx h0 (fun k => { tmps := (((a.tmps.setIfInBounds p1 (u1 k)).setIfInBounds p2 (u2 k)).setIfInBounds q1 (u1 k)).setIfInBounds q2 (u2 k), defers := [] })
    (fun l k W K hK => by
      have := hassign l k W K hK
      simpa using this) hbody hdone hstop
theorem keeps_below {W W' : World} (h : RowKit.Below W.heap.size W W') : KeepsOthers W W' := KeepsOthers.of_grownBy (below_grown h) (fun j o e => by cases e)
theorem keeps_setRow {w : World} {g : Nat} (cs : Array Value) {cur : Array Value} {t : TypeId} {fr : Nat × Nat} (h : w.heap[g]? = some (.cells cur t fr)) : KeepsOthers w (w.setRow g cs) :=
  KeepsOthers.of_grownBy (row := some g) ⟨rfl, rfl, rfl, by simp [World.setRow], fun k hk hne => setRow_other w g k _ (by intro e; subst e; exact hne rfl)⟩ (fun j o e hj => by cases e; rw [h] at hj; cases hj; rfl)
theorem bw_keeps {w1 : World} {s : Nat} {p p' : Pk} {k a e a' e' : Int} (hx : w1.heap[s]? = some (.cells (pkC p') 79 (0, 0))) (hz : w1.heap[s + 1 + 1]? = some (.cells (flC a' e') 81 (0, 0))) : KeepsOthers w1 (bw w1 s p k a e) :=
  ((keeps_setRow _ hx).trans (KeepsOthers.setCell _ _ _)).trans (keeps_setRow (cur := flC a' e') (t := 81) (fr := (0, 0)) _ ((heap_setCell_other _ _ _ _ (by dsimp only; omega)).trans ((setRow_other _ _ _ _ (by omega)).trans hz)))
theorem grow_facts {w11 w12 : World} {p e m c3 en : Nat} {A3 A' : Option Addr} {h : Hd} (hP : PBox w11 p ⟨h, A3, m, c3, m0⟩) (hE : w11.heap[e]? = some (.cells #[.int .i64 (en : Int)] 3 (0, 0))) (hgr : Gr w11 A3 w12 A') (hbk : ∀ k, blk A3 = some k → p < k ∧ e < k) (hpe : p < e) (v : Value) :
    w12.cell? ⟨p, 13, none⟩ = some (.slice A3 m c3) ∧ w12.frozen? ⟨p, 13, none⟩ = false ∧ (w12.setCell ⟨p, 13, none⟩ v).cell? ⟨e, 0, none⟩ = some (.int .i64 (en : Int)) ∧ (w12.setCell ⟨p, 13, none⟩ v).frozen? ⟨e, 0, none⟩ = false := by
  have hP2 : PBox w12 p ⟨h, A3, m, c3, m0⟩ := (hgr.1.block p hP.lt fun e' => by have := (hbk p e'.symm).1; omega).trans hP
  have hE2 : w12.heap[e]? = some (.cells #[.int .i64 (en : Int)] 3 (0, 0)) := (hgr.1.block e (Array.getElem?_eq_some_iff.1 hE).1 fun e' => by have := (hbk e e'.symm).2; omega).trans hE
  have hE3 := (heap_setCell_other w12 ⟨p, 13, none⟩ e v (by dsimp only; omega)).trans hE2
  obtain ⟨-, -, -, -, -, -, -, -, -, -, -, -, -, c13, -⟩ := hP2.cells
  exact ⟨c13, frozen_of_row w12 p 13 _ 79 hP2, by rw [cell_of_row _ _ 0 _ 3 (0, 0) hE3]; rfl, frozen_of_row _ _ 0 _ 3 hE3⟩
theorem i47 : (Try.prog.info? 85).map (fun i => (i.zero, i.size, i.bytes)) = some (some (.agg (elC e0)), 8, 80) := by kernel_rfl
theorem cs_one (x : El) : ∀ u ∈ x.cs, u.oneCell' = true := by
  intro u hu
  simp [El.cs] at hu
  rcases hu with rfl | rfl | rfl | rfl | rfl | rfl | rfl | rfl <;> rfl
theorem wpListIn_push {F : Fence} {nF : Nat} {P : Program} (w : World) {ops : Array Oper} {rest : List Oper} {o : Oper} {a : Act} {Q : Exit → Act → World → Prop} (hgd : o.guard = none) (s x : Operand) (t : TypeId)
    (ho : o.op = .call { callee := .builtin .append, args := #[s, x], argTypes := #[t, t] }) {base e size bytes : Nat} {z : Value} (ht : P.underlying t = some (.slice e))
    (hinf : (P.info? e).map (fun i => (i.zero, i.size, i.bytes)) = some (some z, size, bytes)) (hzs : z.cells.size = size) (hsz : 0 < size) (hby : bytes ≤ 128)
    {n c g : Nat} {A : Option Addr} {cs : List Value} (news : List Value) {t2 : TypeId}
    (hs : a.eval s = .slice A n c) (hown : Gw w base e size A n c cs) (hx : a.eval x = .slice (some ⟨g, 0, none⟩) 1 1) (hl : news.length = size)
    (hc : w.heap[g]? = some (.cells news.toArray t2 (0, 0))) (h1 : ∀ u ∈ news, u.oneCell' = true) (hn : n ≤ 1099511627775) (hbase : base ≤ w.heap.size)
    (h : ∀ A' c' w', Gw w' base e size A' (n + 1) c' (cs ++ news) → Gr w A w' A' → wpListIn F nF P ops Q rest (a.put o.dst (.slice A' (n + 1) c')) w') : wpListIn F nF P ops Q (o :: rest) a w := by
  obtain ⟨i0, hi, hz0, hz1, hz2⟩ := info_parts hinf
  refine wpListIn_append_own_at w hgd s x t ho base e i0 z size bytes ht hi hz0 hz1 hz2 hzs hsz _ n cs hs hown ⟨g, 0, none⟩ 1 1 news hx (by omega) (World.news_of_block hc) h1 (by unfold maxLen; omega)
    (by have := Nat.mul_le_mul (show n + 1 ≤ 1099511627776 by omega) hby; omega) hbase ?_
  intro v' w' h2 h3 _ h5
  obtain ⟨A', c', rfl⟩ := own_shape' h2
  rw [own_blk] at h3
  rw [own_blk, own_blk] at h5
  exact h A' c' w' h2 ⟨h3, h5.imp id fun e => ⟨_, e, Nat.le_refl _⟩⟩
theorem still_load_row {P : Program} {o : Oper} {a : Act} {w : World} {K : Act → Prop} (ty : TypeId) (x : Operand) (ho : o.op = .load ty x)
    (g : Nat) (hx : a.eval x = .pointer (some ⟨g, 0, none⟩)) (t : TypeId) (cs : Array Value) (fr : Nat × Nat) (d : TypeDesc) (hg : w.heap[g]? = some (.cells cs t fr))
    (hu : P.underlying ty = some d) (hd : (match d with | .struct _ | .array _ _ => true | _ => false) = true) (hi : (P.info? ty).map (·.size) = some cs.size)
    (h : K (a.put o.dst (.agg cs))) : o.still P a w K := by
  unfold Oper.still execOp
  simp only [ho, hx, Instr.loadAt, Instr.sureAddr, Sem.run_bind, Sem.run_pure, Result.andThen_ok, run_loadVar_row w g t ty cs fr d hg hu hd hi]
  exact ⟨rfl, h⟩
theorem wp_load_one {o : Oper} {a : Act} {w : World} {K : Act → World → Prop} {Q : Exit → Act → World → Prop} (x : Operand) (ho : o.op = .load 3 x) {g : Nat} (hx : a.eval x = .pointer (some ⟨g, 0, none⟩)) {v : Value} (hc : w.cell? ⟨g, 0, none⟩ = some v) (h : K (a.put o.dst v) w) : o.wp Try.prog a w K Q := by
  have rl : (loadVar 3 ⟨g, 0, none⟩).run Try.prog w = .ok v w := by simp [go_sem, hc]
  unfold Oper.wp execOp
  simp only [ho, hx, Instr.loadAt, Instr.sureAddr, Sem.run_bind, Sem.run_pure, Result.andThen_ok, rl]
  exact h
theorem wp_store_one {o : Oper} {a : Act} {w : World} {K : Act → World → Prop} {Q : Exit → Act → World → Prop} (x y : Operand) (ho : o.op = .store 3 x y) {g : Nat} (hx : a.eval x = .pointer (some ⟨g, 0, none⟩)) {v : Int} (hv : a.eval y = .int .i64 v) {u : Value} (hc : w.cell? ⟨g, 0, none⟩ = some u) (hf : w.frozen? ⟨g, 0, none⟩ = false)
    (h : K (a.put o.dst undef) (w.setCell ⟨g, 0, none⟩ (.int .i64 v))) : o.wp Try.prog a w K Q := by
  have rs : (storeVar 3 ⟨g, 0, none⟩ (.int .i64 v)).run Try.prog w = .ok () (w.setCell ⟨g, 0, none⟩ (.int .i64 v)) := by simp [go_sem, hc, hf]
  unfold Oper.wp execOp
  simp only [ho, hx, hv, Instr.storeAt, Instr.sureAddr, Sem.run_bind, Sem.run_pure, Result.andThen_ok, rs]
  exact h
theorem wp_build39 {o : Oper} {a : Act} {w : World} {K : Act → World → Prop} {Q : Exit → Act → World → Prop} (ho : o.op = .build 81 #[]) (h : K (a.put o.dst (flV 0 0)) w) : o.wp Try.prog a w K Q := by
  have e : (Try.prog.built 81 ([] : List (Nat × Value))).getD #[] = flC 0 0 := by kernel_rfl
  refine wp_build 81 #[] ho (by kernel_rfl) ?_
  have e2 : (#[].map fun (x : Nat × Operand) => match x with | (i, x) => (i, a.eval x)).toList = ([] : List (Nat × Value)) := by simp
  rw [e2, e]
  exact h
theorem tm_other (a : Act) {d k : Nat} (v : Value) (h : k ≠ d) : (a.put (some d) v).tmps[k]? = a.tmps[k]? := by simp [Act.put, Ne.symm h]
theorem tm_same (a : Act) {d : Nat} (v : Value) (h : d < a.tmps.size) : (a.put (some d) v).tmps[d]? = some v := by simp [Act.put, h]
theorem tm_size (a : Act) (d : Nat) (v : Value) : (a.put (some d) v).tmps.size = a.tmps.size := by simp [Act.put]
theorem tm_def (a : Act) (d : Nat) (v : Value) : (a.put (some d) v).defers = a.defers := by simp [Act.put]
theorem put_none (a : Act) (v : Value) : a.put none v = a := rfl
theorem ev_of {a : Act} {k : Nat} {v : Value} (h : a.tmps[k]? = some v) : a.eval (.tmp k) = v := by
  simp [Act.eval, h]
theorem wp_gen {P : Program} {c : Code} {Q : Exit → Act → World → Prop} {a : Act} {w : World} {v2 v3 v4 v5 v6 : Value} {n : Nat} {ds : List Deferred} (h2 : a.tmps[2]? = some v2) (h3 : a.tmps[3]? = some v3) (h4 : a.tmps[4]? = some v4) (h5 : a.tmps[5]? = some v5) (h6 : a.tmps[6]? = some v6) (hs : a.tmps.size = n) (hd : a.defers = ds)
    (h : ∀ a0 : Act, a0.tmps[2]? = some v2 → a0.tmps[3]? = some v3 → a0.tmps[4]? = some v4 → a0.tmps[5]? = some v5 → a0.tmps[6]? = some v6 → a0.tmps.size = n → a0.defers = ds → c.wp P Q a0 w) : c.wp P Q a w := h a h2 h3 h4 h5 h6 hs hd
/-- a fault in a field: the results are laid -/
structure Jb (w W : World) (a : Int) : Prop where
  one : W.heap[w.heap.size]? = some (.cells (pkC pk0) 79 (0, 0))
  two : W.heap[w.heap.size + 1]? = some (.cells #[.int .i64 0] 3 (0, 0))
  three : W.heap[w.heap.size + 1 + 1]? = some (.cells (flC a 101) 81 (0, 0))
  bel : RowKit.Below w.heap.size w W
theorem Jb.own {w W W' : World} {a : Int} {row : Option Nat} (s : Jb w W a) (hg : W.grownBy W' row) (hrow : ∀ r, row = some r → w.heap.size ≤ r ∧ ∃ o : Obj, W.heap[r]? = some o ∧ o.isCells = false) : Jb w W' a := by
  have hr2 : ∀ r, row = some r → ∃ o : Obj, W.heap[r]? = some o ∧ o.isCells = false := fun r e => (hrow r e).2
  exact ⟨(kept_block s.one rfl hg hr2).trans s.one, (kept_block s.two rfl hg hr2).trans s.two, (kept_block s.three rfl hg hr2).trans s.three, s.bel.grown hg s.bel.size fun r e => (hrow r e).1⟩
/-- what is read of bytes -/
inductive Pr where
  | bad (a e : Nat)
  | ok (h : Hd) (es : List Ex) (en : Nat)
def macN (k : Nat) : Bool := k == 0 || (k == 4 || k == 20)
def prs (xs : List Nat) : Pr :=
  if 8192 < xs.length then .bad 0 2
  else if xs.length < 48 then .bad xs.length 72
  else if kindB (hdOf xs) = false then .bad 0 100
  else if wi (hdOf xs).st 0 16 = false then .bad 1 100
  else if wi (hdOf xs).po 0 17 = false then .bad 2 100
  else match goF xs (fds xs xs.length 48) [] 48 with
    | .inl a => .bad a 101
    | .inr (es, en) => if macN (xs.length - en) = true then .ok (hdOf xs) es en else .bad en 102
/-- the Mac that some bytes are, its sum in blocks from lo on -/
def McOf (w : World) (lo : Nat) (xs : List Nat) (m : Mc) : Prop := (xs.length = 0 ∧ m = m0) ∨ (xs.length ≠ 0 ∧ ∃ A c, m = ⟨true, num (xs.take 4), A, xs.length - 4, c⟩ ∧ (∀ ad, A = some ad → lo ≤ ad.block) ∧ Nb w w.heap.size A (xs.length - 4) c (xs.drop 4))
def PrPost (xs : List Nat) (w : World) (e : Ending) (w' : World) : Prop :=
  RowKit.Below w.heap.size w w' ∧
  match prs xs with
  | .bad a k => e = .returned (res3 pk0 0 a k)
  | .ok h es en => ∃ (A : Option Addr) (c : Nat) (els : List El) (m : Mc), e = .returned (res3 ⟨h, A, es.length, c, m⟩ en 0 0) ∧ els.map toEx = es ∧ Gw w' w.heap.size 85 8 A es.length c (els.flatMap El.cs) ∧ (∀ x ∈ els, Ft w' A w.heap.size x) ∧ McOf w' w.heap.size (xs.drop en) m
theorem Gw.weak {w : World} {b b' e size n c : Nat} {A : Option Addr} {cs : List Value} (h : Gw w b e size A n c cs) (hb : b' ≤ b) : Gw w b' e size A n c cs :=
  ⟨h.1, h.2.imp id fun ⟨g, cap, cur, e, hg, r⟩ => ⟨g, cap, cur, e, Nat.le_trans hb hg, r⟩⟩
theorem McOf.below {w w' : World} {lo : Nat} {xs : List Nat} {m : Mc} (h : McOf w lo xs m) (b : RowKit.Below w.heap.size w w') : McOf w' lo xs m := by
  rcases h with h | ⟨h, A, c, e, f, hn⟩
  · exact .inl h
  · exact .inr ⟨h, A, c, e, f, hn.far b⟩
theorem good_end {w W10 U : World} {s D p lo lo2 : Nat} {xs : List Nat} {hd : Hd} {A : Option Addr} {c en : Nat} {els : List El} {es : List Ex} {m : Mc}
    (hs : s = w.heap.size) (hlo : s + 2 < lo) (hp : p < lo) (hD : lo ≤ D) (hV : prs xs = .ok hd es en) (hB : RowKit.Below w.heap.size w U) (ho : ∀ q, q ≠ p → U.heap[q]? = W10.heap[q]?) (hsz : U.heap.size = W10.heap.size)
    (hK : W10.heap[D]? = some (.deferred (some []))) (h1 : els.map toEx = es) (h3 : Gw W10 lo 85 8 A es.length c (els.flatMap El.cs)) (h4 : ∀ x ∈ els, Ft W10 A lo x) (hm : McOf W10 lo2 (xs.drop en) m) (hlo2 : lo ≤ lo2) :
    PrPost xs w (.returned (res3 ⟨hd, A, es.length, c, m⟩ en 0 0)) ((bw U s ⟨hd, A, es.length, c, m⟩ en 0 0).putObj D (.deferred none)) := by
  obtain ⟨V, hVe⟩ : ∃ V, V = bw U s ⟨hd, A, es.length, c, m⟩ en 0 0 := ⟨_, rfl⟩
  have bV : RowKit.Below w.heap.size w V := by rw [hVe]; exact bw_below hB (by omega)
  have sV : V.heap.size = W10.heap.size := by rw [hVe, bw_size, hsz]
  have oV : ∀ q, lo ≤ q → V.heap[q]? = W10.heap[q]? := fun q hq => by
    rw [hVe, bw_other (by omega) (by omega) (by omega)]
    exact ho q (by omega)
  have kV : V.heap[D]? = some (.deferred (some [])) := (oV D hD).trans hK
  rw [← hVe]
  clear hVe
  have hg : V.grownBy (V.putObj D (.deferred none)) (some D) := grownBy_putObj' V D (.deferred none)
  have hr : ∀ r, some D = some r → ∃ o : Obj, V.heap[r]? = some o ∧ o.isCells = false := fun r e => by cases e; exact ⟨_, kV, rfl⟩
  refine ⟨bV.grown hg bV.size (fun r e => by cases e; omega), ?_⟩
  rw [hV]
  refine ⟨A, c, els, m, rfl, h1, ?_, fun x hx => ?_, ?_⟩
  · refine Gw.weak (b := lo) ?_ (by omega)
    have h3' : Gw V lo 85 8 A es.length c (els.flatMap El.cs) := h3.keep fun k hk => oV k (h3.blk_lt k hk).1
    refine h3'.keep fun k hk => ?_
    obtain ⟨o, ho2, hc⟩ := h3'.heap k hk
    exact kept_block ho2 hc hg hr
  · have f : Ft V A lo x := (h4 x hx).keep (by omega) (fun q _ hq _ => oV q hq) (.inl rfl)
    exact ⟨f.one.own hg hr, f.two.own hg hr, fun hn ad e => ⟨Nat.le_trans (by omega) (f.far1 hn ad e).1, (f.far1 hn ad e).2⟩, fun hn ad e => ⟨Nat.le_trans (by omega) (f.far2 hn ad e).1, (f.far2 hn ad e).2⟩, f.pos⟩
  · rcases hm with h | ⟨h, A5, c5, e, f, hn⟩
    · exact .inl h
    · refine .inr ⟨h, A5, c5, e, fun ad ea => by have := f ad ea; omega, ?_⟩
      have hn2 : Nb V V.heap.size A5 ((xs.drop en).length - 4) c5 ((xs.drop en).drop 4) := by
        have := hn.keepn (w' := V) (by omega) (fun _ ad ea => oV _ (by have := f ad ea; omega))
        exact this
      exact hn2.own hg hr
set_option maxHeartbeats 4000000 in
theorem parse_any {w : World} {n c : Nat} {A : Option Addr} {xs : List Nat} (h : Nb w w.heap.size A n c xs) (hn : n ≤ 1073741824) :
    Calls Try.prog 39 #[.slice A n c] w (PrPost xs w) := by
  obtain ⟨Wa, hWa⟩ : ∃ W, W = w.alloc (.cells #[.int .i64 0, .int .i64 0, .int .i64 0, .int .i64 0, .int .i64 0, .int .i64 0, .int .u32 0, .int .u32 0, .int .u32 0, .int .u64 0, .int .u64 0, .int .u64 0, .int .u64 0, .slice none 0 0, .bool false, .int .u32 0, .slice none 0 0] 79) := ⟨_, rfl⟩
  obtain ⟨Wb, hWb⟩ : ∃ W, W = Wa.alloc (.cells #[.int .i64 0] 3) := ⟨_, rfl⟩
  obtain ⟨W, hW⟩ : ∃ W, W = Wb.alloc (.cells #[.int .i64 0, .int .i64 0] 81) := ⟨_, rfl⟩
  have hb1 : RowKit.Below w.heap.size w Wa := by rw [hWa]; exact (Below.refl _ _).alloc (Nat.le_refl _) _
  have hs1 : Wa.heap.size = w.heap.size + 1 := by rw [hWa]; simp
  have hs2 : Wb.heap.size = w.heap.size + 2 := by rw [hWb]; simp [hs1]
  have hs3 : W.heap.size = w.heap.size + 3 := by rw [hW]; simp [hs2]
  have hb2 : RowKit.Below w.heap.size w Wb := by rw [hWb]; exact hb1.alloc (by omega) _
  have hb : RowKit.Below w.heap.size w W := by rw [hW]; exact hb2.alloc (by omega) _
  have hx1 : Wa.heap[w.heap.size]? = some (.cells (pkC pk0) 79 (0, 0)) := by rw [hWa]; exact heap_alloc_new w _
  have hx2 : Wb.heap[w.heap.size]? = some (.cells (pkC pk0) 79 (0, 0)) := by rw [hWb]; exact (Below.heap_alloc _ _ _ (by omega)).trans hx1
  have hX : W.heap[w.heap.size]? = some (.cells (pkC pk0) 79 (0, 0)) := by rw [hW]; exact (Below.heap_alloc _ _ _ (by omega)).trans hx2
  have hy2 : Wb.heap[w.heap.size + 1]? = some (.cells #[.int .i64 0] 3 (0, 0)) := by rw [hWb, ← hs1]; exact heap_alloc_new Wa _
  have hY : W.heap[w.heap.size + 1]? = some (.cells #[.int .i64 0] 3 (0, 0)) := by rw [hW]; exact (Below.heap_alloc _ _ _ (by omega)).trans hy2
  have hZ : W.heap[w.heap.size + 1 + 1]? = some (.cells (flC 0 0) 81 (0, 0)) := by rw [hW, show w.heap.size + 1 + 1 = Wb.heap.size by omega]; exact heap_alloc_new Wb _
  have HW := Lib.hid (show W = ((w.alloc (.cells #[.int .i64 0, .int .i64 0, .int .i64 0, .int .i64 0, .int .i64 0, .int .i64 0, .int .u32 0, .int .u32 0, .int .u32 0, .int .u64 0, .int .u64 0, .int .u64 0, .int .u64 0, .slice none 0 0, .bool false, .int .u32 0, .slice none 0 0] 79)).alloc (.cells #[.int .i64 0] 3)).alloc (.cells #[.int .i64 0, .int .i64 0] 81) by rw [hW, hWb, hWa])
  have HX := Lib.hid hX
  have HY := Lib.hid hY
  have HZ := Lib.hid hZ
  have HB := Lib.hid hb
  have HH := Lib.hid h
  have hlen := h.len
  clear hWa hWb hW hb1 hs1 hs2 hb2 hb hx1 hx2 hX hy2 hY hZ h
  refine (callsIn_wide (n := 9)).1 ?_
  refine callsIn_of_wp_marks Try.func39 rfl trivial ?_ rfl
  simp only [Try.ntmps39, List.size_toArray, List.length_cons, List.length_nil, Nat.reduceAdd, Nat.reduceSub, Array.replicate_succ, Array.replicate_zero, List.push_toArray, List.append_toArray, List.nil_append, List.cons_append]
  by_cases h1 : 8192 < n
  · have HV := Lib.hid (show prs xs = .bad 0 2 by unfold prs; rw [if_pos (by rw [hlen]; exact h1)])
    have k1 : (8192 : Int) < (n : Int) := by omega
    gi_wp2_with fail
    rw [← HW.out]
    refine ⟨trivial, (callsIn_wide.2 (refused2 0 2 W)).mono ?_⟩
    rintro e w1 ⟨rfl, b1⟩
    have x1 := (b1.block _ (Array.getElem?_eq_some_iff.1 HX.out).1).trans HX.out
    have y1 := (b1.block _ (Array.getElem?_eq_some_iff.1 HY.out).1).trans HY.out
    have z1 := (b1.block _ (Array.getElem?_eq_some_iff.1 HZ.out).1).trans HZ.out
    have B1 := bthen HB.out b1 (Nat.le_refl _)
    gi_wp2_with (first
      | (refine wpListIn_store_row rfl 79 (.tmp 2) (.tmp 17) rfl w.heap.size (pkC pk0) rfl rfl 79 _ x1 s29 rfl (pk_all _) ?_; obtain ⟨c2, f2⟩ := bw_cell (p := pk0) y1)
      | (refine wpListIn_store_row rfl 81 (.tmp 4) (.tmp 19) rfl (w.heap.size + 1 + 1) (flC 0 2) rfl rfl 81 _ (bw_mid z1) s39 rfl (fl_all _ _) ?_))
    obtain ⟨v1, v2, v3⟩ := bw_at (p := pk0) (k := 0) (a := 0) (e := 2) x1 y1 z1
    have B2 := bw_below (p := pk0) (k := 0) (a := 0) (e := 2) B1 (Nat.le_refl _)
    exact ⟨_, res31 v1 v2 v3 _ rfl rfl rfl, B2, by rw [HV.out]; rfl⟩
  · have k1 : (n : Int) ≤ 8192 := by omega
    by_cases h2 : n < 48
    · have HV := Lib.hid (show prs xs = .bad n 72 by unfold prs; rw [if_neg (by rw [hlen]; exact h1), if_pos (by rw [hlen]; exact h2), hlen])
      have k2 : (n : Int) < 48 := by omega
      gi_wp2_with fail
      rw [← HW.out]
      refine ⟨trivial, (callsIn_wide.2 (refused2 n 72 W)).mono ?_⟩
      rintro e w1 ⟨rfl, b1⟩
      have x1 := (b1.block _ (Array.getElem?_eq_some_iff.1 HX.out).1).trans HX.out
      have y1 := (b1.block _ (Array.getElem?_eq_some_iff.1 HY.out).1).trans HY.out
      have z1 := (b1.block _ (Array.getElem?_eq_some_iff.1 HZ.out).1).trans HZ.out
      have B1 := bthen HB.out b1 (Nat.le_refl _)
      gi_wp2_with (first
        | (refine wpListIn_store_row rfl 79 (.tmp 2) (.tmp 26) rfl w.heap.size (pkC pk0) rfl rfl 79 _ x1 s29 rfl (pk_all _) ?_; obtain ⟨c2, f2⟩ := bw_cell (p := pk0) y1)
        | (refine wpListIn_store_row rfl 81 (.tmp 4) (.tmp 28) rfl (w.heap.size + 1 + 1) (flC n 72) rfl rfl 81 _ (bw_mid z1) s39 rfl (fl_all _ _) ?_))
      obtain ⟨v1, v2, v3⟩ := bw_at (p := pk0) (k := 0) (a := n) (e := 72) x1 y1 z1
      have B2 := bw_below (p := pk0) (k := 0) (a := n) (e := 72) B1 (Nat.le_refl _)
      exact ⟨_, res31 v1 v2 v3 _ rfl rfl rfl, B2, by rw [HV.out]; rfl⟩
    · have k2 : (48 : Int) ≤ (n : Int) := by omega
      have HH2 := Lib.hid (HH.out.below HB.out)
      have HV0 := Lib.hid (show prs xs = (if kindB (hdOf xs) = false then .bad 0 100 else if wi (hdOf xs).st 0 16 = false then .bad 1 100 else if wi (hdOf xs).po 0 17 = false then .bad 2 100
        else match goF xs (fds xs n 48) [] 48 with
          | .inl a => .bad a 101
          | .inr (es, en) => if macN (n - en) = true then .ok (hdOf xs) es en else .bad en 102) by unfold prs; rw [if_neg (by rw [hlen]; exact h1), if_neg (by rw [hlen]; exact h2), hlen])
      have HHd := Lib.hid (head_of_any (w := W) HH2.out HB.out.size (by omega))
      have HP := Lib.hid (show 48 ≤ n by omega)
      clear h1 h2
      gi_wp2_with fail
      rw [← HW.out]
      refine ⟨trivial, (callsIn_wide.2 HHd.out).mono ?_⟩
      rintro e w1 ⟨rfl, b1⟩
      generalize hdOf xs = hd at *
      have x1 := Lib.hid ((b1.block _ (Array.getElem?_eq_some_iff.1 HX.out).1).trans HX.out)
      have y1 := Lib.hid ((b1.block _ (Array.getElem?_eq_some_iff.1 HY.out).1).trans HY.out)
      have z1 := Lib.hid ((b1.block _ (Array.getElem?_eq_some_iff.1 HZ.out).1).trans HZ.out)
      have B1 := Lib.hid (bthen HB.out b1 (Nat.le_refl _))
      clear b1 HX HY HZ HB HHd HH2
      obtain ⟨W5, hW5⟩ : ∃ W5, W5 = (w1.alloc (.cells #[.int .i64 0, .int .i64 0, .int .i64 0, .int .i64 0, .int .i64 0, .int .i64 0, .int .u32 0, .int .u32 0, .int .u32 0, .int .u64 0, .int .u64 0, .int .u64 0, .int .u64 0, .slice none 0 0, .bool false, .int .u32 0, .slice none 0 0] 79)).setRow w1.heap.size (pkC ⟨hd, none, 0, 0, m0⟩) := ⟨_, rfl⟩
      have p5 : PBox W5 w1.heap.size ⟨hd, none, 0, 0, m0⟩ := by rw [hW5]; exact setRow_heap _ _ _ _ _ _ (heap_alloc_new w1 _)
      have b5 : RowKit.Below w1.heap.size w1 W5 := by rw [hW5]; exact below_setRow ((Below.refl _ _).alloc (Nat.le_refl _) _) (Nat.le_refl _) _
      have HW5 := Lib.hid hW5
      have HP5 := Lib.hid p5
      have HB5 := Lib.hid b5
      have HKd := Lib.hid (kind_any ⟨hd, none, 0, 0, m0⟩ W5)
      clear hW5 p5 b5
      gi_wp2_with (first
        | (refine wpListIn_store_row rfl 79 (.tmp 5) (.tmp 30) rfl w1.heap.size (pkC ⟨hd, none, 0, 0, m0⟩) rfl rfl 79 _ (heap_alloc_new w1 _) s29 rfl (pk_all _) ?_; rw [← HW5.out])
        | (refine wpListIn_load_row rfl 79 (.tmp 5) rfl w1.heap.size rfl 79 (pkC ⟨hd, none, 0, 0, m0⟩) (0, 0) _ HP5.out Try.underlying79 rfl s29 ?_))
      refine ⟨trivial, (callsIn_wide.2 HKd.out).mono ?_⟩
      rintro e w6 ⟨rfl, b6⟩
      have HP6 := Lib.hid (HP5.out.below b6)
      have b16 := bthen HB5.out b6 (Nat.le_refl _)
      have X6 := Lib.hid ((b16.block _ (Array.getElem?_eq_some_iff.1 x1.out).1).trans x1.out)
      have Y6 := Lib.hid ((b16.block _ (Array.getElem?_eq_some_iff.1 y1.out).1).trans y1.out)
      have Z6 := Lib.hid ((b16.block _ (Array.getElem?_eq_some_iff.1 z1.out).1).trans z1.out)
      have B6 := Lib.hid (bthen B1.out b16 (Nat.le_refl _))
      have HLt := Lib.hid (show w1.heap.size < w6.heap.size ∧ w.heap.size + 3 ≤ w1.heap.size from ⟨HP6.out.lt, Nat.lt_of_le_of_lt (Nat.le_refl _) (Array.getElem?_eq_some_iff.1 z1.out).1⟩)
      obtain ⟨-, -, -, c3, c4, -⟩ := HP6.out.cells
      have c3' : w6.cell? ⟨w1.heap.size, 3, none⟩ = some (.int .i64 hd.st) := c3
      have c4' : w6.cell? ⟨w1.heap.size, 4, none⟩ = some (.int .i64 hd.po) := c4
      clear c3 c4 b6 b16 x1 y1 z1 B1 HB5 HW5 HKd HP5
      have HS := Lib.hid (stratum_any hd.st w6)
      have HO := Lib.hid (poll_any hd.po w6)
      change Hid (Calls Try.prog 45 #[.int .i64 hd.st] w6 _) at HS
      generalize wi hd.st 0 16 = sb at *
      generalize wi hd.po 0 17 = pb at *
      generalize kindB hd = kb at *
      cases kb with
      | false =>
        have HV := Lib.hid (show prs xs = .bad 0 100 by rw [HV0.out, if_pos rfl])
        gi_wp2_with fail
        refine ⟨trivial, (callsIn_wide.2 (refused2 0 100 w6)).mono ?_⟩
        rintro e wz ⟨rfl, b1⟩
        have x1 := (b1.block _ (Array.getElem?_eq_some_iff.1 X6.out).1).trans X6.out
        have y1 := (b1.block _ (Array.getElem?_eq_some_iff.1 Y6.out).1).trans Y6.out
        have z1 := (b1.block _ (Array.getElem?_eq_some_iff.1 Z6.out).1).trans Z6.out
        have B1 := bthen B6.out b1 (Nat.le_refl _)
        gi_wp2_with (first
          | (refine wpListIn_store_row rfl 79 (.tmp 2) (.tmp 36) rfl w.heap.size (pkC pk0) rfl rfl 79 _ x1 s29 rfl (pk_all _) ?_; obtain ⟨c2, f2⟩ := bw_cell (p := pk0) y1)
          | (refine wpListIn_store_row rfl 81 (.tmp 4) (.tmp 38) rfl (w.heap.size + 1 + 1) (flC 0 100) rfl rfl 81 _ (bw_mid z1) s39 rfl (fl_all _ _) ?_))
        obtain ⟨v1, v2, v3⟩ := bw_at (p := pk0) (k := 0) (a := 0) (e := 100) x1 y1 z1
        have B2 := bw_below (p := pk0) (k := 0) (a := 0) (e := 100) B1 (Nat.le_refl _)
        exact ⟨_, res31 v1 v2 v3 _ rfl rfl rfl, B2, by rw [HV.out]; rfl⟩
      | true =>
        gi_wp2_with fail
        refine ⟨trivial, (callsIn_wide.2 HS.out).mono ?_⟩
        rintro e w7 ⟨rfl, hw7⟩
        subst w7
        cases sb with
        | false =>
          have HV := Lib.hid (show prs xs = .bad 1 100 by rw [HV0.out, if_neg (by decide), if_pos rfl])
          gi_wp2_with fail
          refine ⟨trivial, (callsIn_wide.2 (refused2 1 100 w6)).mono ?_⟩
          rintro e wz ⟨rfl, b1⟩
          have x1 := (b1.block _ (Array.getElem?_eq_some_iff.1 X6.out).1).trans X6.out
          have y1 := (b1.block _ (Array.getElem?_eq_some_iff.1 Y6.out).1).trans Y6.out
          have z1 := (b1.block _ (Array.getElem?_eq_some_iff.1 Z6.out).1).trans Z6.out
          have B1 := bthen B6.out b1 (Nat.le_refl _)
          gi_wp2_with (first
            | (refine wpListIn_store_row rfl 79 (.tmp 2) (.tmp 45) rfl w.heap.size (pkC pk0) rfl rfl 79 _ x1 s29 rfl (pk_all _) ?_; obtain ⟨c2, f2⟩ := bw_cell (p := pk0) y1)
            | (refine wpListIn_store_row rfl 81 (.tmp 4) (.tmp 47) rfl (w.heap.size + 1 + 1) (flC 1 100) rfl rfl 81 _ (bw_mid z1) s39 rfl (fl_all _ _) ?_))
          obtain ⟨v1, v2, v3⟩ := bw_at (p := pk0) (k := 0) (a := 1) (e := 100) x1 y1 z1
          have B2 := bw_below (p := pk0) (k := 0) (a := 1) (e := 100) B1 (Nat.le_refl _)
          exact ⟨_, res31 v1 v2 v3 _ rfl rfl rfl, B2, by rw [HV.out]; rfl⟩
        | true =>
          gi_wp2_with fail
          refine ⟨trivial, (callsIn_wide.2 HO.out).mono ?_⟩
          rintro e w7 ⟨rfl, hw7⟩
          subst w7
          cases pb with
          | false =>
            have HV := Lib.hid (show prs xs = .bad 2 100 by rw [HV0.out, if_neg (by decide), if_neg (by decide), if_pos rfl])
            gi_wp2_with fail
            refine ⟨trivial, (callsIn_wide.2 (refused2 2 100 w6)).mono ?_⟩
            rintro e wz ⟨rfl, b1⟩
            have x1 := (b1.block _ (Array.getElem?_eq_some_iff.1 X6.out).1).trans X6.out
            have y1 := (b1.block _ (Array.getElem?_eq_some_iff.1 Y6.out).1).trans Y6.out
            have z1 := (b1.block _ (Array.getElem?_eq_some_iff.1 Z6.out).1).trans Z6.out
            have B1 := bthen B6.out b1 (Nat.le_refl _)
            gi_wp2_with (first
              | (refine wpListIn_store_row rfl 79 (.tmp 2) (.tmp 54) rfl w.heap.size (pkC pk0) rfl rfl 79 _ x1 s29 rfl (pk_all _) ?_; obtain ⟨c2, f2⟩ := bw_cell (p := pk0) y1)
              | (refine wpListIn_store_row rfl 81 (.tmp 4) (.tmp 56) rfl (w.heap.size + 1 + 1) (flC 2 100) rfl rfl 81 _ (bw_mid z1) s39 rfl (fl_all _ _) ?_))
            obtain ⟨v1, v2, v3⟩ := bw_at (p := pk0) (k := 0) (a := 2) (e := 100) x1 y1 z1
            have B2 := bw_below (p := pk0) (k := 0) (a := 2) (e := 100) B1 (Nat.le_refl _)
            exact ⟨_, res31 v1 v2 v3 _ rfl rfl rfl, B2, by rw [HV.out]; rfl⟩
          | true =>
            have HV := Lib.hid (HV0.out.trans (by rw [if_neg (by decide), if_neg (by decide), if_neg (by decide)]))
            gi_wp2_with fail
            obtain ⟨w8, hw8⟩ : ∃ w8, w8 = (w6.alloc (.cells #[.int .i64 48] 3)).alloc (.cells #[.slice A n c] 52) := ⟨_, rfl⟩
            have hs7 : (w6.alloc (.cells #[.int .i64 48] 3)).heap.size = w6.heap.size + 1 := by simp
            have b68 : RowKit.Below w6.heap.size w6 w8 := by rw [hw8]; exact ((Below.refl _ _).alloc (Nat.le_refl _) _).alloc (by simp) _
            have hs8 : w8.heap.size = w6.heap.size + 2 := by rw [hw8]; simp
            have hE8 : w8.heap[w6.heap.size]? = some (.cells #[.int .i64 48] 3 (0, 0)) := by rw [hw8]; exact (Below.heap_alloc _ _ _ (by simp)).trans (heap_alloc_new w6 _)
            have hB8 : w8.cell? ⟨w6.heap.size + 1, 0, none⟩ = some (.slice A n c) := by
              rw [hw8, ← hs7]
              exact cell_new _ _ _
            have hP8 := HP6.out.below b68
            have X8 := Lib.hid ((b68.block _ (Array.getElem?_eq_some_iff.1 X6.out).1).trans X6.out)
            have Y8 := Lib.hid ((b68.block _ (Array.getElem?_eq_some_iff.1 Y6.out).1).trans Y6.out)
            have Z8 := Lib.hid ((b68.block _ (Array.getElem?_eq_some_iff.1 Z6.out).1).trans Z6.out)
            have B8 := Lib.hid (bthen B6.out b68 (Nat.le_refl _))
            have hN8 := HH.out.below B8.out
            have HYl := Lib.hid (fields_yields (A := A) (c := c) (xs := xs) ⟨HP.out, hn⟩ w.heap.size (w6.heap.size + 1) w8 B8.out.size (by omega) hB8 hN8)
            have HP8 := Lib.hid hP8
            have HE8 := Lib.hid hE8
            have HS8 := Lib.hid hs8
            refine ⟨trivial, (callsIn_wide.2 (fields_any A n c _)).mono ?_⟩
            rintro e w8' ⟨rfl, hw8'⟩
            rw [← hw8] at hw8'
            subst w8'
            rw [hs7]
            clear b68 hE8 hB8 hP8 hN8 hw8 hs7 hs8 X6 Y6 Z6 B6 HP6 c3' c4' HS HO HW HV0
            obtain ⟨L, hL⟩ : ∃ L, L = fds xs n 48 := ⟨_, rfl⟩
            have HLo := Lib.hid (fun p (hp : p ∈ L) => (hlen ▸ fds_ok xs n 48 (by rw [hlen]; exact HP.out) p (hL ▸ hp) : p.1 ≤ n ∧ (p.2 = 0 ∨ (24 ≤ p.2 ∧ p.1 + p.2 ≤ n))))
            rw [← hL] at HYl HV
            clear hL
            gi_wp2_with fail
            have HL0 := Lib.hid (show w.heap.size + 3 ≤ w1.heap.size ∧ w1.heap.size < w6.heap.size ∧ w8.heap.size = w6.heap.size + 2 from ⟨HLt.out.2, HLt.out.1, HS8.out⟩)
            obtain ⟨u1, hu1⟩ : ∃ u : Nat → Value, u = fun k => .int .i64 ((L.getD k (0, 0)).1 : Int) := ⟨_, rfl⟩
            obtain ⟨u2, hu2⟩ : ∃ u : Nat → Value, u = fun k => if (L.getD k (0, 0)).2 = 0 then .slice none 0 0 else .slice (pa A c (L.getD k (0, 0)).1) (L.getD k (0, 0)).2 (c - (L.getD k (0, 0)).1) := ⟨_, rfl⟩
            have HYl2 := Lib.hid (show Yields Fence.wide 8 Try.prog 55 #[.pointer (some ⟨w6.heap.size + 1, 0, none⟩)] w8.heap.size L.length (fun k => #[u1 k, u2 k]) (Keeps w.heap.size (w6.heap.size + 1)) w8 by rw [hu1, hu2]; exact HYl.out)
            have HU1 := Lib.hid hu1
            have HU2 := Lib.hid hu2
            clear hu1 hu2 HYl
            refine range_stops2 (N := L.length) u1 u2 (q1 := 7) (q2 := 8) (Kp := Keeps w.heap.size (w6.heap.size + 1))
              rfl (by omega) (gf := 55) (lb := #[.pointer (some ⟨w6.heap.size + 1, 0, none⟩)]) rfl trivial (enters_of Try.func55 (by kernel_rfl) rfl) HYl2.out (fun A B C h k => h.trans k) ?hKb
              (fun k W => ∃ es en, goF xs L [] 48 = goF xs (L.drop k) es en ∧ es.length ≤ 8 ∧ en ≤ n ∧ Ps w8 W w1.heap.size w6.heap.size hd es en)
              (fun k W => ∃ a : Nat, goF xs L [] 48 = .inl a ∧ Jb w W a) ?hJ ?hJx ?h0 ?hassign ?hbody ?hdone ?hstop
            case hKb =>
              intro A l o o' hl h ho
              have hlt := (Array.getElem?_eq_some_iff.1 h).1
              have := HL0.out
              exact ⟨(RowKit.Below.refl _ A).grown (grownBy_putObj' A l o') (by omega) (fun k e => by cases e; omega), World.putObj_heap_other (by omega)⟩
            case hJ =>
              rintro k A B row ⟨es, en, h1, h2, h3, h4⟩ hg hr
              exact ⟨es, en, h1, h2, h3, h4.own hg hr⟩
            case hJx =>
              rintro k A B row ⟨a, h1, h2⟩ hg hr
              exact ⟨a, h1, h2.own hg fun r e => ⟨by have := (hr r e).1; have := HL0.out; omega, (hr r e).2⟩⟩
            case h0 => exact ⟨[], 48, rfl, Nat.zero_le _, HP.out, ⟨Fr.refl _ _ _, HE8.out, none, 0, [], rfl, HP8.out, Gw.nil _ _ _ _, fun x hx => by cases hx⟩⟩
            case hassign =>
              intro l k W K hK
              generalize u1 k = v1 at *
              generalize u2 k = v2 at *
              simp only [List.setIfInBounds_toArray, List.set_cons_succ, List.set_cons_zero] at hK
              gi_wp2
              exact hK
            case hbody =>
              rintro l k W ⟨es, en, hgo, hes, hen, hps⟩ hk
              obtain ⟨q, hq⟩ : ∃ q, q = L.getD k (0, 0) := ⟨_, rfl⟩
              have hqk : L[k]? = some q := by rw [hq, List.getD_eq_getElem?_getD, List.getElem?_eq_getElem hk]; rfl
              have hqm : q ∈ L := List.mem_of_getElem? hqk
              have hdr : L.drop k = q :: L.drop (k + 1) := by
                rw [List.drop_eq_getElem_cons hk]
                congr 1
                exact Option.some.inj ((List.getElem?_eq_getElem hk).symm.trans hqk)
              rw [show u1 k = .int .i64 (q.1 : Int) by rw [HU1.out, hq], show u2 k = (if q.2 = 0 then .slice none 0 0 else .slice (pa A c q.1) q.2 (c - q.1)) by rw [HU2.out, hq]]
              have hq2 := HLo.out q hqm
              rw [hdr] at hgo
              have hBW : RowKit.Below w.heap.size w W := by
                have f := hps.fr
                have := HL0.out
                exact ⟨f.os.trans B8.out.os, f.tape.trans B8.out.tape, f.output.trans B8.out.output, Nat.le_trans B8.out.size f.size, fun x hx => (f.block x (by have := B8.out.size; omega) (by omega) (by omega)).trans (B8.out.block x hx)⟩
              have hNW := HH.out.below hBW
              obtain ⟨v2, hv2⟩ : ∃ v : Value, v = (if q.2 = 0 then .slice none 0 0 else .slice (pa A c q.1) q.2 (c - q.1)) := ⟨_, rfl⟩
              rw [← hv2]
              have hV2 : ∃ Aq cq, v2 = .slice Aq q.2 cq ∧ Nb W w.heap.size Aq q.2 cq (fdx xs q) := by
                rcases hq2.2 with h0 | h0
                · exact ⟨none, 0, by rw [hv2, if_pos h0, h0], by rw [h0]; unfold fdx; rw [h0, List.take_zero]; exact Nb.nil _ _ 0 (by omega) none⟩
                · refine ⟨pa A c q.1, c - q.1, by rw [hv2, if_neg (by omega)], ?_⟩
                  have := hNW.part q.1 (q.1 + q.2) (by omega) h0.2
                  rw [show q.1 + q.2 - q.1 = q.2 by omega] at this
                  exact this
              obtain ⟨Aq, cq, rfl, hNq⟩ := hV2
              have HXq := Lib.hid (ext_of_any hNq hBW.size (by omega) (by omega))
              have HPs := Lib.hid hps
              have HGo := Lib.hid hgo
              have HBW := Lib.hid hBW
              have HK := Lib.hid hk
              clear hq hqk hqm hdr hNW hv2 hNq hps hgo hBW hk HYl2 HLo HV HU1 HU2
              gi_wp2_with fail
              refine ⟨trivial, (CallsIn.inRound l (callsIn_wide.2 HXq.out)).mono ?_⟩
              rintro e w9 ⟨b9, hp9⟩
              have KW := Lib.hid (keeps_below b9)
              have PW := Lib.hid (HPs.out.below b9)
              have BW9 := Lib.hid (bthen HBW.out b9 (Nat.le_refl _))
              have B9 := Lib.hid b9
              clear b9 HXq
              obtain ⟨Wx, hWx⟩ : ∃ Wx, Wx = w9 := ⟨_, rfl⟩
              cases hx : exOf (fdx xs q) with
              | none =>
                rw [hx] at hp9
                subst hp9
                have HG := Lib.hid (show goF xs L [] 48 = .inl q.1 by rw [HGo.out]; unfold goF; rw [hx])
                obtain ⟨W10, hW10⟩ : ∃ W10, W10 = (w9.alloc (.cells #[.int .i64 0, .bool false, .bool false, .int .i64 0, .int .u32 0, .int .u32 0, .slice none 0 0, .slice none 0 0] 85)).setRow w9.heap.size (elC (e0)) := ⟨_, rfl⟩
                have b10 : RowKit.Below w9.heap.size w9 W10 := by rw [hW10]; exact below_setRow ((Below.refl _ _).alloc (Nat.le_refl _) _) (Nat.le_refl _) _
                have hx10 : EBox W10 w9.heap.size (e0) := by rw [hW10]; exact setRow_heap _ _ _ _ _ _ (heap_alloc_new w9 _)
                have HW10 := Lib.hid hW10
                have HX10 := Lib.hid hx10
                have K10 := Lib.hid (KW.out.trans (keeps_below b10))
                have P10 := Lib.hid (PW.out.below b10)
                have BW10 := Lib.hid (bthen BW9.out b10 (Nat.le_refl _))
                have B10 := Lib.hid (bthen B9.out b10 (Nat.le_refl _))
                clear b10 hW10 hx10 KW PW BW9 B9
                gi_wp2_with (refine wpListIn_store_row rfl 85 (.tmp 9) (.tmp 64) rfl w9.heap.size (elC (e0)) rfl rfl 85 _ (heap_alloc_new w9 _) s47 rfl (el_all _) ?_; rw [← HW10.out])
                refine ⟨trivial, (CallsIn.inRound l (callsIn_wide.2 (refused2 q.1 101 W10))).mono ?_⟩
                rintro e w11 ⟨rfl, b11⟩
                have f10 := P10.out.fr
                have hl0 := HL0.out
                have x10 := (f10.block w.heap.size (by omega) (by omega) (by omega)).trans X8.out
                have y10 := (f10.block (w.heap.size + 1) (by omega) (by omega) (by omega)).trans Y8.out
                have z10 := (f10.block (w.heap.size + 1 + 1) (by omega) (by omega) (by omega)).trans Z8.out
                have x1 := (b11.block _ (Array.getElem?_eq_some_iff.1 x10).1).trans x10
                have y1 := (b11.block _ (Array.getElem?_eq_some_iff.1 y10).1).trans y10
                have z1 := (b11.block _ (Array.getElem?_eq_some_iff.1 z10).1).trans z10
                have B11 := bthen BW10.out b11 (Nat.le_refl _)
                have K11 := K10.out.trans (keeps_below b11)
                clear f10 x10 y10 z10 b11 hl0
                gi_wp2_with (first
                  | (refine wpListIn_store_row rfl 79 (.tmp 2) (.tmp 76) rfl w.heap.size (pkC pk0) rfl rfl 79 _ x1 s29 rfl (pk_all _) ?_; obtain ⟨c2, f2⟩ := bw_cell (p := pk0) y1)
                  | (refine wpListIn_store_row rfl 81 (.tmp 4) (.tmp 78) rfl (w.heap.size + 1 + 1) (flC q.1 101) rfl rfl 81 _ (bw_mid z1) s39 rfl (fl_all _ _) ?_))
                obtain ⟨v1, v2, v3⟩ := bw_at (p := pk0) (k := 0) (a := q.1) (e := 101) x1 y1 z1
                have B2 := bw_below (p := pk0) (k := 0) (a := q.1) (e := 101) B11 (Nat.le_refl _)
                exact ⟨K11.trans (bw_keeps x1 z1), ⟨q.1, HG.out, v1, v2, v3, B2⟩⟩
              | some x =>
                rw [hx] at hp9
                obtain ⟨Ax, cx, Bx, dx, rfl, f1, f2, n1, n2⟩ := hp9
                have HN1 := Lib.hid n1
                have HN2 := Lib.hid n2
                have HF1 := Lib.hid f1
                have HF2 := Lib.hid f2
                have HWs := Lib.hid PW.out.fr.size
                clear n1 n2 f1 f2
                obtain ⟨W10, hW10⟩ : ∃ W10, W10 = (w9.alloc (.cells #[.int .i64 0, .bool false, .bool false, .int .i64 0, .int .u32 0, .int .u32 0, .slice none 0 0, .slice none 0 0] 85)).setRow w9.heap.size (elC (exEl x Ax cx Bx dx)) := ⟨_, rfl⟩
                have b10 : RowKit.Below w9.heap.size w9 W10 := by rw [hW10]; exact below_setRow ((Below.refl _ _).alloc (Nat.le_refl _) _) (Nat.le_refl _) _
                have hx10 : EBox W10 w9.heap.size (exEl x Ax cx Bx dx) := by rw [hW10]; exact setRow_heap _ _ _ _ _ _ (heap_alloc_new w9 _)
                have HW10 := Lib.hid hW10
                have HX10 := Lib.hid hx10
                have K10 := Lib.hid (KW.out.trans (keeps_below b10))
                have P10 := Lib.hid (PW.out.below b10)
                have BW10 := Lib.hid (bthen BW9.out b10 (Nat.le_refl _))
                have B10 := Lib.hid (bthen B9.out b10 (Nat.le_refl _))
                have Hb10 := Lib.hid b10
                clear b10 hW10 hx10 KW PW BW9 B9
                obtain ⟨A3, c3, els, h31, h32', h33', h34'⟩ := HPs.out.box
                have HBk := Lib.hid h33'.blk_lt
                have h32 := h32'.below B10.out
                have h33 := h33'.below B10.out
                have h34 : ∀ y ∈ els, Ft W10 A3 w8.heap.size y := fun y hy => (h34' y hy).keep B10.out.size (fun q hq _ _ => B10.out.block q hq) (.inl rfl)
                clear h32' h33' h34'
                obtain ⟨-, -, -, -, -, -, -, -, -, -, -, -, -, c13, -⟩ := h32.cells
                have c13' : W10.cell? ⟨w1.heap.size, 13, none⟩ = some (.slice A3 es.length c3) := c13
                have HEs := Lib.hid hes
                have H31 := Lib.hid h31
                have H32 := Lib.hid h32
                have H33 := Lib.hid h33
                have H34 := Lib.hid h34
                clear c13 h31 h32 h33 h34
                generalize hel : es.length = m at *
                by_cases h8 : m = 8
                · subst h8
                  have HG := Lib.hid (show goF xs L [] 48 = .inl q.1 by rw [HGo.out]; unfold goF; rw [hx]; simp only []; rw [if_pos hel])
                  clear hes
                  gi_wp2_with (refine wpListIn_store_row rfl 85 (.tmp 9) (.tmp 64) rfl w9.heap.size (elC (exEl x Ax cx Bx dx)) rfl rfl 85 _ (heap_alloc_new w9 _) s47 rfl (el_all _) ?_; rw [← HW10.out])
                  refine ⟨trivial, (CallsIn.inRound l (callsIn_wide.2 (refused2 q.1 101 W10))).mono ?_⟩
                  rintro e w11 ⟨rfl, b11⟩
                  have f10 := P10.out.fr
                  have hl0 := HL0.out
                  have x10 := (f10.block w.heap.size (by omega) (by omega) (by omega)).trans X8.out
                  have y10 := (f10.block (w.heap.size + 1) (by omega) (by omega) (by omega)).trans Y8.out
                  have z10 := (f10.block (w.heap.size + 1 + 1) (by omega) (by omega) (by omega)).trans Z8.out
                  have x1 := (b11.block _ (Array.getElem?_eq_some_iff.1 x10).1).trans x10
                  have y1 := (b11.block _ (Array.getElem?_eq_some_iff.1 y10).1).trans y10
                  have z1 := (b11.block _ (Array.getElem?_eq_some_iff.1 z10).1).trans z10
                  have B11 := bthen BW10.out b11 (Nat.le_refl _)
                  have K11 := K10.out.trans (keeps_below b11)
                  clear f10 x10 y10 z10 b11 hl0
                  gi_wp2_with (first
                    | (refine wpListIn_store_row rfl 79 (.tmp 2) (.tmp 76) rfl w.heap.size (pkC pk0) rfl rfl 79 _ x1 s29 rfl (pk_all _) ?_; obtain ⟨c2, f2⟩ := bw_cell (p := pk0) y1)
                    | (refine wpListIn_store_row rfl 81 (.tmp 4) (.tmp 78) rfl (w.heap.size + 1 + 1) (flC q.1 101) rfl rfl 81 _ (bw_mid z1) s39 rfl (fl_all _ _) ?_))
                  obtain ⟨v1, v2, v3⟩ := bw_at (p := pk0) (k := 0) (a := q.1) (e := 101) x1 y1 z1
                  have B2 := bw_below (p := pk0) (k := 0) (a := q.1) (e := 101) B11 (Nat.le_refl _)
                  exact ⟨K11.trans (bw_keeps x1 z1), ⟨q.1, HG.out, v1, v2, v3, B2⟩⟩
                · have h8' : ((m : Int) == 8) = false := by simp; omega
                  have HG := Lib.hid (show goF xs L [] 48 = goF xs (L.drop (k + 1)) (es ++ [x]) (q.1 + q.2) by rw [HGo.out]; rw [show goF xs (q :: L.drop (k + 1)) es en = _ by unfold goF; rw [hx]]; simp only []; rw [if_neg (by rw [hel]; exact h8)])
                  have HX8 := Lib.hid (show Ft W10 A3 w8.heap.size (exEl x Ax cx Bx dx) from by
                      have lo8 := HPs.out.fr.size
                      refine ⟨HN1.out.far Hb10.out, HN2.out.far Hb10.out, fun _ ad e => ⟨Nat.le_trans lo8 (HF1.out ad e), fun e2 => ?_⟩, fun _ ad e => ⟨Nat.le_trans lo8 (HF2.out ad e), fun e2 => ?_⟩, ⟨Int.natCast_nonneg _, Int.natCast_nonneg _⟩⟩
                      · have := (HBk.out _ e2).2; have := HF1.out ad e; omega
                      · have := (HBk.out _ e2).2; have := HF2.out ad e; omega)
                  have HFr := Lib.hid P10.out.fr
                  have HAt := Lib.hid P10.out.at_
                  have HQ2 := Lib.hid hq2
                  have HM := Lib.hid (show m + 1 ≤ 8 by omega)
                  gi_wp2_with (first
                    | (refine wpListIn_store_row rfl 85 (.tmp 9) (.tmp 64) rfl w9.heap.size (elC (exEl x Ax cx Bx dx)) rfl rfl 85 _ (heap_alloc_new w9 _) s47 rfl (el_all _) ?_; rw [← HW10.out])
                    | (refine wpListIn_load_row rfl 85 (.tmp 9) rfl w9.heap.size rfl 85 (elC (exEl x Ax cx Bx dx)) (0, 0) _ HX10.out Try.underlying85 rfl s47 ?_)
                    | (gi_at_builtin; (refine wpListIn_push _ rfl (.tmp 80) (.tmp 82) 75 rfl Try.underlying75 i47 rfl (by decide) (by decide) (El.cs (exEl x Ax cx Bx dx)) rfl (H33.out.alloc _) rfl rfl (heap_alloc_new _ _) (cs_one _) (by omega) (Nat.le_trans HFr.out.size (by simp)) ?_)
                       intro A' c' w12 hG' hgr
                       obtain ⟨g1, g2, g3, g4⟩ := grow_facts ((Below.heap_alloc _ _ _ H32.out.lt).trans H32.out) ((Below.heap_alloc _ _ _ (Array.getElem?_eq_some_iff.1 HAt.out).1).trans HAt.out) hgr (fun k e => by have := (HBk.out k e).1; have := HL0.out; omega) (by have := HL0.out; omega) (.slice A' (m + 1) c')
                       have HG' := Lib.hid hG'
                       have HGr := Lib.hid hgr
                       clear hG' hgr))
                  have hl0 := HL0.out
                  have hBW := HBW.out.size
                  have hbk : ∀ k, blk A3 = some k → w8.heap.size ≤ k := fun k e => (HBk.out k e).1
                  have hq3 : q.1 + q.2 ≤ n := by
                    rcases HQ2.out.2 with h0 | h0
                    · rw [h0]; exact HQ2.out.1
                    · exact h0.2
                  have hgw := H33.out.heap
                  have hWs := HPs.out.fr.size
                  have hWt := B10.out.size
                  have hPs := Ps.grow (en' := q.1 + q.2) (x := exEl x Ax cx Bx dx) (HFr.out.below ((Below.refl _ _).alloc (Nat.le_refl _) _)) ((Below.heap_alloc _ _ _ (Array.getElem?_eq_some_iff.1 HAt.out).1).trans HAt.out) (by omega) (by omega) (by omega) H31.out (hel.symm ▸ (Below.heap_alloc _ _ _ H32.out.lt).trans H32.out) hbk
                    (fun y hy => (H34.out y hy).keep ((Below.refl _ _).alloc (Nat.le_refl _) _).size (fun z hz _ _ => Below.heap_alloc _ _ _ hz) (.inl rfl)) (HX8.out.keep ((Below.refl _ _).alloc (Nat.le_refl _) _).size (fun z hz _ _ => Below.heap_alloc _ _ _ hz) (.inl rfl)) (hel.symm ▸ HG'.out) HGr.out
                  rw [hel] at hPs
                  refine ⟨?_, ⟨?_, ?_⟩, es ++ [x], q.1 + q.2, HG.out, by simp [hel]; have := HM.out; omega, hq3, hPs⟩
                  · exact (((K10.out.trans (KeepsOthers.alloc _ _)).trans (KeepsOthers.of_grownBy HGr.out.1 (fun j o e hj => by
                      obtain ⟨o2, h2, h3⟩ := hgw j e
                      have h4 := (Below.heap_alloc _ _ _ (Array.getElem?_eq_some_iff.1 h2).1).symm.trans hj
                      rw [h2] at h4
                      cases h4
                      exact h3))).trans (KeepsOthers.setCell _ _ _)).trans (KeepsOthers.setCell _ _ _)
                  · exact (((((B10.out.mono hBW).alloc (Nat.le_trans hBW B10.out.size) _).grown HGr.out.1 (Nat.le_trans hBW (Nat.le_trans B10.out.size (by simp))) (fun k e => by have := hbk k e; omega)).setCell (by dsimp only; omega) _).setCell (by dsimp only; omega) _)
                  · exact (heap_setCell_other _ _ _ _ (by dsimp only; omega)).trans ((heap_setCell_other _ _ _ _ (by dsimp only; omega)).trans ((HGr.out.1.block _ (by simp; omega) (fun e => by have := hbk _ e.symm; omega)).trans ((Below.heap_alloc _ _ _ (by omega)).trans (B10.out.block _ (by omega)))))
            case hstop =>
              rintro D k W hD hk ⟨a, ha, hj⟩ hK
              have hl0 := HL0.out
              have HVb : prs xs = .bad a 101 := by rw [HV.out, ha]
              have hj2 := hj.own (grownBy_putObj' W D (.deferred none)) (fun r e => by cases e; exact ⟨by omega, _, hK, rfl⟩)
              refine wpIn_ret ?_
              refine ⟨by simp, .inl ⟨_, _, rfl, run_takeDeferred hK, ?_⟩⟩
              exact ⟨_, res31 hj2.one hj2.two hj2.three _ rfl rfl rfl, hj2.bel, by rw [HVb]; rfl⟩
            case hdone =>
              rintro D W hD ⟨es, en, hgo, hes, hen, hps⟩ hK
              have hl0 := HL0.out
              rw [List.drop_length] at hgo
              have HV2 := Lib.hid (show prs xs = if macN (n - en) = true then .ok hd es en else .bad en 102 by rw [HV.out, hgo]; rfl)
              have hBW : RowKit.Below w.heap.size w W := by
                have f := hps.fr
                exact ⟨f.os.trans B8.out.os, f.tape.trans B8.out.tape, f.output.trans B8.out.output, Nat.le_trans B8.out.size f.size, fun x hx => (f.block x (by have := B8.out.size; omega) (by omega) (by omega)).trans (B8.out.block x hx)⟩
              have hNW := HH.out.below hBW
              have hcap := HH.out.cap
              have hN2 := hNW.part en n hen (Nat.le_refl _)
              have e1 : (xs.drop en).take (n - en) = xs.drop en := List.take_of_length_le (by rw [List.length_drop, hlen]; exact Nat.le_refl _)
              rw [e1] at hN2
              have g1 : ∀ W, (Instr.slice 52 (.slice A n c) (some (.int .i64 (en : Int))) none none).run Try.prog W = .ok (.slice (pa A c en) (n - en) (c - en)) W := fun W => sl_from A n c en .i64 hen W
              have HMc := Lib.hid (mac_of_any hN2 hBW.size (by omega))
              generalize pa A c en = A2 at *
              have ce : W.cell? ⟨w6.heap.size, 0, none⟩ = some (.int .i64 (en : Int)) := by rw [cell_of_row W _ 0 _ 3 (0, 0) hps.at_]; rfl
              have HPs := Lib.hid hps
              have HBW := Lib.hid hBW
              have HK := Lib.hid hK
              have hxl : (xs.drop en).length = n - en := by rw [List.length_drop, hlen]
              have HXl := Lib.hid hxl
              clear hgo hps hBW hNW hN2 e1 hK hxl hcap HV HU1 HU2 HYl2 HLo
              gi_wp2_with fail
              refine ⟨trivial, (callsIn_wide.2 HMc.out).mono ?_⟩
              rintro e w9 ⟨b9, hm⟩
              rw [HXl.out] at hm
              have B9 := Lib.hid b9
              have P9 := Lib.hid (HPs.out.below b9)
              have BW9 := Lib.hid (bthen HBW.out b9 (Nat.le_refl _))
              have HD9 := Lib.hid ((b9.block _ (Array.getElem?_eq_some_iff.1 HK.out).1).trans HK.out)
              have ce9 : w9.cell? ⟨w6.heap.size, 0, none⟩ = some (.int .i64 (en : Int)) := by rw [cell_of_row w9 _ 0 _ 3 (0, 0) P9.out.at_]; rfl
              clear b9 HMc ce
              by_cases hmac : macN (n - en) = true
              · have HV := Lib.hid (show prs xs = .ok hd es en from HV2.out.trans (if_pos hmac))
                obtain ⟨m, he, hmc⟩ : ∃ m : Mc, e = .returned (.tuple #[.agg #[.bool m.has, .int .u32 (m.key : Int), .slice m.A m.n m.c], .bool true]) ∧ McOf w9 W.heap.size (xs.drop en) m := by
                  rcases hm with ⟨h, he⟩ | ⟨h, A5, c5, he, hf5, hn5⟩ | ⟨h1, h2, h3, _⟩
                  · exact ⟨m0, he, .inl ⟨by rw [HXl.out]; exact h, rfl⟩⟩
                  · exact ⟨⟨true, num ((xs.drop en).take 4), A5, n - en - 4, c5⟩, he, .inr ⟨by rw [HXl.out]; omega, A5, c5, by rw [HXl.out], hf5, by rw [HXl.out]; exact hn5⟩⟩
                  · exfalso
                    unfold macN at hmac
                    simp only [Bool.or_eq_true, beq_iff_eq] at hmac
                    omega
                subst he
                have HMc := Lib.hid hmc
                clear hm hmac hmc HV2
                obtain ⟨W10, hW10⟩ : ∃ W10, W10 = w9.alloc (.cells #[.bool m.has, .int .u32 (m.key : Int), .slice m.A m.n m.c] 77) := ⟨_, rfl⟩
                have b10 : RowKit.Below w9.heap.size w9 W10 := by rw [hW10]; exact (Below.refl _ _).alloc (Nat.le_refl _) _
                have P10 := P9.out.below b10
                have BW10 := Lib.hid (bthen BW9.out b10 (Nat.le_refl _))
                have HD10 := Lib.hid ((b10.block _ (Array.getElem?_eq_some_iff.1 HD9.out).1).trans HD9.out)
                obtain ⟨A3, c3, els, h31, h32, h33, h34⟩ := P10.box
                obtain ⟨-, -, -, -, -, -, -, -, -, -, -, -, -, -, c14, c15, c16⟩ := h32.cells
                have f14 : W10.frozen? ⟨w1.heap.size, 14, none⟩ = false := frozen_of_row W10 _ 14 _ 79 h32
                have f15 : W10.frozen? ⟨w1.heap.size, 15, none⟩ = false := frozen_of_row W10 _ 15 _ 79 h32
                have f16 : W10.frozen? ⟨w1.heap.size, 16, none⟩ = false := frozen_of_row W10 _ 16 _ 79 h32
                have HP10 := Lib.hid P10
                have H31 := Lib.hid h31
                have H32 := Lib.hid h32
                have H33 := Lib.hid h33
                have H34 := Lib.hid h34
                have Hb10 := Lib.hid b10
                have HW10 := Lib.hid hW10
                rw [hW10] at c14 c15 c16 f14 f15 f16
                clear b10 hW10 ce9 P10 h31 h32 h33 h34
                gi_wp2_with fail
                rename_i Kend hKend
                rw [← HW10.out]
                obtain ⟨W11, hW11⟩ : ∃ W11, W11 = ((W10.setCell ⟨w1.heap.size, 14, none⟩ (.bool m.has)).setCell ⟨w1.heap.size, 15, none⟩ (.int .u32 (m.key : Int))).setCell ⟨w1.heap.size, 16, none⟩ (.slice m.A m.n m.c) := ⟨_, rfl⟩
                have o11 : ∀ q, q ≠ w1.heap.size → W11.heap[q]? = W10.heap[q]? := fun q hq => by
                  rw [hW11]
                  exact (heap_setCell_other _ _ _ _ (by exact hq)).trans ((heap_setCell_other _ _ _ _ (by exact hq)).trans (heap_setCell_other _ _ _ _ (by exact hq)))
                have p11 : PBox W11 w1.heap.size ⟨hd, A3, es.length, c3, m⟩ := by
                  rw [hW11]
                  exact heap_setCell_same _ _ _ _ _ _ (heap_setCell_same _ _ _ _ _ _ (heap_setCell_same _ _ _ _ _ _ H32.out))
                have sz11 : W11.heap.size = W10.heap.size := by rw [hW11]; simp
                have B11 : RowKit.Below w.heap.size w W11 := by rw [hW11]; exact ((BW10.out.setCell (by dsimp only; omega) _).setCell (by dsimp only; omega) _).setCell (by dsimp only; omega) _
                rw [← hW11]
                clear hW11 c14 c15 c16 f14 f15 f16
                have f10 := HP10.out.fr
                have x10 : W11.drew.heap[w.heap.size]? = some (.cells (pkC pk0) 79 (0, 0)) := (o11 _ (by omega)).trans ((f10.block w.heap.size (by omega) (by omega) (by omega)).trans X8.out)
                have y10 : W11.drew.heap[w.heap.size + 1]? = _ := (o11 _ (by omega)).trans ((f10.block (w.heap.size + 1) (by omega) (by omega) (by omega)).trans Y8.out)
                have z10 : W11.drew.heap[w.heap.size + 1 + 1]? = _ := (o11 _ (by omega)).trans ((f10.block (w.heap.size + 1 + 1) (by omega) (by omega) (by omega)).trans Z8.out)
                have d10 : W11.drew.heap[D]? = _ := (o11 _ (by omega)).trans HD10.out
                have pD : W11.drew.heap[w1.heap.size]? = _ := p11
                have eD : W11.drew.heap[w6.heap.size]? = _ := (o11 _ (by omega)).trans HP10.out.at_
                have BD : RowKit.Below w.heap.size w W11.drew := B11.drew
                have oD : ∀ q, q ≠ w1.heap.size → W11.drew.heap[q]? = W10.heap[q]? := o11
                have szD : W11.drew.heap.size = W10.heap.size := sz11
                clear o11 p11 sz11 B11
                have ceD : W11.drew.cell? ⟨w6.heap.size, 0, none⟩ = some (.int .i64 (en : Int)) := by rw [cell_of_row W11.drew _ 0 _ 3 (0, 0) eD]; rfl
                have ceD2 : (W11.drew.setRow w.heap.size (pkC ⟨hd, A3, es.length, c3, m⟩)).cell? ⟨w6.heap.size, 0, none⟩ = some (.int .i64 (en : Int)) := by rw [cell_of_row _ _ 0 _ 3 (0, 0) ((setRow_other _ _ _ _ (by omega)).trans eD)]; rfl
                obtain ⟨c2, f2⟩ := bw_cell (p := ⟨hd, A3, es.length, c3, m⟩) y10
                have hfin : ∀ a' : Act, a'.tmps[2]? = some (.pointer (some ⟨w.heap.size, 0, none⟩)) → a'.tmps[3]? = some (.pointer (some ⟨w.heap.size + 1, 0, none⟩)) → a'.tmps[4]? = some (.pointer (some ⟨w.heap.size + 1 + 1, 0, none⟩)) → a'.defers = [{ target := .collected D, args := #[] }] →
                    Exit.then Kend (bodyPostM Fence.wide 9 Try.prog Try.f39 (PrPost xs w)) .normal a' (bw W11.drew w.heap.size ⟨hd, A3, es.length, c3, m⟩ en 0 0) := by
                  intro a' t2 t3 t4 td
                  refine hKend _ _ ?_
                  have lo8 := HPs.out.fr.size
                  have mW : McOf W10 W.heap.size (xs.drop en) m := HMc.out.below Hb10.out
                  obtain ⟨v1, v2, v3⟩ := bw_at (p := ⟨hd, A3, es.length, c3, m⟩) (k := en) (a := 0) (e := 0) x10 y10 z10
                  have d2 := (bw_other (w1 := W11.drew) (p := ⟨hd, A3, es.length, c3, m⟩) (k := en) (a := 0) (e := 0) (show D ≠ w.heap.size by omega) (by omega) (by omega)).trans d10
                  obtain ⟨tm, ds⟩ := a'
                  dsimp only at t2 t3 t4 td
                  subst td
                  refine wpIn_ret ?_
                  refine ⟨by simp, .inl ⟨_, _, rfl, run_takeDeferred d2, ?_⟩⟩
                  exact ⟨_, res31 ((World.putObj_heap_other (by omega)).trans v1) ((World.putObj_heap_other (by omega)).trans v2) ((World.putObj_heap_other (by omega)).trans v3) _ t2 t3 t4, good_end rfl (by omega) (by omega) hD HV.out BD oD szD HD10.out H31.out H33.out H34.out mW lo8⟩
                refine wpIn_wide.2 ?_
                refine wp_gen (v2 := .pointer (some ⟨w.heap.size, 0, none⟩)) (v3 := .pointer (some ⟨w.heap.size + 1, 0, none⟩)) (v4 := .pointer (some ⟨w.heap.size + 1 + 1, 0, none⟩)) (v5 := .pointer (some ⟨w1.heap.size, 0, none⟩)) (v6 := .pointer (some ⟨w6.heap.size, 0, none⟩)) (n := 108) (ds := [{ target := .collected D, args := #[] }]) rfl rfl rfl rfl rfl rfl rfl (fun a0 q2 q3 q4 q5 q6 qs qd => ?_)
                refine wp_region_any (by kernel_rfl) ?_
                change wpAny _ _ _ _ _ _ _ (World.drew _)
                refine wpAny_ready (rs := [0, 1, 2]) (by kernel_rfl) (by simp) ?_
                refine AllReady.cons rfl (fun K hK => ?N_0) (AllReady.cons rfl (fun K hK => ?N_1) (AllReady.cons rfl (fun K hK => ?N_2) AllReady.nil))
                case N_0 =>
                  rw [if_pos (by rfl)]
                  change Oper.wp _ ⟨some 105, Op.load 79 (.tmp 5), _, _, _, _⟩ _ _ _ _
                  refine wp_load_row 79 (.tmp 5) rfl w1.heap.size (ev_of (by simp (disch := (first | decide | (simp only [tm_size, qs]; decide))) only [tm_other, tm_same, put_none, q5])) 79 (pkC ⟨hd, A3, es.length, c3, m⟩) (0, 0) _ pD Try.underlying79 rfl s29 ?_
                  refine hK _ _ ?_
                  clear hK K
                  try dsimp only [put_none]
                  refine wpAny_ready (rs := [1, 2, 3]) (by kernel_rfl) (by simp) ?_
                  refine AllReady.cons rfl (fun K hK => ?N0_1) (AllReady.cons rfl (fun K hK => ?N0_2) (AllReady.cons rfl (fun K hK => ?N0_3) AllReady.nil))
                  case N0_1 =>
                    rw [if_pos (by rfl)]
                    change Oper.wp _ ⟨some 106, Op.load 3 (.tmp 6), _, _, _, _⟩ _ _ _ _
                    refine wp_load_one (.tmp 6) rfl (ev_of (by simp (disch := (first | decide | (simp only [tm_size, qs]; decide))) only [tm_other, tm_same, put_none, q6])) ceD ?_
                    refine hK _ _ ?_
                    clear hK K
                    try dsimp only [put_none]
                    refine wpAny_ready (rs := [2, 3]) (by kernel_rfl) (by simp) ?_
                    refine AllReady.cons rfl (fun K hK => ?N01_2) (AllReady.cons rfl (fun K hK => ?N01_3) AllReady.nil)
                    case N01_2 =>
                      rw [if_pos (by rfl)]
                      change Oper.wp _ ⟨some 107, Op.build 81 #[], _, _, _, _⟩ _ _ _ _
                      refine wp_build39 rfl ?_
                      refine hK _ _ ?_
                      clear hK K
                      try dsimp only [put_none]
                      refine wpAny_ready (rs := [3]) (by kernel_rfl) (by simp) ?_
                      refine AllReady.cons rfl (fun K hK => ?N012_3) AllReady.nil
                      case N012_3 =>
                        rw [if_pos (by rfl)]
                        change Oper.wp _ ⟨none, Op.store 79 (.tmp 2) (.tmp 105), _, _, _, _⟩ _ _ _ _
                        refine wp_store_row 79 (.tmp 2) (.tmp 105) rfl w.heap.size (pkC ⟨hd, A3, es.length, c3, m⟩) (ev_of (by simp (disch := (first | decide | (simp only [tm_size, qs]; decide))) only [tm_other, tm_same, put_none, q2])) (ev_of (by simp (disch := (first | decide | (simp only [tm_size, qs]; decide))) only [tm_other, tm_same, put_none])) 79 _ x10 s29 rfl (pk_all _) ?_
                        refine hK _ _ ?_
                        clear hK K
                        try dsimp only [put_none]
                        refine wpAny_ready (rs := [4]) (by kernel_rfl) (by simp) ?_
                        refine AllReady.cons rfl (fun K hK => ?N0123_4) AllReady.nil
                        case N0123_4 =>
                          rw [if_pos (by rfl)]
                          change Oper.wp _ ⟨none, Op.store 3 (.tmp 3) (.tmp 106), _, _, _, _⟩ _ _ _ _
                          refine wp_store_one (v := (en : Int)) (.tmp 3) (.tmp 106) rfl (ev_of (by simp (disch := (first | decide | (simp only [tm_size, qs]; decide))) only [tm_other, tm_same, put_none, q3])) (ev_of (by simp (disch := (first | decide | (simp only [tm_size, qs]; decide))) only [tm_other, tm_same, put_none])) c2 f2 ?_
                          refine hK _ _ ?_
                          clear hK K
                          try dsimp only [put_none]
                          refine wpAny_ready (rs := [5]) (by kernel_rfl) (by simp) ?_
                          refine AllReady.cons rfl (fun K hK => ?N01234_5) AllReady.nil
                          case N01234_5 =>
                            rw [if_pos (by rfl)]
                            change Oper.wp _ ⟨none, Op.store 81 (.tmp 4) (.tmp 107), _, _, _, _⟩ _ _ _ _
                            refine wp_store_row 81 (.tmp 4) (.tmp 107) rfl (w.heap.size + 1 + 1) (flC 0 0) (ev_of (by simp (disch := (first | decide | (simp only [tm_size, qs]; decide))) only [tm_other, tm_same, put_none, q4])) (ev_of (by simp (disch := (first | decide | (simp only [tm_size, qs]; decide))) only [tm_other, tm_same, put_none])) 81 _ (bw_mid z10) s39 rfl (fl_all _ _) ?_
                            refine hK _ _ ?_
                            clear hK K
                            try dsimp only [put_none]
                            refine wpAny_done (by kernel_rfl) ?_ _
                            exact hfin _ (by simp (disch := (first | decide | (simp only [tm_size, qs]; decide))) only [tm_other, tm_same, put_none, q2]) (by simp (disch := (first | decide | (simp only [tm_size, qs]; decide))) only [tm_other, tm_same, put_none, q3]) (by simp (disch := (first | decide | (simp only [tm_size, qs]; decide))) only [tm_other, tm_same, put_none, q4]) (by simp only [tm_def, put_none, qd])
                    case N01_3 =>
                      rw [if_pos (by rfl)]
                      change Oper.wp _ ⟨none, Op.store 79 (.tmp 2) (.tmp 105), _, _, _, _⟩ _ _ _ _
                      refine wp_store_row 79 (.tmp 2) (.tmp 105) rfl w.heap.size (pkC ⟨hd, A3, es.length, c3, m⟩) (ev_of (by simp (disch := (first | decide | (simp only [tm_size, qs]; decide))) only [tm_other, tm_same, put_none, q2])) (ev_of (by simp (disch := (first | decide | (simp only [tm_size, qs]; decide))) only [tm_other, tm_same, put_none])) 79 _ x10 s29 rfl (pk_all _) ?_
                      refine hK _ _ ?_
                      clear hK K
                      try dsimp only [put_none]
                      refine wpAny_ready (rs := [2, 4]) (by kernel_rfl) (by simp) ?_
                      refine AllReady.cons rfl (fun K hK => ?N013_2) (AllReady.cons rfl (fun K hK => ?N013_4) AllReady.nil)
                      case N013_2 =>
                        rw [if_pos (by rfl)]
                        change Oper.wp _ ⟨some 107, Op.build 81 #[], _, _, _, _⟩ _ _ _ _
                        refine wp_build39 rfl ?_
                        refine hK _ _ ?_
                        clear hK K
                        try dsimp only [put_none]
                        refine wpAny_ready (rs := [4]) (by kernel_rfl) (by simp) ?_
                        refine AllReady.cons rfl (fun K hK => ?N0132_4) AllReady.nil
                        case N0132_4 =>
                          rw [if_pos (by rfl)]
                          change Oper.wp _ ⟨none, Op.store 3 (.tmp 3) (.tmp 106), _, _, _, _⟩ _ _ _ _
                          refine wp_store_one (v := (en : Int)) (.tmp 3) (.tmp 106) rfl (ev_of (by simp (disch := (first | decide | (simp only [tm_size, qs]; decide))) only [tm_other, tm_same, put_none, q3])) (ev_of (by simp (disch := (first | decide | (simp only [tm_size, qs]; decide))) only [tm_other, tm_same, put_none])) c2 f2 ?_
                          refine hK _ _ ?_
                          clear hK K
                          try dsimp only [put_none]
                          refine wpAny_ready (rs := [5]) (by kernel_rfl) (by simp) ?_
                          refine AllReady.cons rfl (fun K hK => ?N01324_5) AllReady.nil
                          case N01324_5 =>
                            rw [if_pos (by rfl)]
                            change Oper.wp _ ⟨none, Op.store 81 (.tmp 4) (.tmp 107), _, _, _, _⟩ _ _ _ _
                            refine wp_store_row 81 (.tmp 4) (.tmp 107) rfl (w.heap.size + 1 + 1) (flC 0 0) (ev_of (by simp (disch := (first | decide | (simp only [tm_size, qs]; decide))) only [tm_other, tm_same, put_none, q4])) (ev_of (by simp (disch := (first | decide | (simp only [tm_size, qs]; decide))) only [tm_other, tm_same, put_none])) 81 _ (bw_mid z10) s39 rfl (fl_all _ _) ?_
                            refine hK _ _ ?_
                            clear hK K
                            try dsimp only [put_none]
                            refine wpAny_done (by kernel_rfl) ?_ _
                            exact hfin _ (by simp (disch := (first | decide | (simp only [tm_size, qs]; decide))) only [tm_other, tm_same, put_none, q2]) (by simp (disch := (first | decide | (simp only [tm_size, qs]; decide))) only [tm_other, tm_same, put_none, q3]) (by simp (disch := (first | decide | (simp only [tm_size, qs]; decide))) only [tm_other, tm_same, put_none, q4]) (by simp only [tm_def, put_none, qd])
                      case N013_4 =>
                        rw [if_pos (by rfl)]
                        change Oper.wp _ ⟨none, Op.store 3 (.tmp 3) (.tmp 106), _, _, _, _⟩ _ _ _ _
                        refine wp_store_one (v := (en : Int)) (.tmp 3) (.tmp 106) rfl (ev_of (by simp (disch := (first | decide | (simp only [tm_size, qs]; decide))) only [tm_other, tm_same, put_none, q3])) (ev_of (by simp (disch := (first | decide | (simp only [tm_size, qs]; decide))) only [tm_other, tm_same, put_none])) c2 f2 ?_
                        refine hK _ _ ?_
                        clear hK K
                        try dsimp only [put_none]
                        refine wpAny_ready (rs := [2]) (by kernel_rfl) (by simp) ?_
                        refine AllReady.cons rfl (fun K hK => ?N0134_2) AllReady.nil
                        case N0134_2 =>
                          rw [if_pos (by rfl)]
                          change Oper.wp _ ⟨some 107, Op.build 81 #[], _, _, _, _⟩ _ _ _ _
                          refine wp_build39 rfl ?_
                          refine hK _ _ ?_
                          clear hK K
                          try dsimp only [put_none]
                          refine wpAny_ready (rs := [5]) (by kernel_rfl) (by simp) ?_
                          refine AllReady.cons rfl (fun K hK => ?N01342_5) AllReady.nil
                          case N01342_5 =>
                            rw [if_pos (by rfl)]
                            change Oper.wp _ ⟨none, Op.store 81 (.tmp 4) (.tmp 107), _, _, _, _⟩ _ _ _ _
                            refine wp_store_row 81 (.tmp 4) (.tmp 107) rfl (w.heap.size + 1 + 1) (flC 0 0) (ev_of (by simp (disch := (first | decide | (simp only [tm_size, qs]; decide))) only [tm_other, tm_same, put_none, q4])) (ev_of (by simp (disch := (first | decide | (simp only [tm_size, qs]; decide))) only [tm_other, tm_same, put_none])) 81 _ (bw_mid z10) s39 rfl (fl_all _ _) ?_
                            refine hK _ _ ?_
                            clear hK K
                            try dsimp only [put_none]
                            refine wpAny_done (by kernel_rfl) ?_ _
                            exact hfin _ (by simp (disch := (first | decide | (simp only [tm_size, qs]; decide))) only [tm_other, tm_same, put_none, q2]) (by simp (disch := (first | decide | (simp only [tm_size, qs]; decide))) only [tm_other, tm_same, put_none, q3]) (by simp (disch := (first | decide | (simp only [tm_size, qs]; decide))) only [tm_other, tm_same, put_none, q4]) (by simp only [tm_def, put_none, qd])
                  case N0_2 =>
                    rw [if_pos (by rfl)]
                    change Oper.wp _ ⟨some 107, Op.build 81 #[], _, _, _, _⟩ _ _ _ _
                    refine wp_build39 rfl ?_
                    refine hK _ _ ?_
                    clear hK K
                    try dsimp only [put_none]
                    refine wpAny_ready (rs := [1, 3]) (by kernel_rfl) (by simp) ?_
                    refine AllReady.cons rfl (fun K hK => ?N02_1) (AllReady.cons rfl (fun K hK => ?N02_3) AllReady.nil)
                    case N02_1 =>
                      rw [if_pos (by rfl)]
                      change Oper.wp _ ⟨some 106, Op.load 3 (.tmp 6), _, _, _, _⟩ _ _ _ _
                      refine wp_load_one (.tmp 6) rfl (ev_of (by simp (disch := (first | decide | (simp only [tm_size, qs]; decide))) only [tm_other, tm_same, put_none, q6])) ceD ?_
                      refine hK _ _ ?_
                      clear hK K
                      try dsimp only [put_none]
                      refine wpAny_ready (rs := [3]) (by kernel_rfl) (by simp) ?_
                      refine AllReady.cons rfl (fun K hK => ?N021_3) AllReady.nil
                      case N021_3 =>
                        rw [if_pos (by rfl)]
                        change Oper.wp _ ⟨none, Op.store 79 (.tmp 2) (.tmp 105), _, _, _, _⟩ _ _ _ _
                        refine wp_store_row 79 (.tmp 2) (.tmp 105) rfl w.heap.size (pkC ⟨hd, A3, es.length, c3, m⟩) (ev_of (by simp (disch := (first | decide | (simp only [tm_size, qs]; decide))) only [tm_other, tm_same, put_none, q2])) (ev_of (by simp (disch := (first | decide | (simp only [tm_size, qs]; decide))) only [tm_other, tm_same, put_none])) 79 _ x10 s29 rfl (pk_all _) ?_
                        refine hK _ _ ?_
                        clear hK K
                        try dsimp only [put_none]
                        refine wpAny_ready (rs := [4]) (by kernel_rfl) (by simp) ?_
                        refine AllReady.cons rfl (fun K hK => ?N0213_4) AllReady.nil
                        case N0213_4 =>
                          rw [if_pos (by rfl)]
                          change Oper.wp _ ⟨none, Op.store 3 (.tmp 3) (.tmp 106), _, _, _, _⟩ _ _ _ _
                          refine wp_store_one (v := (en : Int)) (.tmp 3) (.tmp 106) rfl (ev_of (by simp (disch := (first | decide | (simp only [tm_size, qs]; decide))) only [tm_other, tm_same, put_none, q3])) (ev_of (by simp (disch := (first | decide | (simp only [tm_size, qs]; decide))) only [tm_other, tm_same, put_none])) c2 f2 ?_
                          refine hK _ _ ?_
                          clear hK K
                          try dsimp only [put_none]
                          refine wpAny_ready (rs := [5]) (by kernel_rfl) (by simp) ?_
                          refine AllReady.cons rfl (fun K hK => ?N02134_5) AllReady.nil
                          case N02134_5 =>
                            rw [if_pos (by rfl)]
                            change Oper.wp _ ⟨none, Op.store 81 (.tmp 4) (.tmp 107), _, _, _, _⟩ _ _ _ _
                            refine wp_store_row 81 (.tmp 4) (.tmp 107) rfl (w.heap.size + 1 + 1) (flC 0 0) (ev_of (by simp (disch := (first | decide | (simp only [tm_size, qs]; decide))) only [tm_other, tm_same, put_none, q4])) (ev_of (by simp (disch := (first | decide | (simp only [tm_size, qs]; decide))) only [tm_other, tm_same, put_none])) 81 _ (bw_mid z10) s39 rfl (fl_all _ _) ?_
                            refine hK _ _ ?_
                            clear hK K
                            try dsimp only [put_none]
                            refine wpAny_done (by kernel_rfl) ?_ _
                            exact hfin _ (by simp (disch := (first | decide | (simp only [tm_size, qs]; decide))) only [tm_other, tm_same, put_none, q2]) (by simp (disch := (first | decide | (simp only [tm_size, qs]; decide))) only [tm_other, tm_same, put_none, q3]) (by simp (disch := (first | decide | (simp only [tm_size, qs]; decide))) only [tm_other, tm_same, put_none, q4]) (by simp only [tm_def, put_none, qd])
                    case N02_3 =>
                      rw [if_pos (by rfl)]
                      change Oper.wp _ ⟨none, Op.store 79 (.tmp 2) (.tmp 105), _, _, _, _⟩ _ _ _ _
                      refine wp_store_row 79 (.tmp 2) (.tmp 105) rfl w.heap.size (pkC ⟨hd, A3, es.length, c3, m⟩) (ev_of (by simp (disch := (first | decide | (simp only [tm_size, qs]; decide))) only [tm_other, tm_same, put_none, q2])) (ev_of (by simp (disch := (first | decide | (simp only [tm_size, qs]; decide))) only [tm_other, tm_same, put_none])) 79 _ x10 s29 rfl (pk_all _) ?_
                      refine hK _ _ ?_
                      clear hK K
                      try dsimp only [put_none]
                      refine wpAny_ready (rs := [1]) (by kernel_rfl) (by simp) ?_
                      refine AllReady.cons rfl (fun K hK => ?N023_1) AllReady.nil
                      case N023_1 =>
                        rw [if_pos (by rfl)]
                        change Oper.wp _ ⟨some 106, Op.load 3 (.tmp 6), _, _, _, _⟩ _ _ _ _
                        refine wp_load_one (.tmp 6) rfl (ev_of (by simp (disch := (first | decide | (simp only [tm_size, qs]; decide))) only [tm_other, tm_same, put_none, q6])) ceD2 ?_
                        refine hK _ _ ?_
                        clear hK K
                        try dsimp only [put_none]
                        refine wpAny_ready (rs := [4]) (by kernel_rfl) (by simp) ?_
                        refine AllReady.cons rfl (fun K hK => ?N0231_4) AllReady.nil
                        case N0231_4 =>
                          rw [if_pos (by rfl)]
                          change Oper.wp _ ⟨none, Op.store 3 (.tmp 3) (.tmp 106), _, _, _, _⟩ _ _ _ _
                          refine wp_store_one (v := (en : Int)) (.tmp 3) (.tmp 106) rfl (ev_of (by simp (disch := (first | decide | (simp only [tm_size, qs]; decide))) only [tm_other, tm_same, put_none, q3])) (ev_of (by simp (disch := (first | decide | (simp only [tm_size, qs]; decide))) only [tm_other, tm_same, put_none])) c2 f2 ?_
                          refine hK _ _ ?_
                          clear hK K
                          try dsimp only [put_none]
                          refine wpAny_ready (rs := [5]) (by kernel_rfl) (by simp) ?_
                          refine AllReady.cons rfl (fun K hK => ?N02314_5) AllReady.nil
                          case N02314_5 =>
                            rw [if_pos (by rfl)]
                            change Oper.wp _ ⟨none, Op.store 81 (.tmp 4) (.tmp 107), _, _, _, _⟩ _ _ _ _
                            refine wp_store_row 81 (.tmp 4) (.tmp 107) rfl (w.heap.size + 1 + 1) (flC 0 0) (ev_of (by simp (disch := (first | decide | (simp only [tm_size, qs]; decide))) only [tm_other, tm_same, put_none, q4])) (ev_of (by simp (disch := (first | decide | (simp only [tm_size, qs]; decide))) only [tm_other, tm_same, put_none])) 81 _ (bw_mid z10) s39 rfl (fl_all _ _) ?_
                            refine hK _ _ ?_
                            clear hK K
                            try dsimp only [put_none]
                            refine wpAny_done (by kernel_rfl) ?_ _
                            exact hfin _ (by simp (disch := (first | decide | (simp only [tm_size, qs]; decide))) only [tm_other, tm_same, put_none, q2]) (by simp (disch := (first | decide | (simp only [tm_size, qs]; decide))) only [tm_other, tm_same, put_none, q3]) (by simp (disch := (first | decide | (simp only [tm_size, qs]; decide))) only [tm_other, tm_same, put_none, q4]) (by simp only [tm_def, put_none, qd])
                  case N0_3 =>
                    rw [if_pos (by rfl)]
                    change Oper.wp _ ⟨none, Op.store 79 (.tmp 2) (.tmp 105), _, _, _, _⟩ _ _ _ _
                    refine wp_store_row 79 (.tmp 2) (.tmp 105) rfl w.heap.size (pkC ⟨hd, A3, es.length, c3, m⟩) (ev_of (by simp (disch := (first | decide | (simp only [tm_size, qs]; decide))) only [tm_other, tm_same, put_none, q2])) (ev_of (by simp (disch := (first | decide | (simp only [tm_size, qs]; decide))) only [tm_other, tm_same, put_none])) 79 _ x10 s29 rfl (pk_all _) ?_
                    refine hK _ _ ?_
                    clear hK K
                    try dsimp only [put_none]
                    refine wpAny_ready (rs := [1, 2]) (by kernel_rfl) (by simp) ?_
                    refine AllReady.cons rfl (fun K hK => ?N03_1) (AllReady.cons rfl (fun K hK => ?N03_2) AllReady.nil)
                    case N03_1 =>
                      rw [if_pos (by rfl)]
                      change Oper.wp _ ⟨some 106, Op.load 3 (.tmp 6), _, _, _, _⟩ _ _ _ _
                      refine wp_load_one (.tmp 6) rfl (ev_of (by simp (disch := (first | decide | (simp only [tm_size, qs]; decide))) only [tm_other, tm_same, put_none, q6])) ceD2 ?_
                      refine hK _ _ ?_
                      clear hK K
                      try dsimp only [put_none]
                      refine wpAny_ready (rs := [2, 4]) (by kernel_rfl) (by simp) ?_
                      refine AllReady.cons rfl (fun K hK => ?N031_2) (AllReady.cons rfl (fun K hK => ?N031_4) AllReady.nil)
                      case N031_2 =>
                        rw [if_pos (by rfl)]
                        change Oper.wp _ ⟨some 107, Op.build 81 #[], _, _, _, _⟩ _ _ _ _
                        refine wp_build39 rfl ?_
                        refine hK _ _ ?_
                        clear hK K
                        try dsimp only [put_none]
                        refine wpAny_ready (rs := [4]) (by kernel_rfl) (by simp) ?_
                        refine AllReady.cons rfl (fun K hK => ?N0312_4) AllReady.nil
                        case N0312_4 =>
                          rw [if_pos (by rfl)]
                          change Oper.wp _ ⟨none, Op.store 3 (.tmp 3) (.tmp 106), _, _, _, _⟩ _ _ _ _
                          refine wp_store_one (v := (en : Int)) (.tmp 3) (.tmp 106) rfl (ev_of (by simp (disch := (first | decide | (simp only [tm_size, qs]; decide))) only [tm_other, tm_same, put_none, q3])) (ev_of (by simp (disch := (first | decide | (simp only [tm_size, qs]; decide))) only [tm_other, tm_same, put_none])) c2 f2 ?_
                          refine hK _ _ ?_
                          clear hK K
                          try dsimp only [put_none]
                          refine wpAny_ready (rs := [5]) (by kernel_rfl) (by simp) ?_
                          refine AllReady.cons rfl (fun K hK => ?N03124_5) AllReady.nil
                          case N03124_5 =>
                            rw [if_pos (by rfl)]
                            change Oper.wp _ ⟨none, Op.store 81 (.tmp 4) (.tmp 107), _, _, _, _⟩ _ _ _ _
                            refine wp_store_row 81 (.tmp 4) (.tmp 107) rfl (w.heap.size + 1 + 1) (flC 0 0) (ev_of (by simp (disch := (first | decide | (simp only [tm_size, qs]; decide))) only [tm_other, tm_same, put_none, q4])) (ev_of (by simp (disch := (first | decide | (simp only [tm_size, qs]; decide))) only [tm_other, tm_same, put_none])) 81 _ (bw_mid z10) s39 rfl (fl_all _ _) ?_
                            refine hK _ _ ?_
                            clear hK K
                            try dsimp only [put_none]
                            refine wpAny_done (by kernel_rfl) ?_ _
                            exact hfin _ (by simp (disch := (first | decide | (simp only [tm_size, qs]; decide))) only [tm_other, tm_same, put_none, q2]) (by simp (disch := (first | decide | (simp only [tm_size, qs]; decide))) only [tm_other, tm_same, put_none, q3]) (by simp (disch := (first | decide | (simp only [tm_size, qs]; decide))) only [tm_other, tm_same, put_none, q4]) (by simp only [tm_def, put_none, qd])
                      case N031_4 =>
                        rw [if_pos (by rfl)]
                        change Oper.wp _ ⟨none, Op.store 3 (.tmp 3) (.tmp 106), _, _, _, _⟩ _ _ _ _
                        refine wp_store_one (v := (en : Int)) (.tmp 3) (.tmp 106) rfl (ev_of (by simp (disch := (first | decide | (simp only [tm_size, qs]; decide))) only [tm_other, tm_same, put_none, q3])) (ev_of (by simp (disch := (first | decide | (simp only [tm_size, qs]; decide))) only [tm_other, tm_same, put_none])) c2 f2 ?_
                        refine hK _ _ ?_
                        clear hK K
                        try dsimp only [put_none]
                        refine wpAny_ready (rs := [2]) (by kernel_rfl) (by simp) ?_
                        refine AllReady.cons rfl (fun K hK => ?N0314_2) AllReady.nil
                        case N0314_2 =>
                          rw [if_pos (by rfl)]
                          change Oper.wp _ ⟨some 107, Op.build 81 #[], _, _, _, _⟩ _ _ _ _
                          refine wp_build39 rfl ?_
                          refine hK _ _ ?_
                          clear hK K
                          try dsimp only [put_none]
                          refine wpAny_ready (rs := [5]) (by kernel_rfl) (by simp) ?_
                          refine AllReady.cons rfl (fun K hK => ?N03142_5) AllReady.nil
                          case N03142_5 =>
                            rw [if_pos (by rfl)]
                            change Oper.wp _ ⟨none, Op.store 81 (.tmp 4) (.tmp 107), _, _, _, _⟩ _ _ _ _
                            refine wp_store_row 81 (.tmp 4) (.tmp 107) rfl (w.heap.size + 1 + 1) (flC 0 0) (ev_of (by simp (disch := (first | decide | (simp only [tm_size, qs]; decide))) only [tm_other, tm_same, put_none, q4])) (ev_of (by simp (disch := (first | decide | (simp only [tm_size, qs]; decide))) only [tm_other, tm_same, put_none])) 81 _ (bw_mid z10) s39 rfl (fl_all _ _) ?_
                            refine hK _ _ ?_
                            clear hK K
                            try dsimp only [put_none]
                            refine wpAny_done (by kernel_rfl) ?_ _
                            exact hfin _ (by simp (disch := (first | decide | (simp only [tm_size, qs]; decide))) only [tm_other, tm_same, put_none, q2]) (by simp (disch := (first | decide | (simp only [tm_size, qs]; decide))) only [tm_other, tm_same, put_none, q3]) (by simp (disch := (first | decide | (simp only [tm_size, qs]; decide))) only [tm_other, tm_same, put_none, q4]) (by simp only [tm_def, put_none, qd])
                    case N03_2 =>
                      rw [if_pos (by rfl)]
                      change Oper.wp _ ⟨some 107, Op.build 81 #[], _, _, _, _⟩ _ _ _ _
                      refine wp_build39 rfl ?_
                      refine hK _ _ ?_
                      clear hK K
                      try dsimp only [put_none]
                      refine wpAny_ready (rs := [1]) (by kernel_rfl) (by simp) ?_
                      refine AllReady.cons rfl (fun K hK => ?N032_1) AllReady.nil
                      case N032_1 =>
                        rw [if_pos (by rfl)]
                        change Oper.wp _ ⟨some 106, Op.load 3 (.tmp 6), _, _, _, _⟩ _ _ _ _
                        refine wp_load_one (.tmp 6) rfl (ev_of (by simp (disch := (first | decide | (simp only [tm_size, qs]; decide))) only [tm_other, tm_same, put_none, q6])) ceD2 ?_
                        refine hK _ _ ?_
                        clear hK K
                        try dsimp only [put_none]
                        refine wpAny_ready (rs := [4]) (by kernel_rfl) (by simp) ?_
                        refine AllReady.cons rfl (fun K hK => ?N0321_4) AllReady.nil
                        case N0321_4 =>
                          rw [if_pos (by rfl)]
                          change Oper.wp _ ⟨none, Op.store 3 (.tmp 3) (.tmp 106), _, _, _, _⟩ _ _ _ _
                          refine wp_store_one (v := (en : Int)) (.tmp 3) (.tmp 106) rfl (ev_of (by simp (disch := (first | decide | (simp only [tm_size, qs]; decide))) only [tm_other, tm_same, put_none, q3])) (ev_of (by simp (disch := (first | decide | (simp only [tm_size, qs]; decide))) only [tm_other, tm_same, put_none])) c2 f2 ?_
                          refine hK _ _ ?_
                          clear hK K
                          try dsimp only [put_none]
                          refine wpAny_ready (rs := [5]) (by kernel_rfl) (by simp) ?_
                          refine AllReady.cons rfl (fun K hK => ?N03214_5) AllReady.nil
                          case N03214_5 =>
                            rw [if_pos (by rfl)]
                            change Oper.wp _ ⟨none, Op.store 81 (.tmp 4) (.tmp 107), _, _, _, _⟩ _ _ _ _
                            refine wp_store_row 81 (.tmp 4) (.tmp 107) rfl (w.heap.size + 1 + 1) (flC 0 0) (ev_of (by simp (disch := (first | decide | (simp only [tm_size, qs]; decide))) only [tm_other, tm_same, put_none, q4])) (ev_of (by simp (disch := (first | decide | (simp only [tm_size, qs]; decide))) only [tm_other, tm_same, put_none])) 81 _ (bw_mid z10) s39 rfl (fl_all _ _) ?_
                            refine hK _ _ ?_
                            clear hK K
                            try dsimp only [put_none]
                            refine wpAny_done (by kernel_rfl) ?_ _
                            exact hfin _ (by simp (disch := (first | decide | (simp only [tm_size, qs]; decide))) only [tm_other, tm_same, put_none, q2]) (by simp (disch := (first | decide | (simp only [tm_size, qs]; decide))) only [tm_other, tm_same, put_none, q3]) (by simp (disch := (first | decide | (simp only [tm_size, qs]; decide))) only [tm_other, tm_same, put_none, q4]) (by simp only [tm_def, put_none, qd])
                case N_1 =>
                  rw [if_pos (by rfl)]
                  change Oper.wp _ ⟨some 106, Op.load 3 (.tmp 6), _, _, _, _⟩ _ _ _ _
                  refine wp_load_one (.tmp 6) rfl (ev_of (by simp (disch := (first | decide | (simp only [tm_size, qs]; decide))) only [tm_other, tm_same, put_none, q6])) ceD ?_
                  refine hK _ _ ?_
                  clear hK K
                  try dsimp only [put_none]
                  refine wpAny_ready (rs := [0, 2]) (by kernel_rfl) (by simp) ?_
                  refine AllReady.cons rfl (fun K hK => ?N1_0) (AllReady.cons rfl (fun K hK => ?N1_2) AllReady.nil)
                  case N1_0 =>
                    rw [if_pos (by rfl)]
                    change Oper.wp _ ⟨some 105, Op.load 79 (.tmp 5), _, _, _, _⟩ _ _ _ _
                    refine wp_load_row 79 (.tmp 5) rfl w1.heap.size (ev_of (by simp (disch := (first | decide | (simp only [tm_size, qs]; decide))) only [tm_other, tm_same, put_none, q5])) 79 (pkC ⟨hd, A3, es.length, c3, m⟩) (0, 0) _ pD Try.underlying79 rfl s29 ?_
                    refine hK _ _ ?_
                    clear hK K
                    try dsimp only [put_none]
                    refine wpAny_ready (rs := [2, 3]) (by kernel_rfl) (by simp) ?_
                    refine AllReady.cons rfl (fun K hK => ?N10_2) (AllReady.cons rfl (fun K hK => ?N10_3) AllReady.nil)
                    case N10_2 =>
                      rw [if_pos (by rfl)]
                      change Oper.wp _ ⟨some 107, Op.build 81 #[], _, _, _, _⟩ _ _ _ _
                      refine wp_build39 rfl ?_
                      refine hK _ _ ?_
                      clear hK K
                      try dsimp only [put_none]
                      refine wpAny_ready (rs := [3]) (by kernel_rfl) (by simp) ?_
                      refine AllReady.cons rfl (fun K hK => ?N102_3) AllReady.nil
                      case N102_3 =>
                        rw [if_pos (by rfl)]
                        change Oper.wp _ ⟨none, Op.store 79 (.tmp 2) (.tmp 105), _, _, _, _⟩ _ _ _ _
                        refine wp_store_row 79 (.tmp 2) (.tmp 105) rfl w.heap.size (pkC ⟨hd, A3, es.length, c3, m⟩) (ev_of (by simp (disch := (first | decide | (simp only [tm_size, qs]; decide))) only [tm_other, tm_same, put_none, q2])) (ev_of (by simp (disch := (first | decide | (simp only [tm_size, qs]; decide))) only [tm_other, tm_same, put_none])) 79 _ x10 s29 rfl (pk_all _) ?_
                        refine hK _ _ ?_
                        clear hK K
                        try dsimp only [put_none]
                        refine wpAny_ready (rs := [4]) (by kernel_rfl) (by simp) ?_
                        refine AllReady.cons rfl (fun K hK => ?N1023_4) AllReady.nil
                        case N1023_4 =>
                          rw [if_pos (by rfl)]
                          change Oper.wp _ ⟨none, Op.store 3 (.tmp 3) (.tmp 106), _, _, _, _⟩ _ _ _ _
                          refine wp_store_one (v := (en : Int)) (.tmp 3) (.tmp 106) rfl (ev_of (by simp (disch := (first | decide | (simp only [tm_size, qs]; decide))) only [tm_other, tm_same, put_none, q3])) (ev_of (by simp (disch := (first | decide | (simp only [tm_size, qs]; decide))) only [tm_other, tm_same, put_none])) c2 f2 ?_
                          refine hK _ _ ?_
                          clear hK K
                          try dsimp only [put_none]
                          refine wpAny_ready (rs := [5]) (by kernel_rfl) (by simp) ?_
                          refine AllReady.cons rfl (fun K hK => ?N10234_5) AllReady.nil
                          case N10234_5 =>
                            rw [if_pos (by rfl)]
                            change Oper.wp _ ⟨none, Op.store 81 (.tmp 4) (.tmp 107), _, _, _, _⟩ _ _ _ _
                            refine wp_store_row 81 (.tmp 4) (.tmp 107) rfl (w.heap.size + 1 + 1) (flC 0 0) (ev_of (by simp (disch := (first | decide | (simp only [tm_size, qs]; decide))) only [tm_other, tm_same, put_none, q4])) (ev_of (by simp (disch := (first | decide | (simp only [tm_size, qs]; decide))) only [tm_other, tm_same, put_none])) 81 _ (bw_mid z10) s39 rfl (fl_all _ _) ?_
                            refine hK _ _ ?_
                            clear hK K
                            try dsimp only [put_none]
                            refine wpAny_done (by kernel_rfl) ?_ _
                            exact hfin _ (by simp (disch := (first | decide | (simp only [tm_size, qs]; decide))) only [tm_other, tm_same, put_none, q2]) (by simp (disch := (first | decide | (simp only [tm_size, qs]; decide))) only [tm_other, tm_same, put_none, q3]) (by simp (disch := (first | decide | (simp only [tm_size, qs]; decide))) only [tm_other, tm_same, put_none, q4]) (by simp only [tm_def, put_none, qd])
                    case N10_3 =>
                      rw [if_pos (by rfl)]
                      change Oper.wp _ ⟨none, Op.store 79 (.tmp 2) (.tmp 105), _, _, _, _⟩ _ _ _ _
                      refine wp_store_row 79 (.tmp 2) (.tmp 105) rfl w.heap.size (pkC ⟨hd, A3, es.length, c3, m⟩) (ev_of (by simp (disch := (first | decide | (simp only [tm_size, qs]; decide))) only [tm_other, tm_same, put_none, q2])) (ev_of (by simp (disch := (first | decide | (simp only [tm_size, qs]; decide))) only [tm_other, tm_same, put_none])) 79 _ x10 s29 rfl (pk_all _) ?_
                      refine hK _ _ ?_
                      clear hK K
                      try dsimp only [put_none]
                      refine wpAny_ready (rs := [2, 4]) (by kernel_rfl) (by simp) ?_
                      refine AllReady.cons rfl (fun K hK => ?N103_2) (AllReady.cons rfl (fun K hK => ?N103_4) AllReady.nil)
                      case N103_2 =>
                        rw [if_pos (by rfl)]
                        change Oper.wp _ ⟨some 107, Op.build 81 #[], _, _, _, _⟩ _ _ _ _
                        refine wp_build39 rfl ?_
                        refine hK _ _ ?_
                        clear hK K
                        try dsimp only [put_none]
                        refine wpAny_ready (rs := [4]) (by kernel_rfl) (by simp) ?_
                        refine AllReady.cons rfl (fun K hK => ?N1032_4) AllReady.nil
                        case N1032_4 =>
                          rw [if_pos (by rfl)]
                          change Oper.wp _ ⟨none, Op.store 3 (.tmp 3) (.tmp 106), _, _, _, _⟩ _ _ _ _
                          refine wp_store_one (v := (en : Int)) (.tmp 3) (.tmp 106) rfl (ev_of (by simp (disch := (first | decide | (simp only [tm_size, qs]; decide))) only [tm_other, tm_same, put_none, q3])) (ev_of (by simp (disch := (first | decide | (simp only [tm_size, qs]; decide))) only [tm_other, tm_same, put_none])) c2 f2 ?_
                          refine hK _ _ ?_
                          clear hK K
                          try dsimp only [put_none]
                          refine wpAny_ready (rs := [5]) (by kernel_rfl) (by simp) ?_
                          refine AllReady.cons rfl (fun K hK => ?N10324_5) AllReady.nil
                          case N10324_5 =>
                            rw [if_pos (by rfl)]
                            change Oper.wp _ ⟨none, Op.store 81 (.tmp 4) (.tmp 107), _, _, _, _⟩ _ _ _ _
                            refine wp_store_row 81 (.tmp 4) (.tmp 107) rfl (w.heap.size + 1 + 1) (flC 0 0) (ev_of (by simp (disch := (first | decide | (simp only [tm_size, qs]; decide))) only [tm_other, tm_same, put_none, q4])) (ev_of (by simp (disch := (first | decide | (simp only [tm_size, qs]; decide))) only [tm_other, tm_same, put_none])) 81 _ (bw_mid z10) s39 rfl (fl_all _ _) ?_
                            refine hK _ _ ?_
                            clear hK K
                            try dsimp only [put_none]
                            refine wpAny_done (by kernel_rfl) ?_ _
                            exact hfin _ (by simp (disch := (first | decide | (simp only [tm_size, qs]; decide))) only [tm_other, tm_same, put_none, q2]) (by simp (disch := (first | decide | (simp only [tm_size, qs]; decide))) only [tm_other, tm_same, put_none, q3]) (by simp (disch := (first | decide | (simp only [tm_size, qs]; decide))) only [tm_other, tm_same, put_none, q4]) (by simp only [tm_def, put_none, qd])
                      case N103_4 =>
                        rw [if_pos (by rfl)]
                        change Oper.wp _ ⟨none, Op.store 3 (.tmp 3) (.tmp 106), _, _, _, _⟩ _ _ _ _
                        refine wp_store_one (v := (en : Int)) (.tmp 3) (.tmp 106) rfl (ev_of (by simp (disch := (first | decide | (simp only [tm_size, qs]; decide))) only [tm_other, tm_same, put_none, q3])) (ev_of (by simp (disch := (first | decide | (simp only [tm_size, qs]; decide))) only [tm_other, tm_same, put_none])) c2 f2 ?_
                        refine hK _ _ ?_
                        clear hK K
                        try dsimp only [put_none]
                        refine wpAny_ready (rs := [2]) (by kernel_rfl) (by simp) ?_
                        refine AllReady.cons rfl (fun K hK => ?N1034_2) AllReady.nil
                        case N1034_2 =>
                          rw [if_pos (by rfl)]
                          change Oper.wp _ ⟨some 107, Op.build 81 #[], _, _, _, _⟩ _ _ _ _
                          refine wp_build39 rfl ?_
                          refine hK _ _ ?_
                          clear hK K
                          try dsimp only [put_none]
                          refine wpAny_ready (rs := [5]) (by kernel_rfl) (by simp) ?_
                          refine AllReady.cons rfl (fun K hK => ?N10342_5) AllReady.nil
                          case N10342_5 =>
                            rw [if_pos (by rfl)]
                            change Oper.wp _ ⟨none, Op.store 81 (.tmp 4) (.tmp 107), _, _, _, _⟩ _ _ _ _
                            refine wp_store_row 81 (.tmp 4) (.tmp 107) rfl (w.heap.size + 1 + 1) (flC 0 0) (ev_of (by simp (disch := (first | decide | (simp only [tm_size, qs]; decide))) only [tm_other, tm_same, put_none, q4])) (ev_of (by simp (disch := (first | decide | (simp only [tm_size, qs]; decide))) only [tm_other, tm_same, put_none])) 81 _ (bw_mid z10) s39 rfl (fl_all _ _) ?_
                            refine hK _ _ ?_
                            clear hK K
                            try dsimp only [put_none]
                            refine wpAny_done (by kernel_rfl) ?_ _
                            exact hfin _ (by simp (disch := (first | decide | (simp only [tm_size, qs]; decide))) only [tm_other, tm_same, put_none, q2]) (by simp (disch := (first | decide | (simp only [tm_size, qs]; decide))) only [tm_other, tm_same, put_none, q3]) (by simp (disch := (first | decide | (simp only [tm_size, qs]; decide))) only [tm_other, tm_same, put_none, q4]) (by simp only [tm_def, put_none, qd])
                  case N1_2 =>
                    rw [if_pos (by rfl)]
                    change Oper.wp _ ⟨some 107, Op.build 81 #[], _, _, _, _⟩ _ _ _ _
                    refine wp_build39 rfl ?_
                    refine hK _ _ ?_
                    clear hK K
                    try dsimp only [put_none]
                    refine wpAny_ready (rs := [0]) (by kernel_rfl) (by simp) ?_
                    refine AllReady.cons rfl (fun K hK => ?N12_0) AllReady.nil
                    case N12_0 =>
                      rw [if_pos (by rfl)]
                      change Oper.wp _ ⟨some 105, Op.load 79 (.tmp 5), _, _, _, _⟩ _ _ _ _
                      refine wp_load_row 79 (.tmp 5) rfl w1.heap.size (ev_of (by simp (disch := (first | decide | (simp only [tm_size, qs]; decide))) only [tm_other, tm_same, put_none, q5])) 79 (pkC ⟨hd, A3, es.length, c3, m⟩) (0, 0) _ pD Try.underlying79 rfl s29 ?_
                      refine hK _ _ ?_
                      clear hK K
                      try dsimp only [put_none]
                      refine wpAny_ready (rs := [3]) (by kernel_rfl) (by simp) ?_
                      refine AllReady.cons rfl (fun K hK => ?N120_3) AllReady.nil
                      case N120_3 =>
                        rw [if_pos (by rfl)]
                        change Oper.wp _ ⟨none, Op.store 79 (.tmp 2) (.tmp 105), _, _, _, _⟩ _ _ _ _
                        refine wp_store_row 79 (.tmp 2) (.tmp 105) rfl w.heap.size (pkC ⟨hd, A3, es.length, c3, m⟩) (ev_of (by simp (disch := (first | decide | (simp only [tm_size, qs]; decide))) only [tm_other, tm_same, put_none, q2])) (ev_of (by simp (disch := (first | decide | (simp only [tm_size, qs]; decide))) only [tm_other, tm_same, put_none])) 79 _ x10 s29 rfl (pk_all _) ?_
                        refine hK _ _ ?_
                        clear hK K
                        try dsimp only [put_none]
                        refine wpAny_ready (rs := [4]) (by kernel_rfl) (by simp) ?_
                        refine AllReady.cons rfl (fun K hK => ?N1203_4) AllReady.nil
                        case N1203_4 =>
                          rw [if_pos (by rfl)]
                          change Oper.wp _ ⟨none, Op.store 3 (.tmp 3) (.tmp 106), _, _, _, _⟩ _ _ _ _
                          refine wp_store_one (v := (en : Int)) (.tmp 3) (.tmp 106) rfl (ev_of (by simp (disch := (first | decide | (simp only [tm_size, qs]; decide))) only [tm_other, tm_same, put_none, q3])) (ev_of (by simp (disch := (first | decide | (simp only [tm_size, qs]; decide))) only [tm_other, tm_same, put_none])) c2 f2 ?_
                          refine hK _ _ ?_
                          clear hK K
                          try dsimp only [put_none]
                          refine wpAny_ready (rs := [5]) (by kernel_rfl) (by simp) ?_
                          refine AllReady.cons rfl (fun K hK => ?N12034_5) AllReady.nil
                          case N12034_5 =>
                            rw [if_pos (by rfl)]
                            change Oper.wp _ ⟨none, Op.store 81 (.tmp 4) (.tmp 107), _, _, _, _⟩ _ _ _ _
                            refine wp_store_row 81 (.tmp 4) (.tmp 107) rfl (w.heap.size + 1 + 1) (flC 0 0) (ev_of (by simp (disch := (first | decide | (simp only [tm_size, qs]; decide))) only [tm_other, tm_same, put_none, q4])) (ev_of (by simp (disch := (first | decide | (simp only [tm_size, qs]; decide))) only [tm_other, tm_same, put_none])) 81 _ (bw_mid z10) s39 rfl (fl_all _ _) ?_
                            refine hK _ _ ?_
                            clear hK K
                            try dsimp only [put_none]
                            refine wpAny_done (by kernel_rfl) ?_ _
                            exact hfin _ (by simp (disch := (first | decide | (simp only [tm_size, qs]; decide))) only [tm_other, tm_same, put_none, q2]) (by simp (disch := (first | decide | (simp only [tm_size, qs]; decide))) only [tm_other, tm_same, put_none, q3]) (by simp (disch := (first | decide | (simp only [tm_size, qs]; decide))) only [tm_other, tm_same, put_none, q4]) (by simp only [tm_def, put_none, qd])
                case N_2 =>
                  rw [if_pos (by rfl)]
                  change Oper.wp _ ⟨some 107, Op.build 81 #[], _, _, _, _⟩ _ _ _ _
                  refine wp_build39 rfl ?_
                  refine hK _ _ ?_
                  clear hK K
                  try dsimp only [put_none]
                  refine wpAny_ready (rs := [0, 1]) (by kernel_rfl) (by simp) ?_
                  refine AllReady.cons rfl (fun K hK => ?N2_0) (AllReady.cons rfl (fun K hK => ?N2_1) AllReady.nil)
                  case N2_0 =>
                    rw [if_pos (by rfl)]
                    change Oper.wp _ ⟨some 105, Op.load 79 (.tmp 5), _, _, _, _⟩ _ _ _ _
                    refine wp_load_row 79 (.tmp 5) rfl w1.heap.size (ev_of (by simp (disch := (first | decide | (simp only [tm_size, qs]; decide))) only [tm_other, tm_same, put_none, q5])) 79 (pkC ⟨hd, A3, es.length, c3, m⟩) (0, 0) _ pD Try.underlying79 rfl s29 ?_
                    refine hK _ _ ?_
                    clear hK K
                    try dsimp only [put_none]
                    refine wpAny_ready (rs := [1, 3]) (by kernel_rfl) (by simp) ?_
                    refine AllReady.cons rfl (fun K hK => ?N20_1) (AllReady.cons rfl (fun K hK => ?N20_3) AllReady.nil)
                    case N20_1 =>
                      rw [if_pos (by rfl)]
                      change Oper.wp _ ⟨some 106, Op.load 3 (.tmp 6), _, _, _, _⟩ _ _ _ _
                      refine wp_load_one (.tmp 6) rfl (ev_of (by simp (disch := (first | decide | (simp only [tm_size, qs]; decide))) only [tm_other, tm_same, put_none, q6])) ceD ?_
                      refine hK _ _ ?_
                      clear hK K
                      try dsimp only [put_none]
                      refine wpAny_ready (rs := [3]) (by kernel_rfl) (by simp) ?_
                      refine AllReady.cons rfl (fun K hK => ?N201_3) AllReady.nil
                      case N201_3 =>
                        rw [if_pos (by rfl)]
                        change Oper.wp _ ⟨none, Op.store 79 (.tmp 2) (.tmp 105), _, _, _, _⟩ _ _ _ _
                        refine wp_store_row 79 (.tmp 2) (.tmp 105) rfl w.heap.size (pkC ⟨hd, A3, es.length, c3, m⟩) (ev_of (by simp (disch := (first | decide | (simp only [tm_size, qs]; decide))) only [tm_other, tm_same, put_none, q2])) (ev_of (by simp (disch := (first | decide | (simp only [tm_size, qs]; decide))) only [tm_other, tm_same, put_none])) 79 _ x10 s29 rfl (pk_all _) ?_
                        refine hK _ _ ?_
                        clear hK K
                        try dsimp only [put_none]
                        refine wpAny_ready (rs := [4]) (by kernel_rfl) (by simp) ?_
                        refine AllReady.cons rfl (fun K hK => ?N2013_4) AllReady.nil
                        case N2013_4 =>
                          rw [if_pos (by rfl)]
                          change Oper.wp _ ⟨none, Op.store 3 (.tmp 3) (.tmp 106), _, _, _, _⟩ _ _ _ _
                          refine wp_store_one (v := (en : Int)) (.tmp 3) (.tmp 106) rfl (ev_of (by simp (disch := (first | decide | (simp only [tm_size, qs]; decide))) only [tm_other, tm_same, put_none, q3])) (ev_of (by simp (disch := (first | decide | (simp only [tm_size, qs]; decide))) only [tm_other, tm_same, put_none])) c2 f2 ?_
                          refine hK _ _ ?_
                          clear hK K
                          try dsimp only [put_none]
                          refine wpAny_ready (rs := [5]) (by kernel_rfl) (by simp) ?_
                          refine AllReady.cons rfl (fun K hK => ?N20134_5) AllReady.nil
                          case N20134_5 =>
                            rw [if_pos (by rfl)]
                            change Oper.wp _ ⟨none, Op.store 81 (.tmp 4) (.tmp 107), _, _, _, _⟩ _ _ _ _
                            refine wp_store_row 81 (.tmp 4) (.tmp 107) rfl (w.heap.size + 1 + 1) (flC 0 0) (ev_of (by simp (disch := (first | decide | (simp only [tm_size, qs]; decide))) only [tm_other, tm_same, put_none, q4])) (ev_of (by simp (disch := (first | decide | (simp only [tm_size, qs]; decide))) only [tm_other, tm_same, put_none])) 81 _ (bw_mid z10) s39 rfl (fl_all _ _) ?_
                            refine hK _ _ ?_
                            clear hK K
                            try dsimp only [put_none]
                            refine wpAny_done (by kernel_rfl) ?_ _
                            exact hfin _ (by simp (disch := (first | decide | (simp only [tm_size, qs]; decide))) only [tm_other, tm_same, put_none, q2]) (by simp (disch := (first | decide | (simp only [tm_size, qs]; decide))) only [tm_other, tm_same, put_none, q3]) (by simp (disch := (first | decide | (simp only [tm_size, qs]; decide))) only [tm_other, tm_same, put_none, q4]) (by simp only [tm_def, put_none, qd])
                    case N20_3 =>
                      rw [if_pos (by rfl)]
                      change Oper.wp _ ⟨none, Op.store 79 (.tmp 2) (.tmp 105), _, _, _, _⟩ _ _ _ _
                      refine wp_store_row 79 (.tmp 2) (.tmp 105) rfl w.heap.size (pkC ⟨hd, A3, es.length, c3, m⟩) (ev_of (by simp (disch := (first | decide | (simp only [tm_size, qs]; decide))) only [tm_other, tm_same, put_none, q2])) (ev_of (by simp (disch := (first | decide | (simp only [tm_size, qs]; decide))) only [tm_other, tm_same, put_none])) 79 _ x10 s29 rfl (pk_all _) ?_
                      refine hK _ _ ?_
                      clear hK K
                      try dsimp only [put_none]
                      refine wpAny_ready (rs := [1]) (by kernel_rfl) (by simp) ?_
                      refine AllReady.cons rfl (fun K hK => ?N203_1) AllReady.nil
                      case N203_1 =>
                        rw [if_pos (by rfl)]
                        change Oper.wp _ ⟨some 106, Op.load 3 (.tmp 6), _, _, _, _⟩ _ _ _ _
                        refine wp_load_one (.tmp 6) rfl (ev_of (by simp (disch := (first | decide | (simp only [tm_size, qs]; decide))) only [tm_other, tm_same, put_none, q6])) ceD2 ?_
                        refine hK _ _ ?_
                        clear hK K
                        try dsimp only [put_none]
                        refine wpAny_ready (rs := [4]) (by kernel_rfl) (by simp) ?_
                        refine AllReady.cons rfl (fun K hK => ?N2031_4) AllReady.nil
                        case N2031_4 =>
                          rw [if_pos (by rfl)]
                          change Oper.wp _ ⟨none, Op.store 3 (.tmp 3) (.tmp 106), _, _, _, _⟩ _ _ _ _
                          refine wp_store_one (v := (en : Int)) (.tmp 3) (.tmp 106) rfl (ev_of (by simp (disch := (first | decide | (simp only [tm_size, qs]; decide))) only [tm_other, tm_same, put_none, q3])) (ev_of (by simp (disch := (first | decide | (simp only [tm_size, qs]; decide))) only [tm_other, tm_same, put_none])) c2 f2 ?_
                          refine hK _ _ ?_
                          clear hK K
                          try dsimp only [put_none]
                          refine wpAny_ready (rs := [5]) (by kernel_rfl) (by simp) ?_
                          refine AllReady.cons rfl (fun K hK => ?N20314_5) AllReady.nil
                          case N20314_5 =>
                            rw [if_pos (by rfl)]
                            change Oper.wp _ ⟨none, Op.store 81 (.tmp 4) (.tmp 107), _, _, _, _⟩ _ _ _ _
                            refine wp_store_row 81 (.tmp 4) (.tmp 107) rfl (w.heap.size + 1 + 1) (flC 0 0) (ev_of (by simp (disch := (first | decide | (simp only [tm_size, qs]; decide))) only [tm_other, tm_same, put_none, q4])) (ev_of (by simp (disch := (first | decide | (simp only [tm_size, qs]; decide))) only [tm_other, tm_same, put_none])) 81 _ (bw_mid z10) s39 rfl (fl_all _ _) ?_
                            refine hK _ _ ?_
                            clear hK K
                            try dsimp only [put_none]
                            refine wpAny_done (by kernel_rfl) ?_ _
                            exact hfin _ (by simp (disch := (first | decide | (simp only [tm_size, qs]; decide))) only [tm_other, tm_same, put_none, q2]) (by simp (disch := (first | decide | (simp only [tm_size, qs]; decide))) only [tm_other, tm_same, put_none, q3]) (by simp (disch := (first | decide | (simp only [tm_size, qs]; decide))) only [tm_other, tm_same, put_none, q4]) (by simp only [tm_def, put_none, qd])
                  case N2_1 =>
                    rw [if_pos (by rfl)]
                    change Oper.wp _ ⟨some 106, Op.load 3 (.tmp 6), _, _, _, _⟩ _ _ _ _
                    refine wp_load_one (.tmp 6) rfl (ev_of (by simp (disch := (first | decide | (simp only [tm_size, qs]; decide))) only [tm_other, tm_same, put_none, q6])) ceD ?_
                    refine hK _ _ ?_
                    clear hK K
                    try dsimp only [put_none]
                    refine wpAny_ready (rs := [0]) (by kernel_rfl) (by simp) ?_
                    refine AllReady.cons rfl (fun K hK => ?N21_0) AllReady.nil
                    case N21_0 =>
                      rw [if_pos (by rfl)]
                      change Oper.wp _ ⟨some 105, Op.load 79 (.tmp 5), _, _, _, _⟩ _ _ _ _
                      refine wp_load_row 79 (.tmp 5) rfl w1.heap.size (ev_of (by simp (disch := (first | decide | (simp only [tm_size, qs]; decide))) only [tm_other, tm_same, put_none, q5])) 79 (pkC ⟨hd, A3, es.length, c3, m⟩) (0, 0) _ pD Try.underlying79 rfl s29 ?_
                      refine hK _ _ ?_
                      clear hK K
                      try dsimp only [put_none]
                      refine wpAny_ready (rs := [3]) (by kernel_rfl) (by simp) ?_
                      refine AllReady.cons rfl (fun K hK => ?N210_3) AllReady.nil
                      case N210_3 =>
                        rw [if_pos (by rfl)]
                        change Oper.wp _ ⟨none, Op.store 79 (.tmp 2) (.tmp 105), _, _, _, _⟩ _ _ _ _
                        refine wp_store_row 79 (.tmp 2) (.tmp 105) rfl w.heap.size (pkC ⟨hd, A3, es.length, c3, m⟩) (ev_of (by simp (disch := (first | decide | (simp only [tm_size, qs]; decide))) only [tm_other, tm_same, put_none, q2])) (ev_of (by simp (disch := (first | decide | (simp only [tm_size, qs]; decide))) only [tm_other, tm_same, put_none])) 79 _ x10 s29 rfl (pk_all _) ?_
                        refine hK _ _ ?_
                        clear hK K
                        try dsimp only [put_none]
                        refine wpAny_ready (rs := [4]) (by kernel_rfl) (by simp) ?_
                        refine AllReady.cons rfl (fun K hK => ?N2103_4) AllReady.nil
                        case N2103_4 =>
                          rw [if_pos (by rfl)]
                          change Oper.wp _ ⟨none, Op.store 3 (.tmp 3) (.tmp 106), _, _, _, _⟩ _ _ _ _
                          refine wp_store_one (v := (en : Int)) (.tmp 3) (.tmp 106) rfl (ev_of (by simp (disch := (first | decide | (simp only [tm_size, qs]; decide))) only [tm_other, tm_same, put_none, q3])) (ev_of (by simp (disch := (first | decide | (simp only [tm_size, qs]; decide))) only [tm_other, tm_same, put_none])) c2 f2 ?_
                          refine hK _ _ ?_
                          clear hK K
                          try dsimp only [put_none]
                          refine wpAny_ready (rs := [5]) (by kernel_rfl) (by simp) ?_
                          refine AllReady.cons rfl (fun K hK => ?N21034_5) AllReady.nil
                          case N21034_5 =>
                            rw [if_pos (by rfl)]
                            change Oper.wp _ ⟨none, Op.store 81 (.tmp 4) (.tmp 107), _, _, _, _⟩ _ _ _ _
                            refine wp_store_row 81 (.tmp 4) (.tmp 107) rfl (w.heap.size + 1 + 1) (flC 0 0) (ev_of (by simp (disch := (first | decide | (simp only [tm_size, qs]; decide))) only [tm_other, tm_same, put_none, q4])) (ev_of (by simp (disch := (first | decide | (simp only [tm_size, qs]; decide))) only [tm_other, tm_same, put_none])) 81 _ (bw_mid z10) s39 rfl (fl_all _ _) ?_
                            refine hK _ _ ?_
                            clear hK K
                            try dsimp only [put_none]
                            refine wpAny_done (by kernel_rfl) ?_ _
                            exact hfin _ (by simp (disch := (first | decide | (simp only [tm_size, qs]; decide))) only [tm_other, tm_same, put_none, q2]) (by simp (disch := (first | decide | (simp only [tm_size, qs]; decide))) only [tm_other, tm_same, put_none, q3]) (by simp (disch := (first | decide | (simp only [tm_size, qs]; decide))) only [tm_other, tm_same, put_none, q4]) (by simp only [tm_def, put_none, qd])
              · have HV := Lib.hid (show prs xs = .bad en 102 from HV2.out.trans (if_neg hmac))
                have hne : n - en ≠ 0 ∧ n - en ≠ 4 ∧ n - en ≠ 20 := by
                  unfold macN at hmac
                  simp only [Bool.or_eq_true, beq_iff_eq] at hmac
                  omega
                have he : e = .returned (.tuple #[.agg #[.bool false, .int .u32 0, .slice none 0 0], .bool false]) := by
                  rcases hm with ⟨h, _⟩ | ⟨h, _⟩ | ⟨_, _, _, h⟩
                  · omega
                  · omega
                  · exact h
                subst he
                clear hm hmac hne HV2
                obtain ⟨W10, hW10⟩ : ∃ W10, W10 = w9.alloc (.cells #[.bool false, .int .u32 0, .slice none 0 0] 77) := ⟨_, rfl⟩
                have b10 : RowKit.Below w9.heap.size w9 W10 := by rw [hW10]; exact (Below.refl _ _).alloc (Nat.le_refl _) _
                have P10 := Lib.hid (P9.out.below b10)
                have BW10 := Lib.hid (bthen BW9.out b10 (Nat.le_refl _))
                have HD10 := Lib.hid ((b10.block _ (Array.getElem?_eq_some_iff.1 HD9.out).1).trans HD9.out)
                have ce10 : (w9.alloc (.cells #[.bool false, .int .u32 0, .slice none 0 0] 77)).cell? ⟨w6.heap.size, 0, none⟩ = some (.int .i64 (en : Int)) := by rw [← hW10, cell_of_row W10 _ 0 _ 3 (0, 0) P10.out.at_]; rfl
                have HW10 := Lib.hid hW10
                clear b10 hW10 ce9
                gi_wp2_with fail
                rw [← HW10.out]
                refine ⟨trivial, (callsIn_wide.2 (refused2 en 102 W10)).mono ?_⟩
                rintro e w11 ⟨rfl, b11⟩
                have f10 := P10.out.fr
                have x10 := (f10.block w.heap.size (by omega) (by omega) (by omega)).trans X8.out
                have y10 := (f10.block (w.heap.size + 1) (by omega) (by omega) (by omega)).trans Y8.out
                have z10 := (f10.block (w.heap.size + 1 + 1) (by omega) (by omega) (by omega)).trans Z8.out
                have x1 := (b11.block _ (Array.getElem?_eq_some_iff.1 x10).1).trans x10
                have y1 := (b11.block _ (Array.getElem?_eq_some_iff.1 y10).1).trans y10
                have z1 := (b11.block _ (Array.getElem?_eq_some_iff.1 z10).1).trans z10
                have d1 := (b11.block _ (Array.getElem?_eq_some_iff.1 HD10.out).1).trans HD10.out
                have B11 := bthen BW10.out b11 (Nat.le_refl _)
                clear f10 x10 y10 z10 b11 ce10
                gi_wp2_with (first
                  | (refine wpListIn_store_row rfl 79 (.tmp 2) (.tmp 100) rfl w.heap.size (pkC pk0) rfl rfl 79 _ x1 s29 rfl (pk_all _) ?_; obtain ⟨c2, f2⟩ := bw_cell (p := pk0) y1)
                  | (refine wpListIn_store_row rfl 81 (.tmp 4) (.tmp 102) rfl (w.heap.size + 1 + 1) (flC en 102) rfl rfl 81 _ (bw_mid z1) s39 rfl (fl_all _ _) ?_))
                obtain ⟨v1, v2, v3⟩ := bw_at (p := pk0) (k := 0) (a := en) (e := 102) x1 y1 z1
                have B2 := bw_below (p := pk0) (k := 0) (a := en) (e := 102) B11 (Nat.le_refl _)
                have d2 := (bw_other (w1 := w11) (p := pk0) (k := 0) (a := en) (e := 102) (show D ≠ w.heap.size by omega) (by omega) (by omega)).trans d1
                refine ⟨by simp, .inl ⟨_, _, rfl, run_takeDeferred d2, ?_⟩⟩
                exact ⟨_, res31 ((World.putObj_heap_other (by omega)).trans v1) ((World.putObj_heap_other (by omega)).trans v2) ((World.putObj_heap_other (by omega)).trans v3) _ rfl rfl rfl, B2.grown (grownBy_putObj' _ _ _) B2.size (fun r e => by cases e; omega), by rw [HV.out]; rfl⟩
end Go.Proofs.Ytompggkdjbkjjaa.Wi
