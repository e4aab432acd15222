/- A range over a function that hands out values of its own making; the body may write cells, go on, or return for the function around it. A region that draws its order, inside a fence: what only reads cells that every step keeps may be taken first. prime: the candidates of some draws, one by one. prime: Candidates; pkey: suits. pkey: Draw. pkey: Draw of wrong arguments. -/
import Derived.Test.YtkhlmcknbangfaaGreatDoorHq
import Derived.RangeFuncNested
import Derived.RangeFuncBound
import Derived.RangeFuncCalls
import Derived.RangeFuncLeaves
import Derived.RangeFuncFrom
import Derived.Shelf.Abstract
import Derived.Shelf.RegionOpen
import Derived.OwnWalkIn
import Derived.TacticsInMore
import Derived.OrdersIn
import Derived.OrdersHeld
import Derived.Sort.CutIn
import Derived.Test.YtkhlmcknbangfaaGreatDoorPp
import Derived.RangeFuncBox
namespace Go.Proofs.YtkhlmcknbangfaaGreatDoor
open Go.RowKit Go.Shelf
set_option linter.unusedVariables false
set_option linter.unusedSimpArgs false
set_option maxRecDepth 100000
/-- the records of loops and of deferred calls -/
def isBook : Obj → Bool
  | .loop .. => true
  | .deferred .. => true
  | _ => false
structure KeepsBook (W W' : World) : Prop where
  size : W.heap.size ≤ W'.heap.size
  same : ∀ (k : Nat) (o : Obj), W.heap[k]? = some o → isBook o = true → W'.heap[k]? = some o
theorem KeepsBook.refl (W : World) : KeepsBook W W := ⟨Nat.le_refl _, fun _ _ h _ => h⟩
theorem KeepsBook.trans {A B C : World} (h : KeepsBook A B) (k : KeepsBook B C) : KeepsBook A C := ⟨Nat.le_trans h.size k.size, fun i o hi ho => k.same i o (h.same i o hi ho) ho⟩
theorem KeepsBook.of_grownBy {W W' : World} {row : Option Nat} (hg : W.grownBy W' row) (hrow : ∀ (j : Nat) (o : Obj), row = some j → W.heap[j]? = some o → isBook o = false) : KeepsBook W W' :=
  ⟨hg.size, fun k o hk ho => by
    refine (hg.block k (Array.getElem?_eq_some_iff.1 hk).1 ?_).trans hk
    intro e
    rw [hrow k o e.symm hk] at ho; cases ho⟩
/-- the iterator's word: N rounds, the k-th is handed what G says; a round may end it -/
def Yields2 (F : Fence) (n : Nat) (P : Program) (gf : FuncId) (lb : Array Value) (B0 N : Nat) (G : Nat → Array Value → World → Prop) (Kp : World → World → Prop) (w : World) : Prop :=
  ∀ (l : Nat) (J Jx : Nat → World → Prop) (W : World), RowKit.Below B0 w W → (∀ k A B, J k A → A.grownBy B none → J k B) →
    (∀ k vs W1, J k W1 → k < N → G k vs W1 → YieldAt F (n - 1) P l vs W1 fun e W' => (e = .returned (.bool true) ∧ J (k + 1) W' ∧ Kp W1 W') ∨ (e = .returned (.bool false) ∧ Jx k W' ∧ Kp W1 W')) →
    J 0 W → CallsIn F n P gf (#[.func (.yield l) #[] #[]] ++ lb) W fun e W' => (∃ v, e = .returned v) ∧ (J N W' ∨ ∃ k, k < N ∧ Jx k W')
theorem range_val {P : Program} {F : Fence} {n : Nat} {g : Operand} {ps : Array Tmp} {assign body : Code} {Q : Exit → Act → World → Prop} {a : Act} {w : World}
    (hro : F.round = none) (h1 : 1 ≤ n) {gf : FuncId} {lb : Array Value} (hg : a.eval g = .func (.func gf) #[] lb) (hFg : F.fn gf) (eg : ∀ args w, (callFunc gf args).run P w = .ok (.enter gf args) w)
    {N : Nat} {G : Nat → Array Value → World → Prop} {Kp : World → World → Prop} (hseq : Yields2 F (n - 1) P gf lb w.heap.size N G Kp w) (hps : ∀ k vs W, G k vs W → vs.size = ps.size) (hG : ∀ k, OwnFrom w.heap.size (G k))
    (hKt : ∀ A B C, Kp A B → Kp B C → Kp A C) (hKb : ∀ (A : World) (l : Nat) (r r' : Loop), w.heap.size ≤ l → A.heap[l]? = some (.loop r) → Kp A (A.putObj l (.loop r')))
    (J Jx : Nat → World → Prop) (hJ : OwnFrom w.heap.size J) (hJx : OwnFrom w.heap.size Jx) (h0 : J 0 w) (a₁ : Nat → Array Value → Act)
    (hassign : ∀ (l k : Nat) (vs : Array Value) (W : World) (K : Act → World → Prop), G k vs W → K (a₁ k vs) W →
      assign.wpIn (F.inRound l) (n - 1 - 1) P (Exit.then K (fun _ _ _ => False)) { tmps := (ps.zip vs).foldl (fun t (x : Tmp × Value) => t.setIfInBounds x.1 x.2) a.tmps, defers := [] } W)
    (hbody : ∀ (l k : Nat) (vs : Array Value) (W : World), J k W → k < N → G k vs W →
      body.wpIn (F.inRound l) (n - 1 - 1) P (fun e _ W' => KeepsBook W W' ∧ ((e = .normal ∧ Kp W W' ∧ J (k + 1) W') ∨ (e = .ret ∧ Kp W W' ∧ Jx k W'))) (a₁ k vs) W)
    (hdone : ∀ (D : Nat) (W : World), w.heap.size ≤ D → J N W → W.heap[D]? = some (.deferred (some [])) → Q .normal { a with defers := { target := .collected D, args := #[] } :: a.defers } W)
    (hstop : ∀ (D k : Nat) (W : World), w.heap.size ≤ D → k < N → Jx k W → W.heap[D]? = some (.deferred (some [])) → Code.ret.wpIn F n P Q { a with defers := { target := .collected D, args := #[] } :: a.defers } W) :
    (Code.rangeFunc g ps assign body).wpIn F n P Q a w := by
  refine wpIn_rangeFunc fun fn hfn => ?_
  rw [hro]
  obtain ⟨rec, hrec⟩ : ∃ rec : LoopState → Option Code → Loop, rec = fun st pe => { state := st, pending := pe, fn, tmps := a.tmps, params := ps, assign, body, defers := w.heap.size } := ⟨_, rfl⟩
  have hsize : ((w.alloc (.deferred (some []))).alloc (.loop (rec .ready none))).heap.size = w.heap.size + 2 := by simp
  have hbel : RowKit.Below w.heap.size w ((w.alloc (.deferred (some []))).alloc (.loop (rec .ready none))) := ((RowKit.Below.refl _ w).alloc (Nat.le_refl _) _).alloc (by simp) _
  have hloop : ((w.alloc (.deferred (some []))).alloc (.loop (rec .ready none))).heap[w.heap.size + 1]? = some (.loop (rec .ready none)) := by
    have := World.alloc_heap_new (w.alloc (.deferred (some []))) (.loop (rec .ready none))
    rwa [World.size_alloc] at this
  have hdef : ((w.alloc (.deferred (some []))).alloc (.loop (rec .ready none))).heap[w.heap.size]? = some (.deferred (some [])) := (Below.heap_alloc _ _ _ (by simp)).trans (World.alloc_heap_new w _)
  have hj1 : J 0 ((w.alloc (.deferred (some []))).alloc (.loop (rec .ready none))) := hJ.alloc _ (hJ.alloc _ h0)
  have henter := run_enterLoop_outer (P := P) (w := w) fn a.tmps ps assign body
  rw [show ({ state := .ready, pending := none, fn, tmps := a.tmps, params := ps, assign, body, defers := w.heap.size } : Loop) = rec .ready none by rw [hrec]] at henter
  generalize (w.alloc (.deferred (some []))).alloc (.loop (rec .ready none)) = w1 at *
  refine ⟨w.heap.size + 1, [{ target := .collected w.heap.size, args := #[] }], w1, { target := .fn (.func gf) lb, args := #[.func (.yield (w.heap.size + 1)) #[] #[]] }, w1, gf,
    #[.func (.yield (w.heap.size + 1)) #[] #[]] ++ lb, w1, henter, ?_, ?_, ?_, fun _ => h1, ?_⟩
  · simp only [resolve, hg]; simp [go_sem]
  · intro f' hf'; simp [Target.leads] at hf'; subst hf'; exact hFg
  · simp [invoke, go_sem, eg]
  let J2 : Nat → World → Prop := fun k W => J k W ∧ W.heap[w.heap.size + 1]? = some (.loop (rec .ready none)) ∧ W.heap[w.heap.size]? = some (.deferred (some []))
  let Jx2 : Nat → World → Prop := fun k W => Jx k W ∧ W.heap[w.heap.size + 1]? = some (.loop (rec .done (some .ret))) ∧ W.heap[w.heap.size]? = some (.deferred (some []))
  have hj2 : J2 0 w1 := ⟨hj1, hloop, hdef⟩
  refine (hseq (w.heap.size + 1) J2 Jx2 w1 hbel ?_ ?_ hj2).mono ?_
  · intro k A B h hg
    exact ⟨hJ k A B none h.1 hg (fun _ e => by cases e), (hg.block _ (Array.getElem?_eq_some_iff.1 h.2.1).1 (by simp)).trans h.2.1, (hg.block _ (Array.getElem?_eq_some_iff.1 h.2.2).1 (by simp)).trans h.2.2⟩
  · rintro k vs W ⟨hj, hl, hd⟩ hk hg0
    have hlt : w.heap.size + 1 < W.heap.size := (Array.getElem?_eq_some_iff.1 hl).1
    have hy := run_yield (P := P) (args := vs) hl (by rw [hrec]; exact hps k vs W hg0)
    rw [hrec] at hy
    refine ⟨fn, _, assign, body, hy, roundIn_of_wpIn hfn ?_⟩
    refine hassign (w.heap.size + 1) k vs W _ hg0 ?_
    refine ⟨_, run_beginRound hl (by rw [hrec]), ?_⟩
    have hb : ({ rec .ready none with state := .busy } : Loop) = rec .busy none := by rw [hrec]
    rw [hb]
    have hl2 : (W.putObj (w.heap.size + 1) (.loop (rec .busy none))).heap[w.heap.size + 1]? = some (.loop (rec .busy none)) := World.putObj_heap_same hlt
    have hd2 : (W.putObj (w.heap.size + 1) (.loop (rec .busy none))).heap[w.heap.size]? = some (.deferred (some [])) := (World.putObj_heap_other (by omega)).trans hd
    refine wpIn_mono (hbody _ k vs _ (hJ.putObj _ hj (by omega) hl rfl) hk ((hG k).putObj _ hg0 (by omega) hl rfl)) ?_
    rintro e a3 W3 ⟨hko, (⟨rfl, hbl, hj3⟩ | ⟨rfl, hbl, hx3⟩)⟩
    · have hl3 := hko.same _ _ hl2 rfl
      have he := run_endRound (P := P) none hl3
      have hb3 : ({ rec .busy none with state := (if (none : Option Code).isNone then .ready else .done), pending := none } : Loop) = rec .ready none := by rw [hrec]; rfl
      rw [hb3] at he
      exact ⟨_, _, he, .inl ⟨rfl, ⟨hJ.putObj _ hj3 (by omega) hl3 rfl, World.putObj_heap_same (Array.getElem?_eq_some_iff.1 hl3).1, (World.putObj_heap_other (by omega)).trans (hko.same _ _ hd2 rfl)⟩,
        hKt _ _ _ (hKt _ _ _ (hKb W _ _ _ (by omega) hl) hbl) (hKb W3 _ _ _ (by omega) hl3)⟩⟩
    · have hl3 := hko.same _ _ hl2 rfl
      have he := run_endRound (P := P) (some .ret) hl3
      have hb3 : ({ rec .busy none with state := (if (some Code.ret : Option Code).isNone then .ready else .done), pending := some .ret } : Loop) = rec .done (some .ret) := by rw [hrec]; rfl
      rw [hb3] at he
      exact ⟨_, _, he, .inr ⟨rfl, ⟨hJx.putObj _ hx3 (by omega) hl3 rfl, World.putObj_heap_same (Array.getElem?_eq_some_iff.1 hl3).1, (World.putObj_heap_other (by omega)).trans (hko.same _ _ hd2 rfl)⟩,
        hKt _ _ _ (hKt _ _ _ (hKb W _ _ _ (by omega) hl) hbl) (hKb W3 _ _ _ (by omega) hl3)⟩⟩
  · rintro e W2 ⟨⟨v, rfl⟩, (⟨hj, hl, hd⟩ | ⟨k, hk, hj, hl, hd⟩)⟩
    · have he := run_endLoop (P := P) hl (by rw [hrec]; simp)
      rw [show (rec .ready none).pending = none by rw [hrec]] at he
      refine ⟨none, _, he, ?_⟩
      exact hdone _ _ (Nat.le_refl _) (hJ.putObj _ hj (by omega) hl rfl) ((World.putObj_heap_other (by omega)).trans hd)
    · have he := run_endLoop (P := P) hl (by rw [hrec]; simp)
      rw [show (rec .done (some .ret)).pending = some .ret by rw [hrec]] at he
      refine ⟨some .ret, _, he, ?_⟩
      exact hstop _ k _ (Nat.le_refl _) hk (hJx.putObj _ hj (by omega) hl rfl) ((World.putObj_heap_other (by omega)).trans hd)
end Go.Proofs.YtkhlmcknbangfaaGreatDoor
namespace Go.Proofs.YtkhlmcknbangfaaGreatDoor
open Go.RowKit Go.Shelf
set_option linter.unusedVariables false
set_option linter.unusedSimpArgs false
set_option maxRecDepth 100000
section
variable {F : Fence} {n : Nat} {P : Program} {ops : Array Oper} {Q : Exit → Act → World → Prop} {md : Region.Mode} {S : World → Prop}
/-- it yields v in each world of S, and calls nobody -/
def Gives (P : Program) (ops : Array Oper) (S : World → Prop) (o : Oper) (v : Value) (a : Act) : Prop := YieldsIf P ops S o v a ∧ ∀ w, o.about P w a.eval = none
theorem Gives.wp {i : Nat} {o : Oper} {v : Value} {a : Act} (hro : F.round = none) (hi : ops[i]? = some o) (hy : Gives P ops S o v a) {K : Act → World → Prop} {w : World} (hS : S w) (h : K (a.put o.dst v) w) :
    wpOpIn F n P ops Q i K a w := by
  obtain ⟨hy, hn⟩ := hy
  have hab : ∀ f, o.about P w a.eval = some f → F.fn f := fun f hf => by rw [hn w] at hf; cases hf
  unfold wpOpIn
  simp only [hi]
  rcases hy with ⟨hw, hv⟩ | ⟨hw, rfl⟩
  · rw [if_pos hw]
    unfold Oper.wpIn
    rw [hro, Oper.semAt_none, hv w hS]
    exact ⟨hab, h⟩
  · rw [if_neg (by rw [hw]; exact Bool.false_ne_true)]
    exact ⟨hab, h⟩
theorem Gives.put {oi oj : Oper} {v : Value} {a : Act} (hy : Gives P ops S oi v a) (hs : ∀ cs b, oi.op ≠ .select cs b) (u : Value) (h : ∀ d, oj.dst = some d → d ∉ oi.looksAt ops) : Gives P ops S oi v (a.put oj.dst u) :=
  ⟨hy.1.of_same (execOp_put oi hs a oj.dst u h) (wanted_put oi a oj.dst u h), fun w => by rw [about_put oi w a oj.dst u h]; exact hy.2 w⟩
/-- another operation comes up: the value may be there already -/
theorem wpOpIn_over {j : Nat} {oi oj : Oper} {v : Value} (hro : F.round = none) (hj : ops[j]? = some oj) (hap : oi.apart ops oj = true) (hsi : ∀ cs b, oi.op ≠ .select cs b) (hsj : ∀ cs b, oj.op ≠ .select cs b)
    (hQ : ∀ c a w, Q (.panic c) (a.put oi.dst v) w → Q (.panic c) a w) {K : Act → World → Prop} {a : Act} {w : World} (hy : Gives P ops S oi v a) (h : wpOpIn F n P ops Q j K (a.put oi.dst v) w) :
    wpOpIn F n P ops Q j (fun a' w' => Gives P ops S oi v a' ∧ K (a'.put oi.dst v) w') a w := by
  obtain ⟨h1, h2, h3⟩ := Oper.apart_spec hap
  have turn : ∀ (b : Act) (u : Value) (W : World), Gives P ops S oi v b → K ((b.put oi.dst v).put oj.dst u) W → Gives P ops S oi v (b.put oj.dst u) ∧ K ((b.put oj.dst u).put oi.dst v) W := fun b u W hb hk =>
    ⟨hb.put hsi u h3, by rw [← Act.put_comm b v u h2]; exact hk⟩
  have hdef : ∀ d, Gives P ops S oi v { a with defers := d :: a.defers } := fun d => ⟨hy.1.of_same rfl rfl, hy.2⟩
  unfold wpOpIn at h ⊢
  simp only [hj] at h ⊢
  rw [wanted_put oj a oi.dst v h1, about_put oj w a oi.dst v h1] at h
  by_cases hw : Region.wanted oj (yielded ops a.tmps) = true
  · rw [if_pos hw] at h ⊢
    unfold Oper.wpIn at h ⊢
    rw [about_put oj w a oi.dst v h1, hro, Oper.semAt_none, execOp_put oj hsj a oi.dst v h1] at h
    rw [hro, Oper.semAt_none]
    refine ⟨h.1, ?_⟩
    have h := h.2
    cases hr : (execOp a.eval oj).run P w with
    | ok x w' =>
      rw [hr] at h
      cases x <;> simp only [Oper.uponIn] at h ⊢
      case value u => exact turn a u _ hy h
      case skip => exact turn a _ _ hy h
      case defer d =>
        refine turn _ _ _ (hdef d) ?_
        rw [← Act.put_defers]
        exact h
      case enter f args =>
        refine ⟨h.1, CallsIn.mono h.2 fun e w'' he => ?_⟩
        cases e with
        | returned u => exact turn a u _ hy he
        | panicked c => exact hQ _ _ _ he
        | outgrown => exact he
      case row row args => exact ⟨h.1, RowsIn.mono h.2 fun u w'' he => turn a u _ hy he⟩
      case round l f tmps assign body =>
        refine ⟨h.1, RoundIn.mono h.2 fun e w'' he => ?_⟩
        cases e with
        | returned u => exact turn a u _ hy he
        | panicked c => exact hQ _ _ _ he
        | outgrown => exact he
    | halt x w' =>
      rw [hr] at h
      cases x <;> simp only [Oper.uponIn] at h ⊢
      case panic u => exact hQ _ _ _ h
  · rw [if_neg hw] at h ⊢
    exact ⟨h.1, turn a _ _ hy h.2⟩
/-- whichever comes up, S holds behind it -/
def anyS (F : Fence) (n : Nat) (P : Program) (md : Region.Mode) (ops : Array Oper) (Q : Exit → Act → World → Prop) (S : World → Prop) : Nat → Array Bool → Act → World → Prop
  | 0, l, a, w => Region.ready md ops l = [] ∧ Q .normal a w
  | k + 1, l, a, w => (Region.ready md ops l = [] → Q .normal a w) ∧ ∀ i ∈ Region.ready md ops l, wpOpIn F n P ops Q i (fun a' w' => S w' ∧ anyS F n P md ops Q S k (l.setIfInBounds i true) a' w') a w
theorem anyS.wp : ∀ (k : Nat) (l : Array Bool) (a : Act) (w : World), anyS F n P md ops Q S k l a w → wpAnyIn F n P md ops Q k l a w
  | 0, _, _, _, h => h
  | k + 1, _, _, _, h => ⟨h.1, fun i hi => wpOpIn_mono (fun a' w' h' => anyS.wp k _ a' w' h'.2) (h.2 i hi)⟩
theorem anyS.first {i : Nat} {oi : Oper} {v : Value} (hro : F.round = none) (hi : ops[i]? = some oi) (hsel : ∀ (j : Nat) (o : Oper) cs b, ops[j]? = some o → o.op ≠ .select cs b) (hQ : ∀ c a w, Q (.panic c) (a.put oi.dst v) w → Q (.panic c) a w) :
    ∀ (k : Nat) (l : Array Bool) (a : Act) (w : World), (∀ j oj, ops[j]? = some oj → j ≠ i → l.getD j true = false → (∀ e ∈ oj.after, Region.binds md e = true → e.on ≠ i) → oi.apart ops oj = true) →
      i ∈ Region.ready md ops l → Gives P ops S oi v a → S w → anyS F n P md ops Q S k (l.setIfInBounds i true) (a.put oi.dst v) w → anyS F n P md ops Q S (k + 1) l a w
  | 0, l, a, w, hfree, hr, hy, hS, H => ⟨fun h => absurd hr (by rw [h]; exact List.not_mem_nil), fun j hj => by
      by_cases hji : j = i
      · subst hji; exact hy.wp hro hi hS ⟨hS, H⟩
      · have := ready_mono hj hji
        rw [H.1] at this
        cases this⟩
  | k + 1, l, a, w, hfree, hr, hy, hS, H => ⟨fun h => absurd hr (by rw [h]; exact List.not_mem_nil), fun j hj => by
      by_cases hji : j = i
      · subst hji; exact hy.wp hro hi hS ⟨hS, H⟩
      · obtain ⟨hjun, oj, hoj, hall⟩ := mem_ready.1 hj
        have hnot : ∀ e ∈ oj.after, Region.binds md e = true → e.on ≠ i := fun e he hb heq => by
          have h1 := hall e he hb
          have h0 := (mem_ready.1 hr).1
          rw [heq] at h1
          rcases Nat.lt_or_ge i l.size with h' | h'
          · simp [h'] at h0 h1; rw [h0] at h1; cases h1
          · simp [Array.getElem?_eq_none h'] at h1
        have h2 := wpOpIn_over hro hoj (hfree j oj hoj hji hjun hnot) (fun cs b => hsel i oi cs b hi) (fun cs b => hsel j oj cs b hoj) hQ hy (H.2 j (ready_mono hj hji))
        refine wpOpIn_mono (fun a' w' h3 => ⟨h3.2.1, anyS.first hro hi hsel hQ k (l.setIfInBounds j true) a' w' ?_ (ready_mono hr (Ne.symm hji)) h3.1 h3.2.1 ?_⟩) h2
        · intro q oq hq hqi hun hno
          refine hfree q oq hq hqi ?_ hno
          by_cases hjq : j = q
          · subst hjq; exact hjun
          · rw [getD_set_ne true hjq] at hun; exact hun
        · rw [Array.setIfInBounds_comm _ _ hji]
          exact h3.2.2⟩
theorem anyS.take {i : Nat} {oi : Oper} {v : Value} {k : Nat} {l : Array Bool} {a : Act} {w : World} (hro : F.round = none) (hi : ops[i]? = some oi) (hs : Region.noSelect ops = true) (hf : Region.free md ops l i = true) (hr : (Region.ready md ops l).contains i = true)
    (hQ : ∀ c a w, Q (.panic c) (a.put oi.dst v) w → Q (.panic c) a w) (hy : Gives P ops S oi v a) (hS : S w) (h : anyS F n P md ops Q S k (l.setIfInBounds i true) (a.put oi.dst v) w) : anyS F n P md ops Q S (k + 1) l a w :=
  anyS.first hro hi (Region.noSelect_spec hs) hQ k l a w (Region.free_spec hi hf) (by simpa using hr) hy hS h
/-- one alone may come up -/
theorem anyS.one {i k : Nat} {l : Array Bool} {a : Act} {w : World} (hr : Region.ready md ops l = [i]) (h : wpOpIn F n P ops Q i (fun a' w' => S w' ∧ anyS F n P md ops Q S k (l.setIfInBounds i true) a' w') a w) : anyS F n P md ops Q S (k + 1) l a w :=
  ⟨fun h0 => (by rw [h0] at hr; cases hr), fun j hj => by
    rw [hr] at hj
    simp only [List.mem_cons, List.not_mem_nil, or_false] at hj
    subst hj
    exact h⟩
theorem anyS.done {k : Nat} {l : Array Bool} {a : Act} {w : World} (hr : Region.ready md ops l = []) (h : Q .normal a w) : anyS F n P md ops Q S k l a w := by
  cases k with
  | zero => exact ⟨hr, h⟩
  | succ k => exact ⟨fun _ => h, by rw [hr]; simp⟩
end
end Go.Proofs.YtkhlmcknbangfaaGreatDoor
namespace Go.Proofs.YtkhlmcknbangfaaGreatDoor
open Go.RowKit Go.Shelf
set_option linter.unusedVariables false
set_option linter.unusedSimpArgs false
set_option maxRecDepth 100000
/-- the cells of some blocks are as they were -/
def Kc (ok : Nat → Prop) (A B : World) : Prop := A.heap.size ≤ B.heap.size ∧ ∀ p : Addr, p.block < A.heap.size → ok p.block → B.cell? p = A.cell? p
theorem Kc.refl (ok : Nat → Prop) (A : World) : Kc ok A A := ⟨Nat.le_refl _, fun _ _ _ => rfl⟩
theorem Kc.trans {ok : Nat → Prop} {A B C : World} (h : Kc ok A B) (k : Kc ok B C) : Kc ok A C := ⟨Nat.le_trans h.1 k.1, fun p hp ho => (k.2 p (Nat.lt_of_lt_of_le hp h.1) ho).trans (h.2 p hp ho)⟩
theorem Kc.of_below {ok : Nat → Prop} {A B : World} (h : Below A.heap.size A B) : Kc ok A B := ⟨h.size, fun p hp _ => h.cell hp⟩
theorem Kc.put {ok : Nat → Prop} {A : World} {l : Nat} {r r' : Loop} (h : A.heap[l]? = some (.loop r)) : Kc ok A (A.putObj l (.loop r')) := by
  have hl : l < A.heap.size := (Array.getElem?_eq_some_iff.1 h).1
  refine ⟨by simp, fun p hp _ => ?_⟩
  by_cases e : p.block = l
  · have h1 := h
    have h2 : (A.putObj l (.loop r')).heap[l]? = some (.loop r') := World.putObj_heap_same hl
    rw [← e] at h1 h2
    simp [World.cell?, h1]
    rw [← e]
    simp [h2]
  · exact World.cell?_of_block (World.putObj_heap_other e)
/-- what the k-th round is handed -/
def Gc (bs : List Nat) (sz d s : Nat) (k : Nat) (vs : Array Value) (W : World) : Prop :=
  ∃ A n c xs, vs = #[.int .i64 (((k + 1) * sz : Nat) : Int), .slice A n c] ∧ Nt W W.heap.size A n c xs ∧ Trm xs ∧ val 18446744073709551616 xs = candV (nb ((bs.drop (k * sz)).take sz)) d s
theorem Nb.cut_ {w : World} {B n c : Nat} {A : Option Addr} {xs : List Nat} (h : Nb w B A n c xs) {b off : Nat} (hA : A = some ⟨b, off, none⟩) (i m : Nat) (hi : i + m ≤ n) (hm : 0 < m) (hb : b < B) (hc : ∀ j x : Nat, xs[j]? = some x → w.cell? ⟨b, off + j, none⟩ = some (.int .u8 (x : Int))) :
    Nb w B (some ⟨b, off + i, none⟩) m (c - i) ((xs.drop i).take m) := by
  have hl := h.len
  have hcp := h.cap
  refine ⟨by rw [List.length_take, List.length_drop]; omega, by omega, Nat.le_trans (Nat.sub_le _ _) h.room, fun x hx => h.lim x (List.mem_of_mem_drop (List.mem_of_mem_take hx)), fun _ => ⟨b, off + i, rfl, hb, fun j x hx => ?_⟩⟩
  rw [Nat.add_assoc]
  refine hc (i + j) x ?_
  rw [List.getElem?_take] at hx
  split at hx
  · rw [List.getElem?_drop] at hx; exact hx
  · cases hx
theorem grown_none {w w' : World} (h : RowKit.Below w.heap.size w w') : w.grownBy w' none := ⟨h.os, h.tape, h.output, h.size, fun k hk _ => h.block k hk⟩
set_option maxHeartbeats 4000000 in
theorem cands_in (l B1 B2 B3 B4 : Nat) {n c sz d s q : Nat} {A : Option Addr} {bs : List Nat} (hn : n ≤ 1099511627776) (hsz : 0 < sz) (hs1 : sz ≤ 1000) (hq : q ≤ 7) (hd : d + q = 8 * sz) (hd0 : 0 < d) (hsd : s ≤ d) (ok : Nat → Prop) (h1 : ok B1) (h2 : ok B2) (h3 : ok B3) (h4 : ok B4)
    (T : Nat) (hT : T = n / sz) (J Jx : Nat → World → Prop)
    (hY : ∀ k vs W, J k W → k < T → Gc bs sz d s k vs W → YieldAt Fence.wide 7 Tryz.prog l vs W fun e W' => (e = .returned (.bool true) ∧ J (k + 1) W' ∧ Kc ok W W') ∨ (e = .returned (.bool false) ∧ Jx k W' ∧ Kc ok W W'))
    (hJ : ∀ k A B, J k A → A.grownBy B none → J k B)
    (w : World) (c1 : w.cell? ⟨B1, 0, none⟩ = some (.slice A n c)) (c2 : w.cell? ⟨B2, 0, none⟩ = some (.int .i64 (sz : Int))) (c3 : w.cell? ⟨B3, 0, none⟩ = some (.int .i64 (d : Int))) (c4 : w.cell? ⟨B4, 0, none⟩ = some (.int .i64 (s : Int)))
    (hb : Nb w w.heap.size A n c bs) (hA : 0 < n → ∃ b off, A = some ⟨b, off, none⟩ ∧ ok b) (h0 : J 0 w) :
    CallsIn Fence.wide 8 Tryz.prog 107 #[.func (.yield l) #[] #[], .pointer (some ⟨B1, 0, none⟩), .pointer (some ⟨B2, 0, none⟩), .pointer (some ⟨B3, 0, none⟩), .pointer (some ⟨B4, 0, none⟩)] w fun e W' => (∃ v, e = .returned v) ∧ (J T W' ∨ ∃ k, k < T ∧ Jx k W') := by
  have HY := Lib.hid hY
  have HJ := Lib.hid hJ
  have HNb := Lib.hid hb
  have HA := Lib.hid hA
  have H0 := Lib.hid h0
  have HT := Lib.hid hT
  have Hq := Lib.hid (And.intro hq hd)
  have HC := Lib.hid (fun (wr : World) (hk : Kc ok w wr) => (show wr.cell? ⟨B1, 0, none⟩ = some (.slice A n c) ∧ wr.cell? ⟨B2, 0, none⟩ = some (.int .i64 (sz : Int)) ∧ wr.cell? ⟨B3, 0, none⟩ = some (.int .i64 (d : Int)) ∧ wr.cell? ⟨B4, 0, none⟩ = some (.int .i64 (s : Int)) from
    ⟨(hk.2 ⟨B1, 0, none⟩ (World.block_lt_of_cell? w _ c1) h1).trans c1, (hk.2 ⟨B2, 0, none⟩ (World.block_lt_of_cell? w _ c2) h2).trans c2, (hk.2 ⟨B3, 0, none⟩ (World.block_lt_of_cell? w _ c3) h3).trans c3, (hk.2 ⟨B4, 0, none⟩ (World.block_lt_of_cell? w _ c4) h4).trans c4⟩))
  clear hY hJ hb hA h0 hT c1 c2 c3 c4 hq hd
  refine callsIn_of_wp Tryz.func107 rfl trivial ?_ rfl
  simp only [Tryz.ntmps107, List.size_toArray, List.length_cons, List.length_nil, Nat.reduceAdd, Nat.reduceSub, Array.replicate_succ, Array.replicate_zero, List.push_toArray, List.append_toArray, List.nil_append, List.cons_append]
  gi_wp2_with fail
  gi_loopw [6] (fun i wr => ∃ k : Nat, k ≤ T ∧ i = .int .i64 ((k * sz : Nat) : Int) ∧ J k wr ∧ Kc ok w wr) (fun i _ => n - (intOf i).toNat)
  case atStart => exact ⟨0, Nat.zero_le _, by simp, H0.out, Kc.refl _ _⟩
  case round =>
    obtain ⟨k, hkT, rfl, hJk, hkc⟩ := hrel
    obtain ⟨c1, c2, c3, c4⟩ := HC.out _ hkc
    have HJk := Lib.hid hJk
    have HK := Lib.hid hkc
    clear hJk hkc
    by_cases hk : k < T
    · have f1 : k * sz + sz ≤ n := by
        have := HT.out
        have h5 : (k + 1) * sz ≤ n := by
          have h6 : k + 1 ≤ n / sz := by omega
          exact Nat.le_trans (Nat.mul_le_mul_right sz h6) (Nat.div_mul_le_self n sz)
        rw [Nat.add_mul, Nat.one_mul] at h5
        exact h5
      have Hkk := Lib.hid hk
      obtain ⟨at_, hat⟩ : ∃ at_, at_ = k * sz := ⟨_, rfl⟩
      rw [← hat] at f1 ⊢
      have Hat := Lib.hid hat
      clear hk hat
      have hn0 : 0 < n := by omega
      obtain ⟨b, off, rfl, hok⟩ := HA.out hn0
      have Hok := Lib.hid hok
      obtain ⟨b', off', he, hbB, hcl⟩ := HNb.out.cell hn0
      cases he
      have Hcl := Lib.hid hcl
      have hcc := HNb.out.cap
      have hcr := HNb.out.rooms
      have HbB := Lib.hid hbB
      clear hok hcl hbB
      gi_upto_region 3 with fail
      refine wpIn_region_any (by kernel_rfl) (anyS.wp (S := fun W => W.cell? ⟨B1, 0, none⟩ = some (.slice (some ⟨b, off, none⟩) n c) ∧ W.cell? ⟨B2, 0, none⟩ = some (.int .i64 (sz : Int)) ∧ W.cell? ⟨B3, 0, none⟩ = some (.int .i64 (d : Int)) ∧ W.cell? ⟨B4, 0, none⟩ = some (.int .i64 (s : Int))) _ _ _ _ ?_)
      have hS0 := And.intro (show (wr.drew).cell? ⟨B1, 0, none⟩ = _ from c1) (And.intro (show (wr.drew).cell? ⟨B2, 0, none⟩ = _ from c2) (And.intro (show (wr.drew).cell? ⟨B3, 0, none⟩ = _ from c3) (show (wr.drew).cell? ⟨B4, 0, none⟩ = _ from c4)))
      change anyS _ _ _ _ _ _ _ 15 #[false, false, false, false, false, false, false, false, false, false, false, false, false, false, false] _ wr.drew
      refine anyS.take (i := 0) (v := .func (.yield l) #[] #[]) rfl rfl (by kernel_rfl) (by kernel_rfl) (by kernel_rfl) (fun _ _ _ h => h) ⟨Or.inl ⟨by rfl, fun W hS => ?_⟩, fun W => rfl⟩ hS0 ?_
      · obtain ⟨s1, s2, s3, s4⟩ := hS
        go_simp
      simp only [Act.put, List.setIfInBounds_toArray, List.set_cons_succ, List.set_cons_zero]
      refine anyS.take (i := 1) (v := .int .i64 (at_ : Int)) rfl rfl (by kernel_rfl) (by kernel_rfl) (by kernel_rfl) (fun _ _ _ h => h) ⟨Or.inl ⟨by rfl, fun W hS => ?_⟩, fun W => rfl⟩ hS0 ?_
      · obtain ⟨s1, s2, s3, s4⟩ := hS
        go_simp
      simp only [Act.put, List.setIfInBounds_toArray, List.set_cons_succ, List.set_cons_zero]
      refine anyS.take (i := 2) (v := .int .i64 (sz : Int)) rfl rfl (by kernel_rfl) (by kernel_rfl) (by kernel_rfl) (fun _ _ _ h => h) ⟨Or.inl ⟨by rfl, fun W hS => ?_⟩, fun W => rfl⟩ hS0 ?_
      · obtain ⟨s1, s2, s3, s4⟩ := hS
        go_simp
      simp only [Act.put, List.setIfInBounds_toArray, List.set_cons_succ, List.set_cons_zero]
      refine anyS.take (i := 3) (v := .int .i64 ((at_ + sz : Nat) : Int)) rfl rfl (by kernel_rfl) (by kernel_rfl) (by kernel_rfl) (fun _ _ _ h => h) ⟨Or.inl ⟨by rfl, fun W hS => ?_⟩, fun W => rfl⟩ hS0 ?_
      · obtain ⟨s1, s2, s3, s4⟩ := hS
        go_simp
        rw [IntKind.wrap_i64]; omega
      simp only [Act.put, List.setIfInBounds_toArray, List.set_cons_succ, List.set_cons_zero]
      refine anyS.take (i := 4) (v := .slice (some ⟨b, off, none⟩) n c) rfl rfl (by kernel_rfl) (by kernel_rfl) (by kernel_rfl) (fun _ _ _ h => h) ⟨Or.inl ⟨by rfl, fun W hS => ?_⟩, fun W => rfl⟩ hS0 ?_
      · obtain ⟨s1, s2, s3, s4⟩ := hS
        go_simp
      simp only [Act.put, List.setIfInBounds_toArray, List.set_cons_succ, List.set_cons_zero]
      refine anyS.take (i := 5) (v := .int .i64 (at_ : Int)) rfl rfl (by kernel_rfl) (by kernel_rfl) (by kernel_rfl) (fun _ _ _ h => h) ⟨Or.inl ⟨by rfl, fun W hS => ?_⟩, fun W => rfl⟩ hS0 ?_
      · obtain ⟨s1, s2, s3, s4⟩ := hS
        go_simp
      simp only [Act.put, List.setIfInBounds_toArray, List.set_cons_succ, List.set_cons_zero]
      refine anyS.take (i := 6) (v := .int .i64 (at_ : Int)) rfl rfl (by kernel_rfl) (by kernel_rfl) (by kernel_rfl) (fun _ _ _ h => h) ⟨Or.inl ⟨by rfl, fun W hS => ?_⟩, fun W => rfl⟩ hS0 ?_
      · obtain ⟨s1, s2, s3, s4⟩ := hS
        go_simp
      simp only [Act.put, List.setIfInBounds_toArray, List.set_cons_succ, List.set_cons_zero]
      refine anyS.take (i := 7) (v := .int .i64 (sz : Int)) rfl rfl (by kernel_rfl) (by kernel_rfl) (by kernel_rfl) (fun _ _ _ h => h) ⟨Or.inl ⟨by rfl, fun W hS => ?_⟩, fun W => rfl⟩ hS0 ?_
      · obtain ⟨s1, s2, s3, s4⟩ := hS
        go_simp
      simp only [Act.put, List.setIfInBounds_toArray, List.set_cons_succ, List.set_cons_zero]
      refine anyS.take (i := 8) (v := .int .i64 ((at_ + sz : Nat) : Int)) rfl rfl (by kernel_rfl) (by kernel_rfl) (by kernel_rfl) (fun _ _ _ h => h) ⟨Or.inl ⟨by rfl, fun W hS => ?_⟩, fun W => rfl⟩ hS0 ?_
      · obtain ⟨s1, s2, s3, s4⟩ := hS
        go_simp
        rw [IntKind.wrap_i64]; omega
      simp only [Act.put, List.setIfInBounds_toArray, List.set_cons_succ, List.set_cons_zero]
      refine anyS.take (i := 9) (v := .slice (some ⟨b, off + at_, none⟩) sz (c - at_)) rfl rfl (by kernel_rfl) (by kernel_rfl) (by kernel_rfl) (fun _ _ _ h => h) ⟨Or.inl ⟨by rfl, fun W hS => ?_⟩, fun W => rfl⟩ hS0 ?_
      · obtain ⟨s1, s2, s3, s4⟩ := hS
        go_simp
        rw [if_pos ⟨by omega, by omega⟩, if_pos (by omega), if_neg (by omega), show ((at_ : Int) + (sz : Int)).toNat - at_ = sz by omega]
      simp only [Act.put, List.setIfInBounds_toArray, List.set_cons_succ, List.set_cons_zero]
      refine anyS.take (i := 10) (v := .int .i64 (d : Int)) rfl rfl (by kernel_rfl) (by kernel_rfl) (by kernel_rfl) (fun _ _ _ h => h) ⟨Or.inl ⟨by rfl, fun W hS => ?_⟩, fun W => rfl⟩ hS0 ?_
      · obtain ⟨s1, s2, s3, s4⟩ := hS
        go_simp
      simp only [Act.put, List.setIfInBounds_toArray, List.set_cons_succ, List.set_cons_zero]
      refine anyS.take (i := 11) (v := .int .i64 (s : Int)) rfl rfl (by kernel_rfl) (by kernel_rfl) (by kernel_rfl) (fun _ _ _ h => h) ⟨Or.inl ⟨by rfl, fun W hS => ?_⟩, fun W => rfl⟩ hS0 ?_
      · obtain ⟨s1, s2, s3, s4⟩ := hS
        go_simp
      simp only [Act.put, List.setIfInBounds_toArray, List.set_cons_succ, List.set_cons_zero]
      refine anyS.one (i := 12) (by kernel_rfl) (wpOpIn_step rfl ?_)
      intro K2 hK2
      rw [if_pos (by rfl)]
      gi_wp2_with fail
      have hnb : Nb wr.drew wr.drew.heap.size (some ⟨b, off, none⟩) n c bs :=
        ⟨HNb.out.len, HNb.out.cap, HNb.out.room, HNb.out.lim, fun _ => ⟨b, off, rfl, Nat.lt_of_lt_of_le HbB.out HK.out.1, fun j x hx => (HK.out.2 ⟨b, off + j, none⟩ HbB.out Hok.out).trans (Hcl.out j x hx)⟩⟩
      have hsub := hnb.cut_ rfl at_ sz f1 hsz (Nat.lt_of_lt_of_le HbB.out HK.out.1) (fun j x hx => (HK.out.2 ⟨b, off + j, none⟩ HbB.out Hok.out).trans (Hcl.out j x hx))
      refine ⟨trivial, (callsIn_wide.2 (candidate_any hsub hs1 Hq.out.1 Hq.out.2 hd0 hsd)).mono ?_⟩
      rintro e w3 ⟨A3, n3, c3', xs3, rfl, r3⟩
      have hb3 : Below wr.heap.size wr w3 := bthen (Below.refl _ wr).drew r3.bel
      have k3 : Kc ok w w3 := HK.out.trans (Kc.of_below hb3)
      have hS3 := HC.out _ k3
      refine hK2 _ _ ⟨hS3, ?_⟩
      have HYk := Lib.hid (show YieldAt Fence.wide 7 Tryz.prog l #[.int .i64 ((at_ : Int) + (sz : Int)), .slice A3 n3 c3'] w3 _ from HY.out k _ w3 (HJ.out k _ _ HJk.out (grown_none hb3)) Hkk.out
        ⟨A3, n3, c3', xs3, by rw [show (((k + 1) * sz : Nat) : Int) = (at_ : Int) + (sz : Int) by rw [Hat.out, Nat.add_mul, Nat.one_mul]; simp], r3.nt, r3.trm, by rw [r3.is, Hat.out]⟩)
      have K3 := Lib.hid k3
      clear hnb hsub r3 hb3 k3 hS3 c1 c2 c3 c4 hS0
      refine anyS.one (i := 13) (by kernel_rfl) (wpOpIn_step rfl ?_)
      intro K4 hK4
      rw [if_pos (by rfl)]
      obtain ⟨fn, tmps, assign, body, hy', hR⟩ := HYk.out
      gi_wp2_with fail
      refine hR.mono ?_
      rintro e w4 (⟨rfl, hJ4, hk4⟩ | ⟨rfl, hX4, hk4⟩)
      · have hS4 := HC.out _ (K3.out.trans hk4)
        refine hK4 _ _ ⟨hS4, ?_⟩
        refine anyS.take (i := 14) (v := .bool false) rfl rfl (by kernel_rfl) (by kernel_rfl) (by kernel_rfl) (fun _ _ _ h => h) ⟨Or.inl ⟨by rfl, fun W hS => ?_⟩, fun W => rfl⟩ hS4 ?_
        · go_simp
        simp only [Act.put, List.setIfInBounds_toArray, List.set_cons_succ, List.set_cons_zero]
        refine anyS.done (by kernel_rfl) ?_
        have Hk4 := Lib.hid (K3.out.trans hk4)
        obtain ⟨c1, c2, c3, c4⟩ := hS4
        clear hk4 hK4 hK2
        have HJ4 := Lib.hid hJ4
        clear hJ4
        gi_wp2_with fail
        go_roundw
        case rel => exact ⟨k + 1, Hkk.out, by rw [Nat.add_mul, Nat.one_mul, ← Hat.out]; simp, HJ4.out, Hk4.out⟩
        case measure => simp [intOf]; omega
      · have hS4 := HC.out _ (K3.out.trans hk4)
        refine hK4 _ _ ⟨hS4, ?_⟩
        refine anyS.take (i := 14) (v := .bool true) rfl rfl (by kernel_rfl) (by kernel_rfl) (by kernel_rfl) (fun _ _ _ h => h) ⟨Or.inl ⟨by rfl, fun W hS => ?_⟩, fun W => rfl⟩ hS4 ?_
        · go_simp
        simp only [Act.put, List.setIfInBounds_toArray, List.set_cons_succ, List.set_cons_zero]
        refine anyS.done (by kernel_rfl) ?_
        have Hk4 := Lib.hid (K3.out.trans hk4)
        obtain ⟨c1, c2, c3, c4⟩ := hS4
        clear hk4 hK4 hK2
        have HX4 := Lib.hid hX4
        clear hX4
        gi_wp2_with fail
        refine bodyPost_ret (results_none rfl _ _ _) rfl ?_
        exact ⟨⟨_, rfl⟩, .inr ⟨k, Hkk.out, HX4.out⟩⟩
    · have hkT2 : k = T := by omega
      have f2 : n - k * sz < sz := by
        have := HT.out
        rw [hkT2, this]
        have h5 := Nat.div_add_mod n sz
        have h6 := Nat.mod_lt n hsz
        rw [Nat.mul_comm] at h5
        omega
      have f3 : k * sz ≤ n := by
        have := HT.out
        rw [hkT2, this]
        exact Nat.div_mul_le_self n sz
      have HJT := Lib.hid (hkT2 ▸ HJk.out)
      clear hkT2
      generalize k * sz = at_ at *
      gi_wp2_with fail
      go_end0
      exact ⟨⟨_, rfl⟩, .inl HJT.out⟩

end Go.Proofs.YtkhlmcknbangfaaGreatDoor
namespace Go.Proofs.YtkhlmcknbangfaaGreatDoor
open Go.RowKit Go.Shelf
set_option linter.unusedVariables false
set_option linter.unusedSimpArgs false
set_option maxRecDepth 100000
/-- the variables that the iterator holds -/
structure Cd (w w' : World) (A : Option Addr) (n c d s : Nat) : Prop where
  bel : Below w.heap.size w w'
  size : w'.heap.size = w.heap.size + 4
  c1 : w'.cell? ⟨w.heap.size, 0, none⟩ = some (.slice A n c)
  c2 : w'.cell? ⟨w.heap.size + 3, 0, none⟩ = some (.int .i64 (((d + 7) / 8 : Nat) : Int))
  c3 : w'.cell? ⟨w.heap.size + 1, 0, none⟩ = some (.int .i64 (d : Int))
  c4 : w'.cell? ⟨w.heap.size + 2, 0, none⟩ = some (.int .i64 (s : Int))
set_option maxHeartbeats 4000000 in
theorem candidates_any (A : Option Addr) (n c d s : Nat) (hd : d ≤ 100000) (w : World) : Calls Tryz.prog 43 #[.slice A n c, .int .i64 (d : Int), .int .i64 (s : Int)] w fun e w' =>
    e = .returned (.func (.func 107) #[] #[.pointer (some ⟨w.heap.size, 0, none⟩), .pointer (some ⟨w.heap.size + 3, 0, none⟩), .pointer (some ⟨w.heap.size + 1, 0, none⟩), .pointer (some ⟨w.heap.size + 2, 0, none⟩)]) ∧ Cd w w' A n c d s := by
  have hmf : ∀ (fn : Fn) (first cap : Array Value) (w : World), (Instr.makeFunc fn first cap).run Tryz.prog w = .ok (.func fn first cap) w := fun _ _ _ _ => rfl
  go_enter Tryz.func43, Tryz.ntmps43
  go_wp2_with fail
  go_ret
  rw [show ((d : Int) + 8 - 1) / 8 = (((d + 7) / 8 : Nat) : Int) by omega]
  refine ⟨rfl, ?_⟩
  generalize hz : (d + 7) / 8 = z
  have b1 := (Below.refl w.heap.size w).alloc (Nat.le_refl _) (.cells #[Value.slice A n c] 32)
  have x1 := cell_new w (.slice A n c) 32
  have s1 : (w.alloc (.cells #[Value.slice A n c] 32)).heap.size = w.heap.size + 1 := by simp
  generalize w.alloc (.cells #[Value.slice A n c] 32) = u1 at *
  have b2 := (Below.refl u1.heap.size u1).alloc (Nat.le_refl _) (.cells #[Value.int .i64 (d : Int)] 3)
  have x2 := cell_new u1 (.int .i64 (d : Int)) 3
  have s2 : (u1.alloc (.cells #[Value.int .i64 (d : Int)] 3)).heap.size = w.heap.size + 2 := by simp [s1]
  generalize u1.alloc (.cells #[Value.int .i64 (d : Int)] 3) = u2 at *
  have b3 := (Below.refl u2.heap.size u2).alloc (Nat.le_refl _) (.cells #[Value.int .i64 (s : Int)] 3)
  have x3 := cell_new u2 (.int .i64 (s : Int)) 3
  have s3 : (u2.alloc (.cells #[Value.int .i64 (s : Int)] 3)).heap.size = w.heap.size + 3 := by simp [s2]
  generalize u2.alloc (.cells #[Value.int .i64 (s : Int)] 3) = u3 at *
  have b4 := (Below.refl u3.heap.size u3).alloc (Nat.le_refl _) (.cells #[Value.int .i64 (z : Int)] 3)
  have x4 := cell_new u3 (.int .i64 (z : Int)) 3
  have s4 : (u3.alloc (.cells #[Value.int .i64 (z : Int)] 3)).heap.size = w.heap.size + 4 := by simp [s3]
  generalize u3.alloc (.cells #[Value.int .i64 (z : Int)] 3) = u4 at *
  rw [s1] at x2 b2
  rw [s2] at x3 b3
  rw [s3] at x4 b4
  have k3 := b3.trans (b4.mono (by omega))
  have k2 := b2.trans (k3.mono (by omega))
  exact ⟨b1.trans (k2.mono (by omega)), s4, (k2.cell (p := ⟨w.heap.size, 0, none⟩) (by dsimp only; omega)).trans x1, by rw [hz]; exact x4, (k3.cell (p := ⟨w.heap.size + 1, 0, none⟩) (by dsimp only; omega)).trans x2, (b4.cell (p := ⟨w.heap.size + 2, 0, none⟩) (by dsimp only; omega)).trans x3⟩
set_option maxHeartbeats 4000000 in
theorem suits_any {w : World} {A : Option Addr} {n c q e : Nat} {xs : List Nat} (h : Nt w w.heap.size A n c xs) (hq : val 18446744073709551616 xs = q) (hn : n ≤ 100) (h1 : 1 ≤ q) (he : e < 18446744073709551616) :
    Calls Tryz.prog 44 #[.slice A n c, .int .u64 (e : Int)] w fun r w' => r = .returned (.bool (decide (Nat.gcd e (q - 1) = 1) && primeN q b12)) ∧ Below w.heap.size w w' := by
  have Hp := Lib.hid (fun W (b : Below w.heap.size w W) => passes_any (h.up b) hq (by omega))
  go_enter Tryz.func44, Tryz.ntmps44
  go_wp2_with fail
  refine (of_any e _ rfl he _).mono ?_
  rintro r w1 ⟨A1, n1, c1, x1, rfl, r1⟩
  have v1 := r1.is
  have l1 : n1 ≤ 1 := r1.le (by omega)
  go_wp2_with fail
  refine (klessOne_any (h.up r1.bel) hq (by omega) h1).mono ?_
  rintro r w2 ⟨A2, n2, c2, x2, rfl, r2⟩
  have v2 := r2.is
  have l2 : n2 ≤ n := r2.le (Nat.lt_of_le_of_lt (Nat.sub_le _ _) (hq ▸ h.below_pow (Nat.le_refl n)))
  go_wp2_with fail
  refine (mgcd_any (r1.nt.up r2.bel) r2.nt (by omega) (by omega)).mono ?_
  rintro r w3 ⟨A3, n3, c3, x3, rfl, r3⟩
  rw [v1, v2] at r3
  have v3 := r3.is
  have l3 : n3 ≤ n + 1 := r3.le (by
    have h5 : Nat.gcd e (q - 1) < 18446744073709551616 ∨ Nat.gcd e (q - 1) ≤ q - 1 := by
      rcases Nat.eq_zero_or_pos (q - 1) with h0 | h0
      · left; rw [h0, Nat.gcd_zero_right]; exact he
      · right; exact Nat.gcd_le_right _ h0
    have h6 := hq ▸ h.below_pow (Nat.le_succ n)
    rcases h5 with h5 | h5
    · exact Nat.lt_of_lt_of_le h5 (Nat.le_self_pow (by omega) _)
    · omega)
  have B3 := bthen (bthen r1.bel r2.bel) r3.bel
  go_wp2_with fail
  refine (of_any 1 _ rfl (by omega) _).mono ?_
  rintro r w4 ⟨A4, n4, c4, x4, rfl, r4⟩
  have v4 := r4.is
  have l4 : n4 ≤ 1 := r4.le (by omega)
  have B4 := bthen B3 r4.bel
  have m3 := r3.nt.up r4.bel
  have HB4 := Lib.hid B4
  go_wp2_with fail
  have HP := Lib.hid fun (W : World) (b : Below w4.heap.size w4 W) => Hp.out W (bthen B4 b)
  rcases Nat.lt_trichotomy (Nat.gcd e (q - 1)) 1 with hg | hg | hg
  · refine (cmp_lt m3 r4.nt (by rw [v3, v4]; exact hg)).mono ?_
    rintro r w5 ⟨rfl, d5, rfl⟩
    go_wp2_with fail
    go_ret
    exact ⟨by rw [decide_eq_false (Nat.ne_of_lt hg), Bool.false_and]; rfl, bdr HB4.out d5⟩
  · refine (cmp_eq m3 r4.nt (by rw [v3, v4]; exact hg)).mono ?_
    rintro r w5 ⟨rfl, d5, rfl⟩
    have HP5 := Lib.hid (HP.out _ (bdr (Below.refl _ _) d5))
    go_wp2_with fail
    refine HP5.out.mono ?_
    rintro r w6 ⟨rfl, b6⟩
    have B6 := bthen (bdr HB4.out d5) b6
    go_wp2_with fail
    go_ret
    exact ⟨by rw [decide_eq_true hg, Bool.true_and]; rfl, B6⟩
  · refine (cmp_gt m3 r4.nt (by rw [v3, v4]; exact hg)).mono ?_
    rintro r w5 ⟨rfl, d5, rfl⟩
    go_wp2_with fail
    go_ret
    exact ⟨by rw [decide_eq_false (Nat.ne_of_gt hg), Bool.false_and]; rfl, bdr HB4.out d5⟩
end Go.Proofs.YtkhlmcknbangfaaGreatDoor
namespace Go.Proofs.YtkhlmcknbangfaaGreatDoor
open Go.RowKit Go.Shelf
set_option linter.unusedVariables false
set_option linter.unusedSimpArgs false
set_option maxRecDepth 100000
attribute [local go_sem] Oper.semAt_some
/-- the candidates of some draws -/
def cN (bs : List Nat) (sz d k : Nat) : Nat := candV (nb ((bs.drop (k * sz)).take sz)) d 2
def goodN (e q : Nat) : Bool := decide (Nat.gcd e (q - 1) = 1) && primeN q b12
/-- the k-th is passed by -/
def skips (e p q : Nat) : Bool := !goodN e q || decide (p = q)
/-- the first prime, after k candidates -/
def fstN (C : Nat → Nat) (e : Nat) : Nat → Nat
  | 0 => 0
  | k + 1 => if skips e (fstN C e k) (C k) then fstN C e k else if fstN C e k = 0 then C k else fstN C e k
/-- with the k-th a key is made -/
def ends (C : Nat → Nat) (e k : Nat) : Bool := !skips e (fstN C e k) (C k) && !decide (fstN C e k = 0)
/-- what grows elsewhere, or turns what is no cells -/
theorem Nt.own {W W' : World} {A : Option Addr} {n c : Nat} {xs : List Nat} {row : Option Nat} (h : Nt W W.heap.size A n c xs) (hg : W.grownBy W' row) (hr : ∀ r, row = some r → ∃ o : Obj, W.heap[r]? = some o ∧ o.isCells = false) : Nt W' W'.heap.size A n c xs := by
  refine ⟨h.len, h.cap, h.room, h.lim, fun h0 => ?_⟩
  obtain ⟨b, off, hA, hb, hc⟩ := h.cell h0
  refine ⟨b, off, hA, Nat.lt_of_lt_of_le hb hg.size, fun j x hx => ?_⟩
  have h1 := hc j x hx
  refine (World.cell?_of_block (a := ⟨b, off + j, none⟩) (hg.block b hb ?_)).trans h1
  intro e
  obtain ⟨o, ho, hn⟩ := hr b e.symm
  unfold World.cell? at h1
  rw [show (⟨b, off + j, none⟩ : Addr).block = b from rfl, ho] at h1
  cases o <;> simp_all [Obj.isCells]
/-- Draw's variables; p: the first prime, or 0 -/
structure Vs (w W : World) (e p : Nat) : Prop where
  v1 : W.heap[w.heap.size]? = some (.cells #[.int .u64 (e : Int)] 23 (0, 0))
  v2 : W.heap[w.heap.size + 1]? = some (.cells #[Value.slice none 0 0, .slice none 0 0, .slice none 0 0] 26 (0, 0))
  v3 : W.heap[w.heap.size + 2]? = some (.cells #[.int .i64 0] 3 (0, 0))
  v4 : W.heap[w.heap.size + 3]? = some (.cells #[.int .i64 0] 27 (0, 0))
  v5 : ∃ A n c xs, W.heap[w.heap.size + 4]? = some (.cells #[.slice A n c] 22 (0, 0)) ∧ Nt W W.heap.size A n c xs ∧ Trm xs ∧ val 18446744073709551616 xs = p
  size : w.heap.size + 5 ≤ W.heap.size
  bel : Below w.heap.size w W
theorem Vs.up {w W W' : World} {e p : Nat} (h : Vs w W e p) (b : Below W.heap.size W W') : Vs w W' e p := by
  have hs := h.size
  obtain ⟨A, n, c, xs, h1, h2, h3, h4⟩ := h.v5
  exact ⟨(b.block _ (by omega)).trans h.v1, (b.block _ (by omega)).trans h.v2, (b.block _ (by omega)).trans h.v3, (b.block _ (by omega)).trans h.v4, ⟨A, n, c, xs, (b.block _ (by omega)).trans h1, h2.up b, h3, h4⟩, Nat.le_trans hs b.size, bthen h.bel b⟩
theorem Vs.own {w W W' : World} {e p : Nat} {row : Option Nat} (h : Vs w W e p) (hg : W.grownBy W' row) (hr : ∀ r, row = some r → w.heap.size + 5 ≤ r ∧ ∃ o : Obj, W.heap[r]? = some o ∧ o.isCells = false) : Vs w W' e p := by
  have hs := h.size
  have hrow : ∀ q, q < w.heap.size + 5 → some q ≠ row := fun q hq e => by have := (hr q e.symm).1; omega
  obtain ⟨A, n, c, xs, h1, h2, h3, h4⟩ := h.v5
  exact ⟨(hg.block _ (by omega) (hrow _ (by omega))).trans h.v1, (hg.block _ (by omega) (hrow _ (by omega))).trans h.v2, (hg.block _ (by omega) (hrow _ (by omega))).trans h.v3, (hg.block _ (by omega) (hrow _ (by omega))).trans h.v4,
    ⟨A, n, c, xs, (hg.block _ (by omega) (hrow _ (by omega))).trans h1, h2.own hg (fun r e => (hr r e).2), h3, h4⟩, Nat.le_trans hs hg.size, h.bel.grown hg h.bel.size (fun k e => by have := (hr k e).1; omega)⟩
theorem Vs.new (w : World) (e : Nat) : Vs w (((((w.alloc (.cells #[.int .u64 (e : Int)] 23)).alloc (.cells #[Value.slice none 0 0, .slice none 0 0, .slice none 0 0] 26)).alloc (.cells #[.int .i64 0] 3)).alloc (.cells #[.int .i64 0] 27)).alloc (.cells #[Value.slice none 0 0] 22)) e 0 := by
  have hb : ∀ (u : World) (o : Obj) (q : Nat), q < u.heap.size → (u.alloc o).heap[q]? = u.heap[q]? := fun u o q hq => ((Below.refl u.heap.size u).alloc (Nat.le_refl _) o).block q hq
  have hw : ∀ (u : World) (o : Obj) (q : Nat), q = u.heap.size → (u.alloc o).heap[q]? = some o := fun u o q hq => hq ▸ heap_alloc_new u o
  refine ⟨?_, ?_, ?_, ?_, ⟨none, 0, 0, [], hw _ _ _ (by simp), nt_nil _ _, trm_nil, rfl⟩, by simp, ?_⟩
  · rw [hb _ _ _ (by simp only [World.size_alloc]; omega), hb _ _ _ (by simp only [World.size_alloc]; omega), hb _ _ _ (by simp only [World.size_alloc]; omega), hb _ _ _ (by simp only [World.size_alloc]; omega)]; exact hw _ _ _ rfl
  · rw [hb _ _ _ (by simp only [World.size_alloc]; omega), hb _ _ _ (by simp only [World.size_alloc]; omega), hb _ _ _ (by simp only [World.size_alloc]; omega)]; exact hw _ _ _ (by simp only [World.size_alloc])
  · rw [hb _ _ _ (by simp only [World.size_alloc]; omega), hb _ _ _ (by simp only [World.size_alloc]; omega)]; exact hw _ _ _ (by simp only [World.size_alloc])
  · rw [hb _ _ _ (by simp only [World.size_alloc]; omega)]; exact hw _ _ _ (by simp only [World.size_alloc])
  · exact (((((Below.refl _ w).alloc (Nat.le_refl _) _).alloc (by simp) _).alloc (by simp; omega) _).alloc (by simp; omega) _).alloc (by simp; omega) _
/-- whatever is no variable of Draw's -/
def okD (w : World) (b : Nat) : Prop := b ≤ w.heap.size ∨ w.heap.size + 5 ≤ b
/-- with these a key is made, or none, by both Makes -/
def MkB (b : Bool) (p q e : Nat) : Prop := ∀ {w : World} {Ap Aq : Option Addr} {np cp nq cq : Nat} {xp xq : List Nat} (hp : Nt w w.heap.size Ap np cp xp) (hq : Nt w w.heap.size Aq nq cq xq) (ep : val 18446744073709551616 xp = p) (eq : val 18446744073709551616 xq = q)
    (lp : np ≤ 20) (lq : nq ≤ 20), Calls Tryz.prog 8 #[.slice Ap np cp, .slice Aq nq cq, .int .u64 (e : Int)] w (KeyOf b p q e w) ∧ Calls Tryz.prog 9 #[.slice Ap np cp, .slice Aq nq cq, .int .u64 (e : Int)] w (KeyOf b p q e w)
/-- a key, or none, made of p and q -/
structure Kd (W : World) (b : Bool) (p q e u : Nat) (v1 v2 v3 : Value) (us er : Int) : Prop where
  ex : ∃ A1 n1 c1 x1 A2 n2 c2 x2 A3 n3 c3 x3 N E D, v1 = .slice A1 n1 c1 ∧ v2 = .slice A2 n2 c2 ∧ v3 = .slice A3 n3 c3 ∧ Nt W W.heap.size A1 n1 c1 x1 ∧ val 18446744073709551616 x1 = N ∧ Nt W W.heap.size A2 n2 c2 x2 ∧ val 18446744073709551616 x2 = E ∧
    Nt W W.heap.size A3 n3 c3 x3 ∧ val 18446744073709551616 x3 = D ∧ Trm x1 ∧ Trm x2 ∧ Trm x3 ∧ KV b p q e N E D er ∧ us = (if b then (u : Int) else 0)
theorem Kd.own {W W' : World} {b : Bool} {p q e u : Nat} {v1 v2 v3 : Value} {us er : Int} {row : Option Nat} (h : Kd W b p q e u v1 v2 v3 us er) (hg : W.grownBy W' row) (hr : ∀ r, row = some r → ∃ o : Obj, W.heap[r]? = some o ∧ o.isCells = false) : Kd W' b p q e u v1 v2 v3 us er := by
  obtain ⟨A1, n1, c1, x1, A2, n2, c2, x2, A3, n3, c3, x3, N, E, D, a1, a2, a3, t1, b1, t2, b2, t3, b3, r⟩ := h.ex
  exact ⟨A1, n1, c1, x1, A2, n2, c2, x2, A3, n3, c3, x3, N, E, D, a1, a2, a3, t1.own hg hr, b1, t2.own hg hr, b2, t3.own hg hr, b3, r⟩
/-- what Draw hands back lies in its variables -/
structure Dx (w W : World) (b : Bool) (p q e u : Nat) : Prop where
  ex : ∃ v1 v2 v3 us er, W.heap[w.heap.size + 1]? = some (.cells #[v1, v2, v3] 26 (0, 0)) ∧ W.heap[w.heap.size + 2]? = some (.cells #[.int .i64 us] 3 (0, 0)) ∧ W.heap[w.heap.size + 3]? = some (.cells #[.int .i64 er] 27 (0, 0)) ∧ Kd W b p q e u v1 v2 v3 us er
  size : w.heap.size + 5 ≤ W.heap.size
  bel : Below w.heap.size w W
theorem Dx.own {w W W' : World} {b : Bool} {p q e u : Nat} {row : Option Nat} (h : Dx w W b p q e u) (hg : W.grownBy W' row) (hr : ∀ r, row = some r → w.heap.size + 5 ≤ r ∧ ∃ o : Obj, W.heap[r]? = some o ∧ o.isCells = false) : Dx w W' b p q e u := by
  have hs := h.size
  have hrow : ∀ q, q < w.heap.size + 5 → some q ≠ row := fun q hq e => by have := (hr q e.symm).1; omega
  obtain ⟨v1, v2, v3, us, er, h1, h2, h3, h4⟩ := h.ex
  exact ⟨⟨v1, v2, v3, us, er, (hg.block _ (by omega) (hrow _ (by omega))).trans h1, (hg.block _ (by omega) (hrow _ (by omega))).trans h2, (hg.block _ (by omega) (hrow _ (by omega))).trans h3, h4.own hg (fun r e => (hr r e).2)⟩,
    Nat.le_trans hs hg.size, h.bel.grown hg h.bel.size (fun k e => by have := (hr k e).1; omega)⟩
def DrawIs (kb : Nat → Nat → Bool) (C : Nat → Nat) (T e sz : Nat) (w : World) (r : Ending) (w' : World) : Prop :=
  ((∃ k, k < T ∧ (∀ i, i < k → ends C e i = false) ∧ ends C e k = true ∧ ∃ v1 v2 v3 us er, r = .returned (.tuple #[.agg #[v1, v2, v3], .int .i64 us, .int .i64 er]) ∧ Kd w' (kb (fstN C e k) (C k)) (fstN C e k) (C k) e ((k + 1) * sz) v1 v2 v3 us er) ∨
    ((∀ i, i < T → ends C e i = false) ∧ r = .returned (.tuple #[.agg #[.slice none 0 0, .slice none 0 0, .slice none 0 0], .int .i64 0, .int .i64 52]))) ∧ Below w.heap.size w w'
theorem one_cell {W : World} {g : Nat} {v : Value} {t : TypeId} (h : W.heap[g]? = some (.cells #[v] t (0, 0))) : W.cell? ⟨g, 0, none⟩ = some v ∧ W.frozen? ⟨g, 0, none⟩ = false :=
  ⟨by simp [World.cell?, h], by simp [World.frozen?, h]⟩
theorem zip_two (p1 p2 : Tmp) (a b : Value) (T : Array Value) : ((#[p1, p2] : Array Tmp).zip #[a, b]).foldl (fun t (x : Tmp × Value) => t.setIfInBounds x.1 x.2) T = (T.setIfInBounds p1 a).setIfInBounds p2 b := by simp
theorem one_set {W : World} {g : Nat} {v v' : Value} {t : TypeId} (h : W.heap[g]? = some (.cells #[v] t (0, 0))) : (W.setCell ⟨g, 0, none⟩ v').heap[g]? = some (.cells #[v'] t (0, 0)) := by
  simp [World.setCell, Array.getElem?_modify, h]
theorem results_three {w : World} {T : Array Value} {g : Nat} {v1 v2 v3 : Value} {us er : Int} (t6 : T[6]?.getD undef = .pointer (some ⟨g + 1, 0, none⟩)) (t7 : T[7]?.getD undef = .pointer (some ⟨g + 2, 0, none⟩)) (t8 : T[8]?.getD undef = .pointer (some ⟨g + 3, 0, none⟩))
    (h1 : w.heap[g + 1]? = some (.cells #[v1, v2, v3] 26 (0, 0))) (h2 : w.heap[g + 2]? = some (.cells #[.int .i64 us] 3 (0, 0))) (h3 : w.heap[g + 3]? = some (.cells #[.int .i64 er] 27 (0, 0))) :
    (results Tryz.f11 T).run Tryz.prog w = .ok (.tuple #[.agg #[v1, v2, v3], .int .i64 us, .int .i64 er]) w := by
  have c2 := (one_cell h2).1
  have c3 := (one_cell h3).1
  obtain ⟨a1, a2, a3, _, _, _⟩ := three_cells h1
  simp [results, Tryz.results11, go_sem, t6, t7, t8, asAddr, a1, a2, a3]
  simp [Result.andThen, a1, a2, a3, c2, c3]
theorem fst_lt {C : Nat → Nat} {e M : Nat} (hM : 0 < M) (h : ∀ j, C j < M) : ∀ k, fstN C e k < M
  | 0 => hM
  | k + 1 => by
    unfold fstN
    split
    · exact fst_lt hM h k
    · split
      · exact h k
      · exact fst_lt hM h k
theorem KeepsBook.of_below {W W' : World} (h : Below W.heap.size W W') : KeepsBook W W' := ⟨h.size, fun k o hk _ => (h.block k (Array.getElem?_eq_some_iff.1 hk).1).trans hk⟩
theorem KeepsBook.set {W : World} {g i : Nat} {cs : Array Value} {t : TypeId} {fr : Nat × Nat} (h : W.heap[g]? = some (.cells cs t fr)) (v : Value) : KeepsBook W (W.setCell ⟨g, i, none⟩ v) :=
  ⟨by simp, fun k o hk ho => by
    by_cases e : k = g
    · subst e
      rw [h] at hk
      cases hk
      cases ho
    · exact (Below.heap_setCell W ⟨g, i, none⟩ v k e).trans hk⟩
theorem Kc.set {ok : Nat → Prop} {W : World} {g i : Nat} (h : ¬ ok g) (v : Value) : Kc ok W (W.setCell ⟨g, i, none⟩ v) :=
  ⟨by simp, fun p hp ho => World.cell?_of_block (Below.heap_setCell W ⟨g, i, none⟩ v p.block (fun e => h (by rw [← show p.block = g from e]; exact ho)))⟩
theorem Nt.not_box {W : World} {B n c g : Nat} {A : Option Addr} {xs : List Nat} {cs : Array Value} {t : TypeId} (h : Nt W B A n c xs) (hg : W.heap[g]? = some (.cells cs t (0, 0))) (hc : ∀ (j : Nat) (x : Int), cs[j]? ≠ some (.int .u64 x)) : 0 < n → ∀ b off, A = some ⟨b, off, none⟩ → b ≠ g := fun h0 b off hA e => by
  obtain ⟨b', off', e', _, hcl⟩ := h.cell h0
  rw [hA] at e'
  cases e'
  subst e
  obtain ⟨x, hx⟩ : ∃ x, xs[0]? = some x := ⟨_, List.getElem?_eq_getElem (by rw [h.len]; exact h0)⟩
  have h1 := hcl 0 x hx
  rw [cell_of_row W b _ cs t (0, 0) hg] at h1
  exact hc _ _ h1
theorem Vs.take {w W : World} {e p q n c : Nat} {A : Option Addr} {xs : List Nat} (h : Vs w W e p) (m : Nt W W.heap.size A n c xs) (t : Trm xs) (v : val 18446744073709551616 xs = q) : Vs w (W.setCell ⟨w.heap.size + 4, 0, none⟩ (.slice A n c)) e q := by
  obtain ⟨A', n', c', xs', y, _, _, _⟩ := h.v5
  have hs := h.size
  refine ⟨(Below.heap_setCell _ _ _ _ (by simp)).trans h.v1, (Below.heap_setCell _ _ _ _ (by simp)).trans h.v2, (Below.heap_setCell _ _ _ _ (by simp)).trans h.v3, (Below.heap_setCell _ _ _ _ (by simp)).trans h.v4,
    ⟨A, n, c, xs, one_set y, ?_, t, v⟩, by simpa using hs, h.bel.setCell (by simp) _⟩
  have := m.away (k := 0) (v := .slice A n c) (m.not_box y (fun j x hj => by
    rcases j with _ | j
    · simp at hj
    · simp at hj))
  simpa using this
/-- what is handed back is laid into the variables -/
def fillW (w W : World) (v1 v2 v3 : Value) (us er : Int) : World := ((((W.setCell ⟨w.heap.size + 1, 0, none⟩ v1).setCell ⟨w.heap.size + 1, 1, none⟩ v2).setCell ⟨w.heap.size + 1, 2, none⟩ v3).setCell ⟨w.heap.size + 2, 0, none⟩ (.int .i64 us)).setCell ⟨w.heap.size + 3, 0, none⟩ (.int .i64 er)
theorem fill_heap (w W : World) (v1 v2 v3 : Value) (us er : Int) (q : Nat) (n1 : q ≠ w.heap.size + 1) (n2 : q ≠ w.heap.size + 2) (n3 : q ≠ w.heap.size + 3) : (fillW w W v1 v2 v3 us er).heap[q]? = W.heap[q]? := by
  unfold fillW
  rw [Below.heap_setCell _ _ _ _ n3, Below.heap_setCell _ _ _ _ n2, Below.heap_setCell _ _ _ _ n1, Below.heap_setCell _ _ _ _ n1, Below.heap_setCell _ _ _ _ n1]
theorem Vs.fill {w W : World} {e p : Nat} (h : Vs w W e p) (v1 v2 v3 : Value) (us er : Int) : KeepsBook W (fillW w W v1 v2 v3 us er) ∧ Kc (okD w) W (fillW w W v1 v2 v3 us er) ∧
    (fillW w W v1 v2 v3 us er).heap[w.heap.size + 1]? = some (.cells #[v1, v2, v3] 26 (0, 0)) ∧ (fillW w W v1 v2 v3 us er).heap[w.heap.size + 2]? = some (.cells #[.int .i64 us] 3 (0, 0)) ∧ (fillW w W v1 v2 v3 us er).heap[w.heap.size + 3]? = some (.cells #[.int .i64 er] 27 (0, 0)) ∧
    w.heap.size + 5 ≤ (fillW w W v1 v2 v3 us er).heap.size ∧ Below w.heap.size w (fillW w W v1 v2 v3 us er) ∧ ∀ {A : Option Addr} {n c : Nat} {xs : List Nat}, Nt W W.heap.size A n c xs → Nt (fillW w W v1 v2 v3 us er) (fillW w W v1 v2 v3 us er).heap.size A n c xs := by
  have hsz : (fillW w W v1 v2 v3 us er).heap.size = W.heap.size := by simp [fillW]
  have hs := h.size
  refine ⟨⟨by rw [hsz]; exact Nat.le_refl _, fun k o hk ho => ?_⟩, ⟨by rw [hsz]; exact Nat.le_refl _, fun p hp ho => ?_⟩, ?_, ?_, ?_, by rw [hsz]; exact hs, ?_, fun m => ?_⟩
  · have n1 : k ≠ w.heap.size + 1 := fun e => by rw [e, h.v2] at hk; cases hk; cases ho
    have n2 : k ≠ w.heap.size + 2 := fun e => by rw [e, h.v3] at hk; cases hk; cases ho
    have n3 : k ≠ w.heap.size + 3 := fun e => by rw [e, h.v4] at hk; cases hk; cases ho
    rw [fill_heap _ _ _ _ _ _ _ _ n1 n2 n3]; exact hk
  · unfold okD at ho
    exact World.cell?_of_block (fill_heap _ _ _ _ _ _ _ _ (by omega) (by omega) (by omega))
  · unfold fillW
    rw [Below.heap_setCell _ _ _ _ (by simp), Below.heap_setCell _ _ _ _ (by simp)]
    exact three_fin h.v2
  · unfold fillW
    rw [Below.heap_setCell _ _ _ _ (by simp)]
    exact one_set (by rw [Below.heap_setCell _ _ _ _ (by simp), Below.heap_setCell _ _ _ _ (by simp), Below.heap_setCell _ _ _ _ (by simp)]; exact h.v3)
  · unfold fillW
    exact one_set (by rw [Below.heap_setCell _ _ _ _ (by simp), Below.heap_setCell _ _ _ _ (by simp), Below.heap_setCell _ _ _ _ (by simp), Below.heap_setCell _ _ _ _ (by simp)]; exact h.v4)
  · exact ((((h.bel.setCell (by simp) _).setCell (by simp) _).setCell (by simp) _).setCell (by simp) _).setCell (by simp) _
  · have d1 := m.not_box h.v2 (fun j x hj => by rcases j with _ | _ | _ | j <;> simp at hj)
    have d2 := m.not_box h.v3 (fun j x hj => by rcases j with _ | j <;> simp at hj)
    have d3 := m.not_box h.v4 (fun j x hj => by rcases j with _ | j <;> simp at hj)
    have := ((((m.away (k := 0) (v := v1) d1).away (k := 1) (v := v2) d1).away (k := 2) (v := v3) d1).away (k := 0) (v := .int .i64 us) d2).away (k := 0) (v := .int .i64 er) d3
    rw [hsz]
    exact this
theorem fst_skip {C : Nat → Nat} {e k : Nat} (h : skips e (fstN C e k) (C k) = true) : fstN C e (k + 1) = fstN C e k ∧ ends C e k = false := by
  refine ⟨?_, by unfold ends; rw [h]; rfl⟩
  rw [fstN, if_pos h]
theorem fst_take {C : Nat → Nat} {e k : Nat} (h : skips e (fstN C e k) (C k) = false) (h0 : fstN C e k = 0) : fstN C e (k + 1) = C k ∧ ends C e k = false := by
  refine ⟨?_, by unfold ends; rw [h, h0]; rfl⟩
  rw [fstN, h, h0]
  rfl
theorem fst_ends {C : Nat → Nat} {e k : Nat} (h : skips e (fstN C e k) (C k) = false) (h0 : fstN C e k ≠ 0) : ends C e k = true := by
  unfold ends
  rw [h, decide_eq_false h0]
  rfl
theorem ends_snoc {C : Nat → Nat} {e k : Nat} (h : ∀ i, i < k → ends C e i = false) (h1 : ends C e k = false) : ∀ i, i < k + 1 → ends C e i = false := fun i hi => by
  rcases Nat.lt_or_ge i k with h2 | h2
  · exact h i h2
  · rw [show i = k by omega]; exact h1
theorem len_le {xs : List Nat} {n k : Nat} (h : Trm xs) (hn : xs.length = n) (hv : val 18446744073709551616 xs < 18446744073709551616 ^ k) : n ≤ k := by
  rw [← hn]
  exact length_of_val (β := 18446744073709551616) (by omega) h hv
theorem cN_lt (bs : List Nat) (sz d : Nat) (hd : 8 ≤ d) (hd2 : d ≤ 512) (k : Nat) : cN bs sz d k < 18446744073709551616 ^ 8 ∧ 1 ≤ cN bs sz d k := by
  obtain ⟨h1, h2, _⟩ := cand_facts (V := nb ((bs.drop (k * sz)).take sz)) (d := d) (s := 2) (by omega) (by omega)
  refine ⟨Nat.lt_of_lt_of_le h1 ?_, ?_⟩
  · exact Nat.le_trans (Nat.pow_le_pow_right (by decide) hd2) (by decide +kernel)
  · unfold cN; omega
theorem cands_yields {w0 w w3 : World} {A : Option Addr} {n c d q sz : Nat} {bs : List Nat} (h : Nb w w.heap.size A n c bs) (hn : n ≤ 1099511627776) (hd : 8 ≤ d) (hd2 : d ≤ 512) (hq : q ≤ 7) (hsz : d + q = 8 * sz) (hz : w.heap.size + 5 ≤ w0.heap.size) (hb0 : Below w.heap.size w w0) (hC : Cd w0 w3 A n c d 2) :
    Yields2 Fence.wide 8 Tryz.prog 107 #[.pointer (some ⟨w0.heap.size, 0, none⟩), .pointer (some ⟨w0.heap.size + 3, 0, none⟩), .pointer (some ⟨w0.heap.size + 1, 0, none⟩), .pointer (some ⟨w0.heap.size + 2, 0, none⟩)] w3.heap.size (n / sz) (Gc bs sz d 2) (Kc (okD w)) w3 := by
  intro l J Jx W hbW hJ hY h0
  have hs := hC.size
  have e1 : (d + 7) / 8 = sz := by omega
  have c2 := hC.c2
  rw [e1] at c2
  have hbw := bthen hb0 (bthen hC.bel hbW)
  refine cands_in l w0.heap.size (w0.heap.size + 3) (w0.heap.size + 1) (w0.heap.size + 2) hn (by omega) (by omega) hq hsz (by omega) (by omega) (okD w) (.inr hz) (.inr (by omega)) (.inr (by omega)) (.inr (by omega)) (n / sz) rfl J Jx hY hJ W
    ((hbW.cell (p := ⟨w0.heap.size, 0, none⟩) (by dsimp only; omega)).trans hC.c1) ((hbW.cell (p := ⟨w0.heap.size + 3, 0, none⟩) (by dsimp only; omega)).trans c2) ((hbW.cell (p := ⟨w0.heap.size + 1, 0, none⟩) (by dsimp only; omega)).trans hC.c3) ((hbW.cell (p := ⟨w0.heap.size + 2, 0, none⟩) (by dsimp only; omega)).trans hC.c4)
    (h.up hbw) (fun h0 => ?_) h0
  obtain ⟨b, off, hA, hb, _⟩ := h.cell h0
  exact ⟨b, off, hA, .inl (Nat.le_of_lt hb)⟩
set_option maxHeartbeats 4000000 in
theorem draw_any {w : World} {A : Option Addr} {n c d e q sz : Nat} {bs : List Nat} (h : Nb w w.heap.size A n c bs) (hn : n ≤ 1099511627776) (hd : 8 ≤ d) (hd2 : d ≤ 512) (hq : q ≤ 7) (hsz : d + q = 8 * sz) (he : e < 18446744073709551616) (hok : (decide (e % 2 = 1) && decide (3 ≤ e)) = true) (kb : Nat → Nat → Bool) (hkb : ∀ p q, MkB (kb p q) p q e) :
    Calls Tryz.prog 11 #[.slice A n c, .int .i64 ((2 * d : Nat) : Int), .int .u64 (e : Int)] w (DrawIs kb (cN bs sz d) (n / sz) e sz w) := by
  have Hpw := Lib.hid (fun W => mayPower_any e he W)
  rw [hok] at Hpw
  have HCd := Lib.hid (candidates_any A n c d 2 (by omega))
  have Hh := Lib.hid h
  have g1 : ((2 * d : Nat) : Int) % 2 = 0 := by omega
  have g2 : ¬ (((2 * d : Nat) : Int) < 16) := by omega
  have g3 : ¬ ((1024 : Int) < ((2 * d : Nat) : Int)) := by omega
  have g4 : ((2 * d : Nat) : Int) / 2 = (d : Int) := by omega
  clear h
  generalize ((2 * d : Nat) : Int) = bits at *
  refine (callsIn_wide (n := 9)).1 ?_
  refine callsIn_of_wp_marks Tryz.func11 rfl trivial ?_ rfl
  simp only [Tryz.ntmps11, List.size_toArray, List.length_cons, List.length_nil, Nat.reduceAdd, Nat.reduceSub, Array.replicate_succ, Array.replicate_zero, List.push_toArray, List.append_toArray, List.nil_append, List.cons_append]
  gi_wp2_with fail
  obtain ⟨w0, e0⟩ : ∃ w0, w0 = (((w.alloc (.cells #[.int .u64 (e : Int)] 23)).alloc (.cells #[Value.slice none 0 0, .slice none 0 0, .slice none 0 0] 26)).alloc (.cells #[.int .i64 0] 3)).alloc (.cells #[.int .i64 0] 27) := ⟨_, rfl⟩
  rw [← e0]
  refine ⟨trivial, (callsIn_wide.2 (Hpw.out _)).mono ?_⟩
  rintro r w1 ⟨rfl, rfl⟩
  have HV0 := Lib.hid (show Vs w (w0.alloc (.cells #[Value.slice none 0 0] 22)) e 0 from e0 ▸ Vs.new w e)
  have hs0 : w0.heap.size = w.heap.size + 4 := by rw [e0]; simp
  clear e0
  gi_wp2_with fail
  generalize w0.alloc (.cells #[Value.slice none 0 0] 22) = w2 at *
  refine ⟨trivial, (callsIn_wide.2 (HCd.out w2)).mono ?_⟩
  rintro r w3 ⟨rfl, hC⟩
  have HY := Lib.hid (cands_yields Hh.out hn hd hd2 hq hsz HV0.out.size HV0.out.bel hC)
  have HV3 := Lib.hid (HV0.out.up hC.bel)
  clear hC
  gi_wp2_with fail
  obtain ⟨C, hCN⟩ : ∃ C, C = cN bs sz d := ⟨_, rfl⟩
  have HCN := Lib.hid hCN
  have HS3 := Lib.hid HV3.out.size
  clear hCN hs0
  refine range_val (N := n / sz) (G := Gc bs sz d 2) (Kp := Kc (okD w)) rfl (by omega) rfl trivial (fun args w => by kernel_rfl) HY.out ?hps ?hG (fun A B C h k => h.trans k) (fun A l r r' _ h => Kc.put h)
    (fun k W => Vs w W e (fstN C e k) ∧ (∀ i, i < k → ends C e i = false) ∧ w3.heap.size ≤ W.heap.size)
    (fun k W => (∀ i, i < k → ends C e i = false) ∧ ends C e k = true ∧ Dx w W (kb (fstN C e k) (C k)) (fstN C e k) (C k) e ((k + 1) * sz)) ?hJ ?hJx ?h0
    (fun k vs => { tmps := List.toArray ((Value.slice A n c : Value) :: (.int .i64 bits : Value) :: (.int .u64 (e : Int) : Value) :: undef :: undef :: (.pointer (some ⟨w.heap.size, 0, none⟩) : Value) :: (.pointer (some ⟨w.heap.size + 1, 0, none⟩) : Value) :: (.pointer (some ⟨w.heap.size + 2, 0, none⟩) : Value) :: (.pointer (some ⟨w.heap.size + 3, 0, none⟩) : Value) :: (.pointer (some ⟨w.heap.size + 4, 0, none⟩) : Value) :: (vs.getD 0 undef : Value) :: (vs.getD 1 undef : Value) :: undef :: undef :: (.int .i64 bits : Value) :: (.int .i64 0 : Value) :: (.bool false : Value) :: (.bool false : Value) :: (.int .i64 bits : Value) :: (.bool false : Value) :: (.bool false : Value) :: (.bool false : Value) :: (.int .i64 bits : Value) :: (.bool false : Value) :: (.bool false : Value) :: (.bool false : Value) :: (.int .u64 (e : Int) : Value) :: (.bool true : Value) :: (.bool false : Value) :: (.bool false : Value) :: undef :: (.slice A n c : Value) :: (.int .i64 bits : Value) :: (.int .i64 (d : Int) : Value) :: (.func (.func 107) #[] #[.pointer (some ⟨w2.heap.size, 0, none⟩), .pointer (some ⟨w2.heap.size + 3, 0, none⟩), .pointer (some ⟨w2.heap.size + 1, 0, none⟩), .pointer (some ⟨w2.heap.size + 2, 0, none⟩)] : Value) :: (vs.getD 0 undef : Value) :: (vs.getD 1 undef : Value) :: undef :: undef :: undef :: undef :: undef :: undef :: undef :: undef :: undef :: undef :: undef :: undef :: undef :: undef :: undef :: undef :: undef :: undef :: undef :: undef :: undef :: undef :: undef :: undef :: undef :: undef :: undef :: undef :: []), defers := [] })
    ?hassign ?hbody ?hdone ?hstop
  case hps =>
    rintro k vs W ⟨A1, n1, c1, xs, rfl, _⟩
    rfl
  case hG =>
    rintro k vs W W' row ⟨A1, n1, c1, xs, rfl, h1, h2, h3⟩ hg hr
    exact ⟨A1, n1, c1, xs, rfl, h1.own hg (fun r e => (hr r e).2), h2, h3⟩
  case hJ =>
    rintro k W W' row ⟨h1, h2, h3⟩ hg hr
    exact ⟨h1.own hg (fun r e => ⟨Nat.le_trans HS3.out (hr r e).1, (hr r e).2⟩), h2, Nat.le_trans h3 hg.size⟩
  case hJx =>
    rintro k W W' row ⟨h1, h2, h3⟩ hg hr
    exact ⟨h1, h2, h3.own hg (fun r e => ⟨Nat.le_trans HS3.out (hr r e).1, (hr r e).2⟩)⟩
  case h0 => exact ⟨HV3.out, fun i hi => absurd hi (Nat.not_lt_zero i), Nat.le_refl _⟩
  case hassign =>
    rintro l k vs W K ⟨A1, n1, c1, xs, rfl, _⟩ hK
    change K { tmps := List.toArray ((Value.slice A n c : Value) :: (.int .i64 bits : Value) :: (.int .u64 (e : Int) : Value) :: undef :: undef :: (.pointer (some ⟨w.heap.size, 0, none⟩) : Value) :: (.pointer (some ⟨w.heap.size + 1, 0, none⟩) : Value) :: (.pointer (some ⟨w.heap.size + 2, 0, none⟩) : Value) :: (.pointer (some ⟨w.heap.size + 3, 0, none⟩) : Value) :: (.pointer (some ⟨w.heap.size + 4, 0, none⟩) : Value) :: ((.int .i64 (((k + 1) * sz : Nat) : Int)) : Value) :: ((.slice A1 n1 c1) : Value) :: undef :: undef :: (.int .i64 bits : Value) :: (.int .i64 0 : Value) :: (.bool false : Value) :: (.bool false : Value) :: (.int .i64 bits : Value) :: (.bool false : Value) :: (.bool false : Value) :: (.bool false : Value) :: (.int .i64 bits : Value) :: (.bool false : Value) :: (.bool false : Value) :: (.bool false : Value) :: (.int .u64 (e : Int) : Value) :: (.bool true : Value) :: (.bool false : Value) :: (.bool false : Value) :: undef :: (.slice A n c : Value) :: (.int .i64 bits : Value) :: (.int .i64 (d : Int) : Value) :: (.func (.func 107) #[] #[.pointer (some ⟨w2.heap.size, 0, none⟩), .pointer (some ⟨w2.heap.size + 3, 0, none⟩), .pointer (some ⟨w2.heap.size + 1, 0, none⟩), .pointer (some ⟨w2.heap.size + 2, 0, none⟩)] : Value) :: ((.int .i64 (((k + 1) * sz : Nat) : Int)) : Value) :: ((.slice A1 n1 c1) : Value) :: undef :: undef :: undef :: undef :: undef :: undef :: undef :: undef :: undef :: undef :: undef :: undef :: undef :: undef :: undef :: undef :: undef :: undef :: undef :: undef :: undef :: undef :: undef :: undef :: undef :: undef :: undef :: undef :: []), defers := [] } W at hK
    simp only [zip_two, List.setIfInBounds_toArray, List.set_cons_succ, List.set_cons_zero]
    gi_wp2
    exact hK
  case hbody =>
    rintro l k vs W ⟨h1, h2, h3⟩ hk ⟨A1, n1, c1, xs, rfl, m1, t1, u1⟩
    have hCk := cN_lt bs sz d hd hd2 k
    have u1' : val 18446744073709551616 xs = C k := by rw [HCN.out]; exact u1
    rw [← HCN.out] at hCk
    have hp8 : fstN C e k < 18446744073709551616 ^ 8 := fst_lt (by decide +kernel) (fun j => by rw [HCN.out]; exact (cN_lt bs sz d hd hd2 j).1) k
    obtain ⟨A5, n5, c5, x5, y5, m5, t5, u5⟩ := h1.v5
    have l1 : n1 ≤ 8 := len_le t1 m1.len (by rw [u1']; exact hCk.1)
    have l5 : n5 ≤ 8 := len_le t5 m5.len (by rw [u5]; exact hp8)
    have q0 := (one_cell h1.v1).1
    obtain ⟨q1, q2⟩ := one_cell y5
    have Hsu := Lib.hid (suits_any (e := e) m1 u1' (by omega) hCk.2 he)
    have HSz := Lib.hid h1.size
    have HY5 := Lib.hid y5
    have H1 := Lib.hid h1
    have H2 := Lib.hid h2
    have H3 := Lib.hid h3
    have M1 := Lib.hid m1
    have M5 := Lib.hid m5
    have T1 := Lib.hid t1
    have T5 := Lib.hid t5
    have U1 := Lib.hid u1'
    have U5 := Lib.hid u5
    have HC1 := Lib.hid hCk
    have HP8 := Lib.hid hp8
    clear h1 h2 h3 m1 m5 t1 t5 u1 u1' u5 hCk hp8 y5
    change Code.wpIn _ _ _ _ _ { tmps := List.toArray ((Value.slice A n c : Value) :: (.int .i64 bits : Value) :: (.int .u64 (e : Int) : Value) :: undef :: undef :: (.pointer (some ⟨w.heap.size, 0, none⟩) : Value) :: (.pointer (some ⟨w.heap.size + 1, 0, none⟩) : Value) :: (.pointer (some ⟨w.heap.size + 2, 0, none⟩) : Value) :: (.pointer (some ⟨w.heap.size + 3, 0, none⟩) : Value) :: (.pointer (some ⟨w.heap.size + 4, 0, none⟩) : Value) :: ((.int .i64 (((k + 1) * sz : Nat) : Int)) : Value) :: ((.slice A1 n1 c1) : Value) :: undef :: undef :: (.int .i64 bits : Value) :: (.int .i64 0 : Value) :: (.bool false : Value) :: (.bool false : Value) :: (.int .i64 bits : Value) :: (.bool false : Value) :: (.bool false : Value) :: (.bool false : Value) :: (.int .i64 bits : Value) :: (.bool false : Value) :: (.bool false : Value) :: (.bool false : Value) :: (.int .u64 (e : Int) : Value) :: (.bool true : Value) :: (.bool false : Value) :: (.bool false : Value) :: undef :: (.slice A n c : Value) :: (.int .i64 bits : Value) :: (.int .i64 (d : Int) : Value) :: (.func (.func 107) #[] #[.pointer (some ⟨w2.heap.size, 0, none⟩), .pointer (some ⟨w2.heap.size + 3, 0, none⟩), .pointer (some ⟨w2.heap.size + 1, 0, none⟩), .pointer (some ⟨w2.heap.size + 2, 0, none⟩)] : Value) :: ((.int .i64 (((k + 1) * sz : Nat) : Int)) : Value) :: ((.slice A1 n1 c1) : Value) :: undef :: undef :: undef :: undef :: undef :: undef :: undef :: undef :: undef :: undef :: undef :: undef :: undef :: undef :: undef :: undef :: undef :: undef :: undef :: undef :: undef :: undef :: undef :: undef :: undef :: undef :: undef :: undef :: []), defers := [] } W
    gi_wp2_with fail
    refine ⟨trivial, (CallsIn.inRound l (callsIn_wide.2 Hsu.out)).mono ?_⟩
    rintro r w4 ⟨rfl, b4⟩
    have q0' := (b4.cell (p := ⟨w.heap.size, 0, none⟩) (World.block_lt_of_cell? W _ q0)).trans q0
    have y54 := (b4.block (w.heap.size + 4) (World.block_lt_of_cell? W _ q1)).trans HY5.out
    obtain ⟨q1', q2'⟩ := one_cell y54
    have HY54 := Lib.hid y54
    clear y54
    have HB4 := Lib.hid b4
    have M14 := Lib.hid (M1.out.up b4)
    have M54 := Lib.hid (M5.out.up b4)
    clear b4 q0 q1 q2
    have hgood : goodN e (C k) = (decide (Nat.gcd e (C k - 1) = 1) && primeN (C k) b12) := rfl
    rw [← hgood]
    clear hgood
    cases hgd : goodN e (C k) with
    | false =>
      have hsk := fst_skip (C := C) (e := e) (k := k) (by unfold skips; rw [hgd]; rfl)
      have HSk := Lib.hid hsk
      clear hsk hgd
      gi_wp2_with fail
      refine ⟨trivial, ?_⟩
      gi_wp2_with fail
      refine ⟨KeepsBook.of_below HB4.out, Kc.of_below HB4.out, ?_, ends_snoc H2.out HSk.out.2, Nat.le_trans H3.out HB4.out.size⟩
      rw [HSk.out.1]
      exact H1.out.up HB4.out
    | true =>
      by_cases hpq : fstN C e k = C k
      · have hsk := fst_skip (C := C) (e := e) (k := k) (by unfold skips; rw [hgd, decide_eq_true hpq]; rfl)
        have HSk := Lib.hid hsk
        clear hsk hgd
        gi_wp2_with fail
        refine ⟨trivial, (CallsIn.inRound l (callsIn_wide.2 (cmp_eq M54.out M14.out (by rw [U5.out, U1.out]; exact hpq)))).mono ?_⟩
        rintro r w5 ⟨rfl, d5, rfl⟩
        have HB5 := Lib.hid (bdr HB4.out d5)
        gi_wp2_with fail
        refine ⟨KeepsBook.of_below HB5.out, Kc.of_below HB5.out, ?_, ends_snoc H2.out HSk.out.2, Nat.le_trans H3.out HB5.out.size⟩
        rw [HSk.out.1]
        exact H1.out.up HB5.out
      · have hsk : skips e (fstN C e k) (C k) = false := by unfold skips; rw [hgd, decide_eq_false hpq]; rfl
        have hcmp : ∃ z : Int, z ≠ 0 ∧ Calls Tryz.prog 26 #[.slice A5 n5 c5, .slice A1 n1 c1] w4 fun r w' => r = .returned (.int .i64 z) ∧ ∃ d', w' = w4.drewN d' := by
          rcases Nat.lt_or_gt_of_ne hpq with h | h
          · exact ⟨_, by decide, cmp_lt M54.out M14.out (by rw [U5.out, U1.out]; exact h)⟩
          · exact ⟨_, by decide, cmp_gt M54.out M14.out (by rw [U5.out, U1.out]; exact h)⟩
        obtain ⟨z, hz, hc26⟩ := hcmp
        have hz2 : (z == 0) = false := by simpa using hz
        have Hc26 := Lib.hid hc26
        have HSk := Lib.hid hsk
        clear hsk hgd hpq hc26
        gi_wp2_with fail
        refine ⟨trivial, (CallsIn.inRound l (callsIn_wide.2 Hc26.out)).mono ?_⟩
        rintro r w5 ⟨rfl, d5, rfl⟩
        have HB5 := Lib.hid (bdr HB4.out d5)
        by_cases hp0 : fstN C e k = 0
        · have hn5 : n5 = 0 := Nat.le_zero.1 (len_le (k := 0) T5.out M5.out.len (by rw [U5.out, hp0]; decide))
          subst hn5
          have ht := fst_take HSk.out hp0
          have Ht := Lib.hid ht
          clear ht hp0
          gi_wp2_with fail
          have HV5 := Lib.hid (((H1.out.up HB5.out).take (M1.out.up HB5.out) T1.out U1.out))
          refine ⟨(KeepsBook.of_below HB5.out).trans (KeepsBook.set (show (w4.drewN d5).heap[w.heap.size + 4]? = _ from HY54.out) _), (Kc.of_below HB5.out).trans (Kc.set (by unfold okD; omega) _), ?_, ends_snoc H2.out Ht.out.2, Nat.le_trans H3.out HB4.out.size⟩
          rw [Ht.out.1]
          exact HV5.out
        · have hn5 : n5 ≠ 0 := fun h => hp0 (by
            rw [← U5.out, List.length_eq_zero_iff.1 (M5.out.len.trans h)]
            rfl)
          have hen := fst_ends HSk.out hp0
          have Hen := Lib.hid hen
          clear hen hp0
          have Hmk := Lib.hid ((hkb (fstN C e k) (C k)) (M5.out.up HB5.out) (M1.out.up HB5.out) U5.out U1.out (by omega) (by omega)).1
          gi_wp2_with fail
          refine ⟨trivial, (CallsIn.inRound l (callsIn_wide.2 Hmk.out)).mono ?_⟩
          rintro r w6 ⟨B1, e1, f1, y1, B2, e2, f2, y2, B3, e3, f3, y3, N, E, D, er, rfl, a1, a2, a3, a4, a5, a6, a7, a8, a9, b6, hkv⟩
          obtain ⟨w7, e7⟩ : ∃ w7, w7 = w6.alloc (.cells #[Value.slice B1 e1 f1, .slice B2 e2 f2, .slice B3 e3 f3] 26) := ⟨_, rfl⟩
          obtain ⟨hx7, b7⟩ := box_new e7
          have HB7 := Lib.hid (bthen (bthen HB5.out b6) b7)
          have HV7 := Lib.hid (H1.out.up HB7.out)
          obtain ⟨z0, z1, z2, z3, z4, z5⟩ := three_cells HV7.out.v2
          obtain ⟨z6, z7⟩ := one_cell HV7.out.v3
          obtain ⟨z8, z9⟩ := one_cell HV7.out.v4
          have p0 := hx7.c0
          have p1 := hx7.c1
          have p2 := hx7.c2
          have A1' := Lib.hid (a1.up b7)
          have A3' := Lib.hid (a3.up b7)
          have A5' := Lib.hid (a5.up b7)
          have HA := Lib.hid (And.intro a2 (And.intro a4 (And.intro a6 (And.intro a7 (And.intro a8 a9)))))
          clear a1 a2 a3 a4 a5 a6 a7 a8 a9 b6 b7
          subst e7
          cases hb : kb (fstN C e k) (C k) with
          | false =>
            rw [hb] at hkv
            have her := (hkv.2 rfl).1
            subst her
            have HKv := Lib.hid hkv
            clear hkv
            gi_wp2_with fail
            obtain ⟨g1, g2, g3, g4, g5, g6, g7, g8⟩ := HV7.out.fill (.slice none 0 0) (.slice none 0 0) (.slice none 0 0) 0 50
            refine ⟨(KeepsBook.of_below HB7.out).trans g1, (Kc.of_below HB7.out).trans g2, H2.out, Hen.out, ⟨⟨_, _, _, _, _, g3, g4, g5, ⟨⟨none, 0, 0, [], none, 0, 0, [], none, 0, 0, [], 0, 0, 0, rfl, rfl, rfl, nt_nil _ _, rfl, nt_nil _ _, rfl, nt_nil _ _, rfl, trm_nil, trm_nil, trm_nil, ?_, ?_⟩⟩⟩, g6, g7⟩⟩
            · exact ⟨fun h => (by cases h), fun _ => ⟨rfl, rfl, rfl, rfl⟩⟩
            · rfl
          | true =>
            rw [hb] at hkv
            have her := (hkv.1 rfl).1
            subst her
            have HKv := Lib.hid hkv
            clear hkv
            gi_wp2_with fail
            obtain ⟨g1, g2, g3, g4, g5, g6, g7, g8⟩ := HV7.out.fill (.slice B1 e1 f1) (.slice B2 e2 f2) (.slice B3 e3 f3) (((k : Int) + 1) * (sz : Int)) 0
            obtain ⟨i2, i4, i6, i7, i8, i9⟩ := HA.out
            refine ⟨(KeepsBook.of_below HB7.out).trans g1, (Kc.of_below HB7.out).trans g2, H2.out, Hen.out, ⟨⟨_, _, _, _, _, g3, g4, g5, ⟨⟨B1, e1, f1, y1, B2, e2, f2, y2, B3, e3, f3, y3, N, E, D, rfl, rfl, rfl, g8 A1'.out, i2, g8 A3'.out, i4, g8 A5'.out, i6, i7, i8, i9, ?_, ?_⟩⟩⟩, g6, g7⟩⟩
            · exact HKv.out
            · simp
  case hdone =>
    intro D W hD ⟨h1, h2, h3⟩ hd
    obtain ⟨q0, q1, q2, q3, q4, q5⟩ := three_cells h1.v2
    obtain ⟨q6, q7⟩ := one_cell h1.v3
    obtain ⟨q8, q9⟩ := one_cell h1.v4
    have H1 := Lib.hid h1
    have H2 := Lib.hid h2
    have HD := Lib.hid hd
    have HDl := Lib.hid hD
    clear h1 h2 hd hD
    change Exit.inBlock 0 _ Exit.normal { tmps := List.toArray ((Value.slice A n c : Value) :: (.int .i64 bits : Value) :: (.int .u64 (e : Int) : Value) :: undef :: undef :: (.pointer (some ⟨w.heap.size, 0, none⟩) : Value) :: (.pointer (some ⟨w.heap.size + 1, 0, none⟩) : Value) :: (.pointer (some ⟨w.heap.size + 2, 0, none⟩) : Value) :: (.pointer (some ⟨w.heap.size + 3, 0, none⟩) : Value) :: (.pointer (some ⟨w.heap.size + 4, 0, none⟩) : Value) :: undef :: undef :: undef :: undef :: (.int .i64 bits : Value) :: (.int .i64 0 : Value) :: (.bool false : Value) :: (.bool false : Value) :: (.int .i64 bits : Value) :: (.bool false : Value) :: (.bool false : Value) :: (.bool false : Value) :: (.int .i64 bits : Value) :: (.bool false : Value) :: (.bool false : Value) :: (.bool false : Value) :: (.int .u64 (e : Int) : Value) :: (.bool true : Value) :: (.bool false : Value) :: (.bool false : Value) :: undef :: (.slice A n c : Value) :: (.int .i64 bits : Value) :: (.int .i64 (d : Int) : Value) :: (.func (.func 107) #[] #[.pointer (some ⟨w2.heap.size, 0, none⟩), .pointer (some ⟨w2.heap.size + 3, 0, none⟩), .pointer (some ⟨w2.heap.size + 1, 0, none⟩), .pointer (some ⟨w2.heap.size + 2, 0, none⟩)] : Value) :: undef :: undef :: undef :: undef :: undef :: undef :: undef :: undef :: undef :: undef :: undef :: undef :: undef :: undef :: undef :: undef :: undef :: undef :: undef :: undef :: undef :: undef :: undef :: undef :: undef :: undef :: undef :: undef :: undef :: undef :: []), defers := [{ target := .collected D, args := #[] }] } W
    gi_wp2_with fail
    have hw : w.heap.size + 5 ≤ W.heap.size := H1.out.size
    have hS := HS3.out
    have hDl := HDl.out
    obtain ⟨W5, hW5⟩ : ∃ W5, W5 = ((((W.setCell ⟨w.heap.size + 1, 0, none⟩ (.slice none 0 0)).setCell ⟨w.heap.size + 1, 1, none⟩ (.slice none 0 0)).setCell ⟨w.heap.size + 1, 2, none⟩ (.slice none 0 0)).setCell ⟨w.heap.size + 2, 0, none⟩ (.int .i64 0)).setCell ⟨w.heap.size + 3, 0, none⟩ (.int .i64 52) := ⟨_, rfl⟩
    rw [← hW5]
    have hh : ∀ q, q ≠ w.heap.size + 1 → q ≠ w.heap.size + 2 → q ≠ w.heap.size + 3 → W5.heap[q]? = W.heap[q]? := fun q n1 n2 n3 => by
      rw [hW5, Below.heap_setCell _ _ _ _ n3, Below.heap_setCell _ _ _ _ n2, Below.heap_setCell _ _ _ _ n1, Below.heap_setCell _ _ _ _ n1, Below.heap_setCell _ _ _ _ n1]
    have x1 : W5.heap[w.heap.size + 1]? = some (.cells #[.slice none 0 0, .slice none 0 0, .slice none 0 0] 26 (0, 0)) := by
      rw [hW5, Below.heap_setCell _ _ _ _ (by simp), Below.heap_setCell _ _ _ _ (by simp)]
      exact three_fin H1.out.v2
    have x2 : W5.heap[w.heap.size + 2]? = some (.cells #[.int .i64 0] 3 (0, 0)) := by
      rw [hW5, Below.heap_setCell _ _ _ _ (by simp)]
      exact one_set (by rw [Below.heap_setCell _ _ _ _ (by simp), Below.heap_setCell _ _ _ _ (by simp), Below.heap_setCell _ _ _ _ (by simp)]; exact H1.out.v3)
    have x3 : W5.heap[w.heap.size + 3]? = some (.cells #[.int .i64 52] 27 (0, 0)) := by
      rw [hW5]
      exact one_set (by rw [Below.heap_setCell _ _ _ _ (by simp), Below.heap_setCell _ _ _ _ (by simp), Below.heap_setCell _ _ _ _ (by simp), Below.heap_setCell _ _ _ _ (by simp)]; exact H1.out.v4)
    have xD : W5.heap[D]? = some (.deferred (some [])) := (hh D (by omega) (by omega) (by omega)).trans HD.out
    have xb : Below w.heap.size w (W5.putObj D (.deferred none)) := by
      rw [hW5]
      exact (((((H1.out.bel.setCell (by simp) _).setCell (by simp) _).setCell (by simp) _).setCell (by simp) _).setCell (by simp) _).grown (grownBy_putObj' _ D _) (Nat.le_trans H1.out.bel.size (by simp)) (fun k e => by cases e; omega)
    refine ⟨by simp, .inl ⟨_, _, rfl, run_takeDeferred xD, ?_⟩⟩
    refine ⟨_, results_three (g := w.heap.size) rfl rfl rfl ((World.putObj_heap_other (by omega)).trans x1) ((World.putObj_heap_other (by omega)).trans x2) ((World.putObj_heap_other (by omega)).trans x3), ?_⟩
    refine ⟨.inr ⟨?_, rfl⟩, xb⟩
    rw [← HCN.out]
    exact H2.out
  case hstop =>
    intro D k W hD hk ⟨h1, h2, h3⟩ hd
    have H1 := Lib.hid h1
    have H2 := Lib.hid h2
    have H3 := Lib.hid h3
    have HD := Lib.hid hd
    have HDl := Lib.hid hD
    clear h1 h2 hd hD
    change Code.wpIn _ _ _ _ _ { tmps := List.toArray ((Value.slice A n c : Value) :: (.int .i64 bits : Value) :: (.int .u64 (e : Int) : Value) :: undef :: undef :: (.pointer (some ⟨w.heap.size, 0, none⟩) : Value) :: (.pointer (some ⟨w.heap.size + 1, 0, none⟩) : Value) :: (.pointer (some ⟨w.heap.size + 2, 0, none⟩) : Value) :: (.pointer (some ⟨w.heap.size + 3, 0, none⟩) : Value) :: (.pointer (some ⟨w.heap.size + 4, 0, none⟩) : Value) :: undef :: undef :: undef :: undef :: (.int .i64 bits : Value) :: (.int .i64 0 : Value) :: (.bool false : Value) :: (.bool false : Value) :: (.int .i64 bits : Value) :: (.bool false : Value) :: (.bool false : Value) :: (.bool false : Value) :: (.int .i64 bits : Value) :: (.bool false : Value) :: (.bool false : Value) :: (.bool false : Value) :: (.int .u64 (e : Int) : Value) :: (.bool true : Value) :: (.bool false : Value) :: (.bool false : Value) :: undef :: (.slice A n c : Value) :: (.int .i64 bits : Value) :: (.int .i64 (d : Int) : Value) :: (.func (.func 107) #[] #[.pointer (some ⟨w2.heap.size, 0, none⟩), .pointer (some ⟨w2.heap.size + 3, 0, none⟩), .pointer (some ⟨w2.heap.size + 1, 0, none⟩), .pointer (some ⟨w2.heap.size + 2, 0, none⟩)] : Value) :: undef :: undef :: undef :: undef :: undef :: undef :: undef :: undef :: undef :: undef :: undef :: undef :: undef :: undef :: undef :: undef :: undef :: undef :: undef :: undef :: undef :: undef :: undef :: undef :: undef :: undef :: undef :: undef :: undef :: undef :: []), defers := [{ target := .collected D, args := #[] }] } W
    gi_wp2_with fail
    have hS := HS3.out
    have hDl := HDl.out
    obtain ⟨v1, v2, v3, us, er, x1, x2, x3, hkd⟩ := H3.out.ex
    have xb : Below w.heap.size w (W.putObj D (.deferred none)) := H3.out.bel.grown (grownBy_putObj' _ D _) H3.out.bel.size (fun k e => by cases e; omega)
    refine ⟨by simp, .inl ⟨_, _, rfl, run_takeDeferred HD.out, ?_⟩⟩
    refine ⟨_, results_three (g := w.heap.size) rfl rfl rfl ((World.putObj_heap_other (by omega)).trans x1) ((World.putObj_heap_other (by omega)).trans x2) ((World.putObj_heap_other (by omega)).trans x3), ?_⟩
    rw [HCN.out] at hkd H1 H2
    exact ⟨.inl ⟨k, hk, H1.out, H2.out, v1, v2, v3, us, er, rfl, hkd.own (grownBy_putObj' W D _) (fun r e => by cases e; exact ⟨_, HD.out, rfl⟩)⟩, xb⟩

end Go.Proofs.YtkhlmcknbangfaaGreatDoor
namespace Go.Proofs.YtkhlmcknbangfaaGreatDoor
open Go.RowKit Go.Shelf
set_option linter.unusedVariables false
set_option linter.unusedSimpArgs false
set_option maxRecDepth 100000
attribute [local go_sem] Oper.semAt_some
def DrawBad (w : World) (r : Ending) (w' : World) : Prop := r = .returned (.tuple #[.agg #[.slice none 0 0, .slice none 0 0, .slice none 0 0], .int .i64 0, .int .i64 1]) ∧ Below w.heap.size w w'
/-- Draw's variables at its beginning -/
def startW (w : World) (e : Nat) (er : Int) : World := (((w.alloc (.cells #[.int .u64 (e : Int)] 23)).alloc (.cells #[Value.slice none 0 0, .slice none 0 0, .slice none 0 0] 26)).alloc (.cells #[.int .i64 0] 3)).alloc (.cells #[.int .i64 er] 27)
theorem start_of (w : World) (e : Nat) (er : Int) : (startW w e er).heap[w.heap.size + 1]? = some (.cells #[Value.slice none 0 0, .slice none 0 0, .slice none 0 0] 26 (0, 0)) ∧ (startW w e er).heap[w.heap.size + 2]? = some (.cells #[.int .i64 0] 3 (0, 0)) ∧ (startW w e er).heap[w.heap.size + 3]? = some (.cells #[.int .i64 er] 27 (0, 0)) ∧ Below w.heap.size w (startW w e er) := by
  have hb : ∀ (u : World) (o : Obj) (q : Nat), q < u.heap.size → (u.alloc o).heap[q]? = u.heap[q]? := fun u o q hq => ((Below.refl u.heap.size u).alloc (Nat.le_refl _) o).block q hq
  have hw : ∀ (u : World) (o : Obj) (q : Nat), q = u.heap.size → (u.alloc o).heap[q]? = some o := fun u o q hq => hq ▸ heap_alloc_new u o
  unfold startW
  refine ⟨?_, ?_, ?_, ?_⟩
  · rw [hb _ _ _ (by simp only [World.size_alloc]; omega), hb _ _ _ (by simp only [World.size_alloc]; omega)]; exact hw _ _ _ (by simp only [World.size_alloc])
  · rw [hb _ _ _ (by simp only [World.size_alloc]; omega)]; exact hw _ _ _ (by simp only [World.size_alloc])
  · exact hw _ _ _ (by simp only [World.size_alloc])
  · exact ((((Below.refl _ w).alloc (Nat.le_refl _) _).alloc (by simp) _).alloc (by simp; omega) _).alloc (by simp; omega) _
set_option maxHeartbeats 4000000 in
theorem draw_bad {w : World} {A : Option Addr} {n c e : Nat} (bits : Int) (he : e < 18446744073709551616) (h : Int.tmod bits 2 ≠ 0 ∨ bits < 16 ∨ 1024 < bits ∨ (decide (e % 2 = 1) && decide (3 ≤ e)) = false) :
    Calls Tryz.prog 11 #[.slice A n c, .int .i64 bits, .int .u64 (e : Int)] w (DrawBad w) := by
  have hpw := fun W => mayPower_any e he W
  generalize (decide (e % 2 = 1) && decide (3 ≤ e)) = ok at *
  have Hpw := Lib.hid hpw
  clear hpw
  refine (callsIn_wide (n := 9)).1 ?_
  refine callsIn_of_wp_marks Tryz.func11 rfl trivial ?_ rfl
  simp only [Tryz.ntmps11, List.size_toArray, List.length_cons, List.length_nil, Nat.reduceAdd, Nat.reduceSub, Array.replicate_succ, Array.replicate_zero, List.push_toArray, List.append_toArray, List.nil_append, List.cons_append]
  by_cases c1 : Int.tmod bits 2 = 0
  · by_cases c2 : bits < 16
    · gi_wp2_with fail
      refine ⟨trivial, ?_⟩
      gi_wp2_with fail
      obtain ⟨x1, x2, x3, xb⟩ := start_of w e 1
      exact ⟨_, results_three (g := w.heap.size) rfl rfl rfl x1 x2 x3, rfl, xb⟩
    · by_cases c3 : 1024 < bits
      · gi_wp2_with fail
        refine ⟨trivial, ?_⟩
        gi_wp2_with fail
        obtain ⟨x1, x2, x3, xb⟩ := start_of w e 1
        exact ⟨_, results_three (g := w.heap.size) rfl rfl rfl x1 x2 x3, rfl, xb⟩
      · have hok : ok = false := by
          rcases h with h | h | h | h
          · exact absurd c1 h
          · exact absurd h c2
          · exact absurd h c3
          · exact h
        subst hok
        gi_wp2_with fail
        refine ⟨trivial, (callsIn_wide.2 (Hpw.out _)).mono ?_⟩
        rintro r w1 ⟨rfl, rfl⟩
        gi_wp2_with fail
        obtain ⟨x1, x2, x3, xb⟩ := start_of w e 1
        exact ⟨_, results_three (g := w.heap.size) rfl rfl rfl x1 x2 x3, rfl, xb⟩
  · have c1' : (Int.tmod bits 2 != 0) = true := by simpa using c1
    gi_wp2_with fail
    refine ⟨trivial, ?_⟩
    gi_wp2_with fail
    obtain ⟨x1, x2, x3, xb⟩ := start_of w e 1
    exact ⟨_, results_three (g := w.heap.size) rfl rfl rfl x1 x2 x3, rfl, xb⟩
end Go.Proofs.YtkhlmcknbangfaaGreatDoor
