/- A range over a function whose body goes on, or returns for the function around it. -/
import Derived.Test.YtompggkdjbkjjaaWiR6
namespace Go.Proofs.Ytompggkdjbkjjaa.Wi
open Go.RowKit Go.Shelf
set_option linter.unusedVariables false
set_option maxRecDepth 100000
/-- the iterator's word: N rounds, the k-th is handed vs k; a round may end it -/
def Yields (F : Fence) (n : Nat) (P : Program) (gf : FuncId) (lb : Array Value) (B0 N : Nat) (vs : Nat → Array Value) (Kp : World → World → Prop) (w : World) : Prop :=
  ∀ (l : Nat) (J Jx : Nat → World → Prop) (W : World), RowKit.Below B0 w W → (∀ k A B, J k A → A.grownBy B none → J k B) →
    (∀ k W1, J k W1 → k < N → YieldAt F (n - 1) P l (vs k) W1 fun e W' => (e = .returned (.bool true) ∧ J (k + 1) W' ∧ Kp W1 W') ∨ (e = .returned (.bool false) ∧ Jx k W')) →
    J 0 W → CallsIn F n P gf (#[.func (.yield l) #[] #[]] ++ lb) W fun e W' => (∃ v, e = .returned v) ∧ (J N W' ∨ ∃ k, k < N ∧ Jx k W')
theorem range_stops {P : Program} {F : Fence} {n : Nat} {g : Operand} {ps : Array Tmp} {assign body : Code} {Q : Exit → Act → World → Prop} {a : Act} {w : World}
    (hro : F.round = none) (h1 : 1 ≤ n) {gf : FuncId} {lb : Array Value} (hg : a.eval g = .func (.func gf) #[] lb) (hFg : F.fn gf) (eg : ∀ args w, (callFunc gf args).run P w = .ok (.enter gf args) w)
    {N : Nat} {vs : Nat → Array Value} {Kp : World → World → Prop} (hseq : Yields F (n - 1) P gf lb w.heap.size N vs Kp w) (hps : ∀ k, (vs k).size = ps.size)
    (hKt : ∀ A B C, Kp A B → Kp B C → Kp A C) (hKb : ∀ (A : World) (l : Nat) (o o' : Obj), w.heap.size ≤ l → A.heap[l]? = some o → o.isCells = false → Kp A (A.putObj l o'))
    (J Jx : Nat → World → Prop) (hJ : OwnFrom w.heap.size J) (hJx : OwnFrom w.heap.size Jx) (h0 : J 0 w) (a₁ : Nat → Act)
    (hassign : ∀ (l k : Nat) (W : World) (K : Act → World → Prop), K (a₁ k) W →
      assign.wpIn (F.inRound l) (n - 1 - 1) P (Exit.then K (fun _ _ _ => False)) { tmps := (ps.zip (vs k)).foldl (fun t (x : Tmp × Value) => t.setIfInBounds x.1 x.2) a.tmps, defers := [] } W)
    (hbody : ∀ (l k : Nat) (W : World), J k W → k < N →
      body.wpIn (F.inRound l) (n - 1 - 1) P (fun e _ W' => KeepsOthers W W' ∧ ((e = .normal ∧ Kp W W' ∧ J (k + 1) W') ∨ (e = .ret ∧ Jx k W'))) (a₁ k) W)
    (hdone : ∀ (D : Nat) (W : World), w.heap.size ≤ D → J N W → W.heap[D]? = some (.deferred (some [])) → Q .normal { a with defers := { target := .collected D, args := #[] } :: a.defers } W)
    (hstop : ∀ (D k : Nat) (W : World), w.heap.size ≤ D → k < N → Jx k W → W.heap[D]? = some (.deferred (some [])) → Code.ret.wpIn F n P Q { a with defers := { target := .collected D, args := #[] } :: a.defers } W) :
    (Code.rangeFunc g ps assign body).wpIn F n P Q a w := by
  refine wpIn_rangeFunc fun fn hfn => ?_
  rw [hro]
  obtain ⟨rec, hrec⟩ : ∃ rec : LoopState → Option Code → Loop, rec = fun st pe => { state := st, pending := pe, fn, tmps := a.tmps, params := ps, assign, body, defers := w.heap.size } := ⟨_, rfl⟩
  have hsize : ((w.alloc (.deferred (some []))).alloc (.loop (rec .ready none))).heap.size = w.heap.size + 2 := by simp
  have hbel : RowKit.Below w.heap.size w ((w.alloc (.deferred (some []))).alloc (.loop (rec .ready none))) := ((RowKit.Below.refl _ w).alloc (Nat.le_refl _) _).alloc (by simp) _
  have hloop : ((w.alloc (.deferred (some []))).alloc (.loop (rec .ready none))).heap[w.heap.size + 1]? = some (.loop (rec .ready none)) := by
    have := World.alloc_heap_new (w.alloc (.deferred (some []))) (.loop (rec .ready none))
    rwa [World.size_alloc] at this
  have hdef : ((w.alloc (.deferred (some []))).alloc (.loop (rec .ready none))).heap[w.heap.size]? = some (.deferred (some [])) := (Below.heap_alloc _ _ _ (by simp)).trans (World.alloc_heap_new w _)
  have hj1 : J 0 ((w.alloc (.deferred (some []))).alloc (.loop (rec .ready none))) := hJ.alloc _ (hJ.alloc _ h0)
  have henter := run_enterLoop_outer (P := P) (w := w) fn a.tmps ps assign body
  rw [show ({ state := .ready, pending := none, fn, tmps := a.tmps, params := ps, assign, body, defers := w.heap.size } : Loop) = rec .ready none by rw [hrec]] at henter
  generalize (w.alloc (.deferred (some []))).alloc (.loop (rec .ready none)) = w1 at *
  refine ⟨w.heap.size + 1, [{ target := .collected w.heap.size, args := #[] }], w1, { target := .fn (.func gf) lb, args := #[.func (.yield (w.heap.size + 1)) #[] #[]] }, w1, gf,
    #[.func (.yield (w.heap.size + 1)) #[] #[]] ++ lb, w1, henter, ?_, ?_, ?_, fun _ => h1, ?_⟩
  · simp only [resolve, hg]; simp [go_sem]
  · intro f' hf'; simp [Target.leads] at hf'; subst hf'; exact hFg
  · simp [invoke, go_sem, eg]
  let J2 : Nat → World → Prop := fun k W => J k W ∧ W.heap[w.heap.size + 1]? = some (.loop (rec .ready none)) ∧ W.heap[w.heap.size]? = some (.deferred (some []))
  let Jx2 : Nat → World → Prop := fun k W => Jx k W ∧ W.heap[w.heap.size + 1]? = some (.loop (rec .done (some .ret))) ∧ W.heap[w.heap.size]? = some (.deferred (some []))
  have hj2 : J2 0 w1 := ⟨hj1, hloop, hdef⟩
  refine (hseq (w.heap.size + 1) J2 Jx2 w1 hbel ?_ ?_ hj2).mono ?_
  · intro k A B h hg
    exact ⟨hJ k A B none h.1 hg (fun _ e => by cases e), (hg.block _ (Array.getElem?_eq_some_iff.1 h.2.1).1 (by simp)).trans h.2.1, (hg.block _ (Array.getElem?_eq_some_iff.1 h.2.2).1 (by simp)).trans h.2.2⟩
  · rintro k W ⟨hj, hl, hd⟩ hk
    have hlt : w.heap.size + 1 < W.heap.size := (Array.getElem?_eq_some_iff.1 hl).1
    have hy := run_yield (P := P) (args := vs k) hl (by rw [hrec]; exact hps k)
    rw [hrec] at hy
    refine ⟨fn, _, assign, body, hy, roundIn_of_wpIn hfn ?_⟩
    refine hassign (w.heap.size + 1) k W _ ?_
    refine ⟨_, run_beginRound hl (by rw [hrec]), ?_⟩
    have hb : ({ rec .ready none with state := .busy } : Loop) = rec .busy none := by rw [hrec]
    rw [hb]
    have hl2 : (W.putObj (w.heap.size + 1) (.loop (rec .busy none))).heap[w.heap.size + 1]? = some (.loop (rec .busy none)) := World.putObj_heap_same hlt
    have hd2 : (W.putObj (w.heap.size + 1) (.loop (rec .busy none))).heap[w.heap.size]? = some (.deferred (some [])) := (World.putObj_heap_other (by omega)).trans hd
    refine wpIn_mono (hbody _ k _ (hJ.putObj _ hj (by omega) hl rfl) hk) ?_
    rintro e a3 W3 ⟨hko, (⟨rfl, hbl, hj3⟩ | ⟨rfl, hx3⟩)⟩
    · have hl3 := hko.same _ _ hl2 rfl
      have he := run_endRound (P := P) none hl3
      have hb3 : ({ rec .busy none with state := (if (none : Option Code).isNone then .ready else .done), pending := none } : Loop) = rec .ready none := by rw [hrec]; rfl
      rw [hb3] at he
      exact ⟨_, _, he, .inl ⟨rfl, ⟨hJ.putObj _ hj3 (by omega) hl3 rfl, World.putObj_heap_same (Array.getElem?_eq_some_iff.1 hl3).1, (World.putObj_heap_other (by omega)).trans (hko.same _ _ hd2 rfl)⟩,
        hKt _ _ _ (hKt _ _ _ (hKb W _ _ _ (by omega) hl rfl) hbl) (hKb W3 _ _ _ (by omega) hl3 rfl)⟩⟩
    · have hl3 := hko.same _ _ hl2 rfl
      have he := run_endRound (P := P) (some .ret) hl3
      have hb3 : ({ rec .busy none with state := (if (some Code.ret : Option Code).isNone then .ready else .done), pending := some .ret } : Loop) = rec .done (some .ret) := by rw [hrec]; rfl
      rw [hb3] at he
      exact ⟨_, _, he, .inr ⟨rfl, hJx.putObj _ hx3 (by omega) hl3 rfl, World.putObj_heap_same (Array.getElem?_eq_some_iff.1 hl3).1, (World.putObj_heap_other (by omega)).trans (hko.same _ _ hd2 rfl)⟩⟩
  · rintro e W2 ⟨⟨v, rfl⟩, (⟨hj, hl, hd⟩ | ⟨k, hk, hj, hl, hd⟩)⟩
    · have he := run_endLoop (P := P) hl (by rw [hrec]; simp)
      rw [show (rec .ready none).pending = none by rw [hrec]] at he
      refine ⟨none, _, he, ?_⟩
      exact hdone _ _ (Nat.le_refl _) (hJ.putObj _ hj (by omega) hl rfl) ((World.putObj_heap_other (by omega)).trans hd)
    · have he := run_endLoop (P := P) hl (by rw [hrec]; simp)
      rw [show (rec .done (some .ret)).pending = some .ret by rw [hrec]] at he
      refine ⟨some .ret, _, he, ?_⟩
      exact hstop _ k _ (Nat.le_refl _) hk (hJx.putObj _ hj (by omega) hl rfl) ((World.putObj_heap_other (by omega)).trans hd)
end Go.Proofs.Ytompggkdjbkjjaa.Wi
