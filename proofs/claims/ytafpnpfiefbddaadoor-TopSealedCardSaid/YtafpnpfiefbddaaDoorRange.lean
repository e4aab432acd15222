/- A range over a function whose body always goes on, where what a round is handed is told of the world in which it begins. -/
import Derived.Test.YtafpnpfiefbddaaDoorBlocks
import Derived.RangeFuncFrom
namespace Go.Proofs.YtafpnpfiefbddaaDoor
set_option linter.unusedSimpArgs false
set_option linter.unusedVariables false
open Go.RowKit Go.Shelf
set_option linter.unusedVariables false
set_option maxRecDepth 100000

/-- the iterator's word: N rounds, each handed a value of which R holds -/
def Yields (F : Fence) (n : Nat) (P : Program) (gf : FuncId) (lb : Array Value) (B0 N : Nat) (R : Nat → Value → World → Prop) (Kp : World → World → Prop) (w : World) : Prop :=
  ∀ (l : Nat) (J : Nat → World → Prop) (W : World), Below B0 w W → (∀ k A B, J k A → A.grownBy B none → J k B) →
    (∀ k v W1, J k W1 → k < N → R k v W1 → YieldAt F (n - 1) P l #[v] W1 fun e W' => e = .returned (.bool true) ∧ J (k + 1) W' ∧ Kp W1 W') →
    J 0 W → CallsIn F n P gf (#[.func (.yield l) #[] #[]] ++ lb) W fun e W' => (∃ v, e = .returned v) ∧ J N W'

theorem range_all {P : Program} {F : Fence} {n : Nat} {g : Operand} {p : Tmp} {assign body : Code} {Q : Exit → Act → World → Prop} {a : Act} {w : World}
    (hro : F.round = none) (h1 : 1 ≤ n) {gf : FuncId} {lb : Array Value} (hg : a.eval g = .func (.func gf) #[] lb) (hFg : F.fn gf) (eg : ∀ args w, (callFunc gf args).run P w = .ok (.enter gf args) w)
    {N : Nat} {R : Nat → Value → World → Prop} {Kp : World → World → Prop} (hseq : Yields F (n - 1) P gf lb w.heap.size N R Kp w)
    (hKt : ∀ A B C, Kp A B → Kp B C → Kp A C) (hKb : ∀ (A : World) (l : Nat) (o o' : Obj), w.heap.size ≤ l → A.heap[l]? = some o → o.isCells = false → Kp A (A.putObj l o'))
    (hR : ∀ k v A l o o', R k v A → w.heap.size ≤ l → A.heap[l]? = some o → o.isCells = false → R k v (A.putObj l o'))
    (J : Nat → World → Prop) (hJ : OwnFrom w.heap.size J) (h0 : J 0 w) (a₁ : Value → Act)
    (hassign : ∀ (l : Nat) (v : Value) (W : World) (K : Act → World → Prop), K (a₁ v) W →
      assign.wpIn (F.inRound l) (n - 1 - 1) P (Exit.then K (fun _ _ _ => False)) { tmps := a.tmps.setIfInBounds p v, defers := [] } W)
    (hbody : ∀ (l k : Nat) (v : Value) (W : World), J k W → k < N → R k v W →
      body.wpIn (F.inRound l) (n - 1 - 1) P (fun e _ W' => e = .normal ∧ KeepsOthers W W' ∧ Kp W W' ∧ J (k + 1) W') (a₁ v) W)
    (hdone : ∀ (D : Nat) (W : World), w.heap.size ≤ D → J N W → W.heap[D]? = some (.deferred (some [])) → Q .normal { a with defers := { target := .collected D, args := #[] } :: a.defers } W) :
    (Code.rangeFunc g #[p] assign body).wpIn F n P Q a w := by
  refine wpIn_rangeFunc fun fn hfn => ?_
  rw [hro]
  obtain ⟨rec, hrec⟩ : ∃ rec : LoopState → Loop, ∀ st, rec st = { state := st, pending := none, fn, tmps := a.tmps, params := #[p], assign, body, defers := w.heap.size } := ⟨_, fun _ => rfl⟩
  have hsize : ((w.alloc (.deferred (some []))).alloc (.loop (rec .ready))).heap.size = w.heap.size + 2 := by simp
  have hbel : Below w.heap.size w ((w.alloc (.deferred (some []))).alloc (.loop (rec .ready))) := ((Below.refl _ w).alloc (Nat.le_refl _) _).alloc (by simp) _
  have hloop : ((w.alloc (.deferred (some []))).alloc (.loop (rec .ready))).heap[w.heap.size + 1]? = some (.loop (rec .ready)) := by
    have := World.alloc_heap_new (w.alloc (.deferred (some []))) (.loop (rec .ready))
    rwa [World.size_alloc] at this
  have hdef : ((w.alloc (.deferred (some []))).alloc (.loop (rec .ready))).heap[w.heap.size]? = some (.deferred (some [])) := (Below.heap_alloc _ _ _ (by simp)).trans (World.alloc_heap_new w _)
  have hj1 : J 0 ((w.alloc (.deferred (some []))).alloc (.loop (rec .ready))) := hJ.alloc _ (hJ.alloc _ h0)
  have henter := run_enterLoop_outer (P := P) (w := w) fn a.tmps #[p] assign body
  rw [← hrec] at henter
  generalize (w.alloc (.deferred (some []))).alloc (.loop (rec .ready)) = w1 at *
  refine ⟨w.heap.size + 1, [{ target := .collected w.heap.size, args := #[] }], w1, { target := .fn (.func gf) lb, args := #[.func (.yield (w.heap.size + 1)) #[] #[]] }, w1, gf,
    #[.func (.yield (w.heap.size + 1)) #[] #[]] ++ lb, w1, henter, ?_, ?_, ?_, fun _ => h1, ?_⟩
  · simp only [resolve, hg]; simp [go_sem]
  · intro f' hf'; simp [Target.leads] at hf'; subst hf'; exact hFg
  · simp [invoke, go_sem, eg]
  -- what the caller keeps, with the loop's own two objects
  let J2 : Nat → World → Prop := fun k W => J k W ∧ W.heap[w.heap.size + 1]? = some (.loop (rec .ready)) ∧ W.heap[w.heap.size]? = some (.deferred (some []))
  have hj2 : J2 0 w1 := ⟨hj1, hloop, hdef⟩
  refine (hseq (w.heap.size + 1) J2 w1 hbel ?_ ?_ hj2).mono ?_
  · intro k A B h hg
    exact ⟨hJ k A B none h.1 hg (fun _ e => by cases e), (hg.block _ (Array.getElem?_eq_some_iff.1 h.2.1).1 (by simp)).trans h.2.1, (hg.block _ (Array.getElem?_eq_some_iff.1 h.2.2).1 (by simp)).trans h.2.2⟩
  · rintro k v W ⟨hj, hl, hd⟩ hk hr
    have hlt : w.heap.size + 1 < W.heap.size := (Array.getElem?_eq_some_iff.1 hl).1
    have hy := run_yield (P := P) (args := #[v]) hl (by rw [hrec]; rfl)
    rw [hrec] at hy
    refine ⟨fn, _, assign, body, hy, roundIn_of_wpIn hfn ?_⟩
    rw [show (Array.foldl (fun (t : Array Value) (x : Tmp × Value) => t.setIfInBounds x.1 x.2) a.tmps (#[p].zip #[v])) = a.tmps.setIfInBounds p v by simp]
    refine hassign (w.heap.size + 1) v W _ ?_
    refine ⟨_, run_beginRound hl (by rw [hrec]), ?_⟩
    have hb : ({ rec .ready with state := .busy } : Loop) = rec .busy := by rw [hrec, hrec]
    rw [hb]
    have hl2 : (W.putObj (w.heap.size + 1) (.loop (rec .busy))).heap[w.heap.size + 1]? = some (.loop (rec .busy)) := World.putObj_heap_same hlt
    have hd2 : (W.putObj (w.heap.size + 1) (.loop (rec .busy))).heap[w.heap.size]? = some (.deferred (some [])) := (World.putObj_heap_other (by omega)).trans hd
    refine wpIn_mono (hbody _ k v _ (hJ.putObj _ hj (by omega) hl rfl) hk (hR _ _ _ _ _ _ hr (by omega) hl rfl)) ?_
    rintro e a3 W3 ⟨rfl, hko, hbl, hj3⟩
    have hl3 := hko.same _ _ hl2 rfl
    have he := run_endRound (P := P) none hl3
    have hb3 : ({ rec .busy with state := (if (none : Option Code).isNone then .ready else .done), pending := none } : Loop) = rec .ready := by rw [hrec, hrec]; rfl
    rw [hb3] at he
    exact ⟨_, _, he, rfl, ⟨hJ.putObj _ hj3 (by omega) hl3 rfl, World.putObj_heap_same (Array.getElem?_eq_some_iff.1 hl3).1, (World.putObj_heap_other (by omega)).trans (hko.same _ _ hd2 rfl)⟩,
      hKt _ _ _ (hKt _ _ _ (hKb W _ _ _ (by omega) hl rfl) hbl) (hKb W3 _ _ _ (by omega) hl3 rfl)⟩
  · rintro e W2 ⟨⟨v, rfl⟩, hj, hl, hd⟩
    have he := run_endLoop (P := P) hl (by rw [hrec]; simp)
    rw [show (rec .ready).pending = none by rw [hrec]] at he
    refine ⟨none, _, he, ?_⟩
    exact hdone _ _ (Nat.le_refl _) (hJ.putObj _ hj (by omega) hl rfl) ((World.putObj_heap_other (by omega)).trans hd)
end Go.Proofs.YtafpnpfiefbddaaDoor
