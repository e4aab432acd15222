/- A range over a function whose body writes cells and maps, goes on, or returns for the function around it. -/
import Derived.Test.YtompggkdjbkjjaaB1
namespace Go.Proofs.Ytompggkdjbkjjaa
open Go.RowKit Go.Shelf
set_option linter.unusedVariables false
set_option maxRecDepth 100000
/-- the records of loops and of deferred calls -/
def isBook : Obj → Bool
  | .loop .. => true
  | .deferred .. => true
  | _ => false
structure KeepsBook (W W' : World) : Prop where
  size : W.heap.size ≤ W'.heap.size
  same : ∀ (k : Nat) (o : Obj), W.heap[k]? = some o → isBook o = true → W'.heap[k]? = some o
theorem KeepsBook.refl (W : World) : KeepsBook W W := ⟨Nat.le_refl _, fun _ _ h _ => h⟩
theorem KeepsBook.trans {A B C : World} (h : KeepsBook A B) (k : KeepsBook B C) : KeepsBook A C := ⟨Nat.le_trans h.size k.size, fun i o hi ho => k.same i o (h.same i o hi ho) ho⟩
theorem KeepsBook.of_grownBy {W W' : World} {row : Option Nat} (hg : W.grownBy W' row) (hrow : ∀ (j : Nat) (o : Obj), row = some j → W.heap[j]? = some o → isBook o = false) : KeepsBook W W' :=
  ⟨hg.size, fun k o hk ho => by
    refine (hg.block k (Array.getElem?_eq_some_iff.1 hk).1 ?_).trans hk
    intro e
    rw [hrow k o e.symm hk] at ho; cases ho⟩
/-- what the body leaves: all cells, and all maps but one -/
def KpB (b : Nat) (A B : World) : Prop := A.heap.size ≤ B.heap.size ∧ (∀ p : Addr, p.block < A.heap.size → B.cell? p = A.cell? p) ∧ ∀ q, q < A.heap.size → q ≠ b → (∃ es c, A.heap[q]? = some (.map es c)) → B.heap[q]? = A.heap[q]?
theorem KpB.refl (b : Nat) (A : World) : KpB b A A := ⟨Nat.le_refl _, fun _ _ => rfl, fun _ _ _ _ => rfl⟩
theorem KpB.trans {b : Nat} {A B C : World} (h : KpB b A B) (k : KpB b B C) : KpB b A C :=
  ⟨Nat.le_trans h.1 k.1, fun p hp => (k.2.1 p (Nat.lt_of_lt_of_le hp h.1)).trans (h.2.1 p hp), fun q hq hb hm => by
    have e := h.2.2 q hq hb hm
    exact (k.2.2 q (Nat.lt_of_lt_of_le hq h.1) hb (by rw [e]; exact hm)).trans e⟩
theorem KpB.of_below {b : Nat} {A B : World} (h : RowKit.Below A.heap.size A B) : KpB b A B := ⟨h.size, fun p hp => h.cell hp, fun q hq _ _ => h.block q hq⟩
theorem KpB.of_grown {b : Nat} {A B : World} (h : A.grownBy B (some b)) (hA : ∃ es c, A.heap[b]? = some (.map es c)) (hB : ∃ es c, B.heap[b]? = some (.map es c)) : KpB b A B :=
  ⟨h.size, fun p hp => by
    by_cases e : p.block = b
    · obtain ⟨es, c, h1⟩ := hA
      obtain ⟨fs, d, h2⟩ := hB
      rw [← e] at h1 h2
      simp [World.cell?, h1, h2]
    · exact World.cell?_of_block (h.block _ hp (by simpa using e)), fun q hq hb _ => h.block q hq (by simpa using hb)⟩
theorem KpB.put {b : Nat} {A : World} {l : Nat} {r r' : Loop} (h : A.heap[l]? = some (.loop r)) : KpB b A (A.putObj l (.loop r')) := by
  have hl : l < A.heap.size := (Array.getElem?_eq_some_iff.1 h).1
  refine ⟨by simp, fun p hp => ?_, fun q hq _ hm => ?_⟩
  · by_cases e : p.block = l
    · have h1 := h
      have h2 : (A.putObj l (.loop r')).heap[l]? = some (.loop r') := World.putObj_heap_same hl
      rw [← e] at h1 h2
      simp [World.cell?, h1]
      rw [← e]
      simp [h2]
    · exact World.cell?_of_block (World.putObj_heap_other e)
  · by_cases e : q = l
    · subst e
      obtain ⟨es, c, h1⟩ := hm
      rw [h] at h1
      cases h1
    · exact World.putObj_heap_other e
theorem range_book {P : Program} {F : Fence} {n : Nat} {g : Operand} {ps : Array Tmp} {assign body : Code} {Q : Exit → Act → World → Prop} {a : Act} {w : World}
    (hro : F.round = none) (h1 : 1 ≤ n) {gf : FuncId} {lb : Array Value} (hg : a.eval g = .func (.func gf) #[] lb) (hFg : F.fn gf) (eg : ∀ args w, (callFunc gf args).run P w = .ok (.enter gf args) w)
    {N : Nat} {vs : Nat → Array Value} {Kp : World → World → Prop} (hseq : Wi.Yields F (n - 1) P gf lb w.heap.size N vs Kp w) (hps : ∀ k, (vs k).size = ps.size)
    (hKt : ∀ A B C, Kp A B → Kp B C → Kp A C) (hKb : ∀ (A : World) (l : Nat) (r r' : Loop), w.heap.size ≤ l → A.heap[l]? = some (.loop r) → Kp A (A.putObj l (.loop r')))
    (J Jx : Nat → World → Prop) (hJ : OwnFrom w.heap.size J) (hJx : OwnFrom w.heap.size Jx) (h0 : J 0 w) (a₁ : Nat → Act)
    (hassign : ∀ (l k : Nat) (W : World) (K : Act → World → Prop), K (a₁ k) W →
      assign.wpIn (F.inRound l) (n - 1 - 1) P (Exit.then K (fun _ _ _ => False)) { tmps := (ps.zip (vs k)).foldl (fun t (x : Tmp × Value) => t.setIfInBounds x.1 x.2) a.tmps, defers := [] } W)
    (hbody : ∀ (l k : Nat) (W : World), J k W → k < N →
      body.wpIn (F.inRound l) (n - 1 - 1) P (fun e _ W' => KeepsBook W W' ∧ ((e = .normal ∧ Kp W W' ∧ J (k + 1) W') ∨ (e = .ret ∧ Jx k W'))) (a₁ k) W)
    (hdone : ∀ (D : Nat) (W : World), w.heap.size ≤ D → J N W → W.heap[D]? = some (.deferred (some [])) → Q .normal { a with defers := { target := .collected D, args := #[] } :: a.defers } W)
    (hstop : ∀ (D k : Nat) (W : World), w.heap.size ≤ D → k < N → Jx k W → W.heap[D]? = some (.deferred (some [])) → Code.ret.wpIn F n P Q { a with defers := { target := .collected D, args := #[] } :: a.defers } W) :
    (Code.rangeFunc g ps assign body).wpIn F n P Q a w := by
  refine wpIn_rangeFunc fun fn hfn => ?_
  rw [hro]
  obtain ⟨rec, hrec⟩ : ∃ rec : LoopState → Option Code → Loop, rec = fun st pe => { state := st, pending := pe, fn, tmps := a.tmps, params := ps, assign, body, defers := w.heap.size } := ⟨_, rfl⟩
  have hsize : ((w.alloc (.deferred (some []))).alloc (.loop (rec .ready none))).heap.size = w.heap.size + 2 := by simp
  have hbel : RowKit.Below w.heap.size w ((w.alloc (.deferred (some []))).alloc (.loop (rec .ready none))) := ((RowKit.Below.refl _ w).alloc (Nat.le_refl _) _).alloc (by simp) _
  have hloop : ((w.alloc (.deferred (some []))).alloc (.loop (rec .ready none))).heap[w.heap.size + 1]? = some (.loop (rec .ready none)) := by
    have := World.alloc_heap_new (w.alloc (.deferred (some []))) (.loop (rec .ready none))
    rwa [World.size_alloc] at this
  have hdef : ((w.alloc (.deferred (some []))).alloc (.loop (rec .ready none))).heap[w.heap.size]? = some (.deferred (some [])) := (Below.heap_alloc _ _ _ (by simp)).trans (World.alloc_heap_new w _)
  have hj1 : J 0 ((w.alloc (.deferred (some []))).alloc (.loop (rec .ready none))) := hJ.alloc _ (hJ.alloc _ h0)
  have henter := run_enterLoop_outer (P := P) (w := w) fn a.tmps ps assign body
  rw [show ({ state := .ready, pending := none, fn, tmps := a.tmps, params := ps, assign, body, defers := w.heap.size } : Loop) = rec .ready none by rw [hrec]] at henter
  generalize (w.alloc (.deferred (some []))).alloc (.loop (rec .ready none)) = w1 at *
  refine ⟨w.heap.size + 1, [{ target := .collected w.heap.size, args := #[] }], w1, { target := .fn (.func gf) lb, args := #[.func (.yield (w.heap.size + 1)) #[] #[]] }, w1, gf,
    #[.func (.yield (w.heap.size + 1)) #[] #[]] ++ lb, w1, henter, ?_, ?_, ?_, fun _ => h1, ?_⟩
  · simp only [resolve, hg]; simp [go_sem]
  · intro f' hf'; simp [Target.leads] at hf'; subst hf'; exact hFg
  · simp [invoke, go_sem, eg]
  let J2 : Nat → World → Prop := fun k W => J k W ∧ W.heap[w.heap.size + 1]? = some (.loop (rec .ready none)) ∧ W.heap[w.heap.size]? = some (.deferred (some []))
  let Jx2 : Nat → World → Prop := fun k W => Jx k W ∧ W.heap[w.heap.size + 1]? = some (.loop (rec .done (some .ret))) ∧ W.heap[w.heap.size]? = some (.deferred (some []))
  have hj2 : J2 0 w1 := ⟨hj1, hloop, hdef⟩
  refine (hseq (w.heap.size + 1) J2 Jx2 w1 hbel ?_ ?_ hj2).mono ?_
  · intro k A B h hg
    exact ⟨hJ k A B none h.1 hg (fun _ e => by cases e), (hg.block _ (Array.getElem?_eq_some_iff.1 h.2.1).1 (by simp)).trans h.2.1, (hg.block _ (Array.getElem?_eq_some_iff.1 h.2.2).1 (by simp)).trans h.2.2⟩
  · rintro k W ⟨hj, hl, hd⟩ hk
    have hlt : w.heap.size + 1 < W.heap.size := (Array.getElem?_eq_some_iff.1 hl).1
    have hy := run_yield (P := P) (args := vs k) hl (by rw [hrec]; exact hps k)
    rw [hrec] at hy
    refine ⟨fn, _, assign, body, hy, roundIn_of_wpIn hfn ?_⟩
    refine hassign (w.heap.size + 1) k W _ ?_
    refine ⟨_, run_beginRound hl (by rw [hrec]), ?_⟩
    have hb : ({ rec .ready none with state := .busy } : Loop) = rec .busy none := by rw [hrec]
    rw [hb]
    have hl2 : (W.putObj (w.heap.size + 1) (.loop (rec .busy none))).heap[w.heap.size + 1]? = some (.loop (rec .busy none)) := World.putObj_heap_same hlt
    have hd2 : (W.putObj (w.heap.size + 1) (.loop (rec .busy none))).heap[w.heap.size]? = some (.deferred (some [])) := (World.putObj_heap_other (by omega)).trans hd
    refine wpIn_mono (hbody _ k _ (hJ.putObj _ hj (by omega) hl rfl) hk) ?_
    rintro e a3 W3 ⟨hko, (⟨rfl, hbl, hj3⟩ | ⟨rfl, hx3⟩)⟩
    · have hl3 := hko.same _ _ hl2 rfl
      have he := run_endRound (P := P) none hl3
      have hb3 : ({ rec .busy none with state := (if (none : Option Code).isNone then .ready else .done), pending := none } : Loop) = rec .ready none := by rw [hrec]; rfl
      rw [hb3] at he
      exact ⟨_, _, he, .inl ⟨rfl, ⟨hJ.putObj _ hj3 (by omega) hl3 rfl, World.putObj_heap_same (Array.getElem?_eq_some_iff.1 hl3).1, (World.putObj_heap_other (by omega)).trans (hko.same _ _ hd2 rfl)⟩,
        hKt _ _ _ (hKt _ _ _ (hKb W _ _ _ (by omega) hl) hbl) (hKb W3 _ _ _ (by omega) hl3)⟩⟩
    · have hl3 := hko.same _ _ hl2 rfl
      have he := run_endRound (P := P) (some .ret) hl3
      have hb3 : ({ rec .busy none with state := (if (some Code.ret : Option Code).isNone then .ready else .done), pending := some .ret } : Loop) = rec .done (some .ret) := by rw [hrec]; rfl
      rw [hb3] at he
      exact ⟨_, _, he, .inr ⟨rfl, hJx.putObj _ hx3 (by omega) hl3 rfl, World.putObj_heap_same (Array.getElem?_eq_some_iff.1 hl3).1, (World.putObj_heap_other (by omega)).trans (hko.same _ _ hd2 rfl)⟩⟩
  · rintro e W2 ⟨⟨v, rfl⟩, (⟨hj, hl, hd⟩ | ⟨k, hk, hj, hl, hd⟩)⟩
    · have he := run_endLoop (P := P) hl (by rw [hrec]; simp)
      rw [show (rec .ready none).pending = none by rw [hrec]] at he
      refine ⟨none, _, he, ?_⟩
      exact hdone _ _ (Nat.le_refl _) (hJ.putObj _ hj (by omega) hl rfl) ((World.putObj_heap_other (by omega)).trans hd)
    · have he := run_endLoop (P := P) hl (by rw [hrec]; simp)
      rw [show (rec .done (some .ret)).pending = some .ret by rw [hrec]] at he
      refine ⟨some .ret, _, he, ?_⟩
      exact hstop _ k _ (Nat.le_refl _) hk (hJx.putObj _ hj (by omega) hl rfl) ((World.putObj_heap_other (by omega)).trans hd)
theorem range_boxed {P : Program} {F : Fence} {n : Nat} {g : Operand} {ps : Array Tmp} {assign body : Code} {Q : Exit → Act → World → Prop} {a : Act} {w : World}
    (hro : F.round = none) (h1 : 1 ≤ n) {gf : FuncId} {lb : Array Value} (hg : a.eval g = .func (.func gf) #[] lb) (hFg : F.fn gf) (eg : ∀ args w, (callFunc gf args).run P w = .ok (.enter gf args) w)
    {N : Nat} {vs : Nat → Array Value} {Kp : World → World → Prop} (hseq : Wi.Yields F (n - 1) P gf lb w.heap.size N vs Kp w) (hps : ∀ k, (vs k).size = ps.size)
    (hKt : ∀ A B C, Kp A B → Kp B C → Kp A C) (hKb : ∀ (A : World) (l : Nat) (r r' : Loop), w.heap.size ≤ l → A.heap[l]? = some (.loop r) → Kp A (A.putObj l (.loop r')))
    (J Jx : Nat → World → Prop) (hJ : OwnFrom w.heap.size J) (hJx : OwnFrom w.heap.size Jx) (h0 : J 0 w) (o : Nat → Obj) (hKa : ∀ (A : World) (q : Obj), Kp A (A.alloc q)) (a₁ : Nat → Nat → Act)
    (hassign : ∀ (l k : Nat) (W : World) (K : Act → World → Prop), K (a₁ k W.heap.size) (W.alloc (o k)) →
      assign.wpIn (F.inRound l) (n - 1 - 1) P (Exit.then K (fun _ _ _ => False)) { tmps := (ps.zip (vs k)).foldl (fun t (x : Tmp × Value) => t.setIfInBounds x.1 x.2) a.tmps, defers := [] } W)
    (hbody : ∀ (l k s : Nat) (W : World), J k W → k < N → w.heap.size ≤ s → W.heap[s]? = some (o k) →
      body.wpIn (F.inRound l) (n - 1 - 1) P (fun e _ W' => KeepsBook W W' ∧ ((e = .normal ∧ Kp W W' ∧ J (k + 1) W') ∨ (e = .ret ∧ Jx k W'))) (a₁ k s) W)
    (hdone : ∀ (D : Nat) (W : World), w.heap.size ≤ D → J N W → W.heap[D]? = some (.deferred (some [])) → Q .normal { a with defers := { target := .collected D, args := #[] } :: a.defers } W)
    (hstop : ∀ (D k : Nat) (W : World), w.heap.size ≤ D → k < N → Jx k W → W.heap[D]? = some (.deferred (some [])) → Code.ret.wpIn F n P Q { a with defers := { target := .collected D, args := #[] } :: a.defers } W) :
    (Code.rangeFunc g ps assign body).wpIn F n P Q a w := by
  refine wpIn_rangeFunc fun fn hfn => ?_
  rw [hro]
  obtain ⟨rec, hrec⟩ : ∃ rec : LoopState → Option Code → Loop, rec = fun st pe => { state := st, pending := pe, fn, tmps := a.tmps, params := ps, assign, body, defers := w.heap.size } := ⟨_, rfl⟩
  have hsize : ((w.alloc (.deferred (some []))).alloc (.loop (rec .ready none))).heap.size = w.heap.size + 2 := by simp
  have hbel : RowKit.Below w.heap.size w ((w.alloc (.deferred (some []))).alloc (.loop (rec .ready none))) := ((RowKit.Below.refl _ w).alloc (Nat.le_refl _) _).alloc (by simp) _
  have hloop : ((w.alloc (.deferred (some []))).alloc (.loop (rec .ready none))).heap[w.heap.size + 1]? = some (.loop (rec .ready none)) := by
    have := World.alloc_heap_new (w.alloc (.deferred (some []))) (.loop (rec .ready none))
    rwa [World.size_alloc] at this
  have hdef : ((w.alloc (.deferred (some []))).alloc (.loop (rec .ready none))).heap[w.heap.size]? = some (.deferred (some [])) := (Below.heap_alloc _ _ _ (by simp)).trans (World.alloc_heap_new w _)
  have hj1 : J 0 ((w.alloc (.deferred (some []))).alloc (.loop (rec .ready none))) := hJ.alloc _ (hJ.alloc _ h0)
  have henter := run_enterLoop_outer (P := P) (w := w) fn a.tmps ps assign body
  rw [show ({ state := .ready, pending := none, fn, tmps := a.tmps, params := ps, assign, body, defers := w.heap.size } : Loop) = rec .ready none by rw [hrec]] at henter
  generalize (w.alloc (.deferred (some []))).alloc (.loop (rec .ready none)) = w1 at *
  refine ⟨w.heap.size + 1, [{ target := .collected w.heap.size, args := #[] }], w1, { target := .fn (.func gf) lb, args := #[.func (.yield (w.heap.size + 1)) #[] #[]] }, w1, gf,
    #[.func (.yield (w.heap.size + 1)) #[] #[]] ++ lb, w1, henter, ?_, ?_, ?_, fun _ => h1, ?_⟩
  · simp only [resolve, hg]; simp [go_sem]
  · intro f' hf'; simp [Target.leads] at hf'; subst hf'; exact hFg
  · simp [invoke, go_sem, eg]
  let J2 : Nat → World → Prop := fun k W => J k W ∧ W.heap[w.heap.size + 1]? = some (.loop (rec .ready none)) ∧ W.heap[w.heap.size]? = some (.deferred (some []))
  let Jx2 : Nat → World → Prop := fun k W => Jx k W ∧ W.heap[w.heap.size + 1]? = some (.loop (rec .done (some .ret))) ∧ W.heap[w.heap.size]? = some (.deferred (some []))
  have hj2 : J2 0 w1 := ⟨hj1, hloop, hdef⟩
  refine (hseq (w.heap.size + 1) J2 Jx2 w1 hbel ?_ ?_ hj2).mono ?_
  · intro k A B h hg
    exact ⟨hJ k A B none h.1 hg (fun _ e => by cases e), (hg.block _ (Array.getElem?_eq_some_iff.1 h.2.1).1 (by simp)).trans h.2.1, (hg.block _ (Array.getElem?_eq_some_iff.1 h.2.2).1 (by simp)).trans h.2.2⟩
  · rintro k W ⟨hj, hl, hd⟩ hk
    have hlt : w.heap.size + 1 < W.heap.size := (Array.getElem?_eq_some_iff.1 hl).1
    have hy := run_yield (P := P) (args := vs k) hl (by rw [hrec]; exact hps k)
    rw [hrec] at hy
    refine ⟨fn, _, assign, body, hy, roundIn_of_wpIn hfn ?_⟩
    refine hassign (w.heap.size + 1) k W _ ?_
    obtain ⟨Wn, hWn⟩ : ∃ Wn, Wn = W.alloc (o k) := ⟨_, rfl⟩
    have hbn : RowKit.Below W.heap.size W Wn := by rw [hWn]; exact (Below.refl _ _).alloc (Nat.le_refl _) _
    have hjn : J k Wn := by rw [hWn]; exact hJ.alloc _ hj
    have hkn : Kp W Wn := by rw [hWn]; exact hKa W _
    have hon : Wn.heap[W.heap.size]? = some (o k) := by rw [hWn]; exact heap_alloc_new W _
    rw [← hWn]
    have hln := (hbn.block _ hlt).trans hl
    have hdn := (hbn.block _ (by omega)).trans hd
    have hltn : w.heap.size + 1 < Wn.heap.size := (Array.getElem?_eq_some_iff.1 hln).1
    refine ⟨_, run_beginRound hln (by rw [hrec]), ?_⟩
    have hb : ({ rec .ready none with state := .busy } : Loop) = rec .busy none := by rw [hrec]
    rw [hb]
    have hl2 : (Wn.putObj (w.heap.size + 1) (.loop (rec .busy none))).heap[w.heap.size + 1]? = some (.loop (rec .busy none)) := World.putObj_heap_same hltn
    have hd2 : (Wn.putObj (w.heap.size + 1) (.loop (rec .busy none))).heap[w.heap.size]? = some (.deferred (some [])) := (World.putObj_heap_other (by omega)).trans hdn
    refine wpIn_mono (hbody _ k W.heap.size _ (hJ.putObj _ hjn (by omega) hln rfl) hk (by omega) ((World.putObj_heap_other (by omega)).trans hon)) ?_
    rintro e a3 W3 ⟨hko, (⟨rfl, hbl, hj3⟩ | ⟨rfl, hx3⟩)⟩
    · have hl3 := hko.same _ _ hl2 rfl
      have he := run_endRound (P := P) none hl3
      have hb3 : ({ rec .busy none with state := (if (none : Option Code).isNone then .ready else .done), pending := none } : Loop) = rec .ready none := by rw [hrec]; rfl
      rw [hb3] at he
      exact ⟨_, _, he, .inl ⟨rfl, ⟨hJ.putObj _ hj3 (by omega) hl3 rfl, World.putObj_heap_same (Array.getElem?_eq_some_iff.1 hl3).1, (World.putObj_heap_other (by omega)).trans (hko.same _ _ hd2 rfl)⟩,
        hKt _ _ _ (hKt _ _ _ (hKt _ _ _ hkn (hKb Wn _ _ _ (by omega) hln)) hbl) (hKb W3 _ _ _ (by omega) hl3)⟩⟩
    · have hl3 := hko.same _ _ hl2 rfl
      have he := run_endRound (P := P) (some .ret) hl3
      have hb3 : ({ rec .busy none with state := (if (some Code.ret : Option Code).isNone then .ready else .done), pending := some .ret } : Loop) = rec .done (some .ret) := by rw [hrec]; rfl
      rw [hb3] at he
      exact ⟨_, _, he, .inr ⟨rfl, hJx.putObj _ hx3 (by omega) hl3 rfl, World.putObj_heap_same (Array.getElem?_eq_some_iff.1 hl3).1, (World.putObj_heap_other (by omega)).trans (hko.same _ _ hd2 rfl)⟩⟩
  · rintro e W2 ⟨⟨v, rfl⟩, (⟨hj, hl, hd⟩ | ⟨k, hk, hj, hl, hd⟩)⟩
    · have he := run_endLoop (P := P) hl (by rw [hrec]; simp)
      rw [show (rec .ready none).pending = none by rw [hrec]] at he
      refine ⟨none, _, he, ?_⟩
      exact hdone _ _ (Nat.le_refl _) (hJ.putObj _ hj (by omega) hl rfl) ((World.putObj_heap_other (by omega)).trans hd)
    · have he := run_endLoop (P := P) hl (by rw [hrec]; simp)
      rw [show (rec .done (some .ret)).pending = some .ret by rw [hrec]] at he
      refine ⟨some .ret, _, he, ?_⟩
      exact hstop _ k _ (Nat.le_refl _) hk (hJx.putObj _ hj (by omega) hl rfl) ((World.putObj_heap_other (by omega)).trans hd)
theorem range_boxed2 {P : Program} {F : Fence} {n : Nat} {g : Operand} {p1 p2 : Tmp} {assign body : Code} {Q : Exit → Act → World → Prop} {a : Act} {w : World} (u1 u2 : Nat → Value)
    (hro : F.round = none) (h1 : 1 ≤ n) {gf : FuncId} {lb : Array Value} (hg : a.eval g = .func (.func gf) #[] lb) (hFg : F.fn gf) (eg : ∀ args w, (callFunc gf args).run P w = .ok (.enter gf args) w)
    {N : Nat} {Kp : World → World → Prop} (hseq : Wi.Yields F (n - 1) P gf lb w.heap.size N (fun k => #[u1 k, u2 k]) Kp w) 
    (hKt : ∀ A B C, Kp A B → Kp B C → Kp A C) (hKb : ∀ (A : World) (l : Nat) (r r' : Loop), w.heap.size ≤ l → A.heap[l]? = some (.loop r) → Kp A (A.putObj l (.loop r')))
    (J Jx : Nat → World → Prop) (hJ : OwnFrom w.heap.size J) (hJx : OwnFrom w.heap.size Jx) (h0 : J 0 w) (o : Nat → Obj) (hKa : ∀ (A : World) (q : Obj), Kp A (A.alloc q)) (a₁ : Nat → Nat → Act)
    (hassign : ∀ (l k : Nat) (W : World) (K : Act → World → Prop), K (a₁ k W.heap.size) (W.alloc (o k)) →
      assign.wpIn (F.inRound l) (n - 1 - 1) P (Exit.then K (fun _ _ _ => False)) { tmps := (a.tmps.setIfInBounds p1 (u1 k)).setIfInBounds p2 (u2 k), defers := [] } W)
    (hbody : ∀ (l k s : Nat) (W : World), J k W → k < N → w.heap.size ≤ s → W.heap[s]? = some (o k) →
      body.wpIn (F.inRound l) (n - 1 - 1) P (fun e _ W' => KeepsBook W W' ∧ ((e = .normal ∧ Kp W W' ∧ J (k + 1) W') ∨ (e = .ret ∧ Jx k W'))) (a₁ k s) W)
    (hdone : ∀ (D : Nat) (W : World), w.heap.size ≤ D → J N W → W.heap[D]? = some (.deferred (some [])) → Q .normal { a with defers := { target := .collected D, args := #[] } :: a.defers } W)
    (hstop : ∀ (D k : Nat) (W : World), w.heap.size ≤ D → k < N → Jx k W → W.heap[D]? = some (.deferred (some [])) → Code.ret.wpIn F n P Q { a with defers := { target := .collected D, args := #[] } :: a.defers } W) :
    (Code.rangeFunc g #[p1, p2] assign body).wpIn F n P Q a w :=
  range_boxed hro h1 hg hFg eg hseq (fun k => rfl) hKt hKb J Jx hJ hJx h0 o hKa a₁ (fun l k W K hK => by
    have := hassign l k W K hK
    simpa using this) hbody hdone hstop
end Go.Proofs.Ytompggkdjbkjjaa
