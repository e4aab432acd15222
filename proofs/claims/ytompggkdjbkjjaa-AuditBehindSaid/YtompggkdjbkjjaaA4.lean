/- audit: bytes copied, a log copied. -/
import Derived.Test.YtompggkdjbkjjaaA3
namespace Go.Proofs.Ytompggkdjbkjjaa
open Go.RowKit
set_option linter.unusedVariables false
set_option maxRecDepth 100000
theorem join_any {w : World} {B n c : Nat} {A : Option Addr} {xs : List Nat} (h : Nb w B A n c xs) (hn : n ≤ 1073741824) :
    Calls Try.prog 24 #[.slice A n c, .slice none 0 0] w fun e w' => ∃ A' c', e = .returned (.slice A' n c') ∧ Nb w' w'.heap.size A' n c' xs ∧ (∀ k, blk A' = some k → w.heap.size ≤ k) ∧ RowKit.Below w.heap.size w w' := by
  have HN := Lib.hid h
  have HG := Lib.hid (Gb.nil w w.heap.size)
  have HB := Lib.hid (Below.refl w.heap.size w)
  clear h
  go_enter Try.func24, Try.ntmps24
  go_wp2_with (at_builtin; first
    | (have _t := HG1; refine wpList_app_row_b (w0 := w) (base := w.heap.size) (ys := []) (A2 := none) (m := 0) (c2 := 0) (B := 0) _ rfl _ _ rfl rfl HG1.out rfl (Nb.nil _ 0 0 (by omega) none) (by omega) HB1.out HS.out ?_
       intro A2 c2 w2 hg2 hb2
       simp only [Nat.add_zero, List.append_nil] at hg2
       have HG2 := Lib.hid hg2
       have HB2 := Lib.hid hb2
       clear hg2 hb2)
    | (refine wpList_app_row_b (w0 := w) _ rfl _ _ rfl rfl HG.out rfl HN.out (by omega) HB.out (Nat.le_refl _) ?_
       intro A1 c1 w1 hg1 hb1
       rw [Nat.zero_add, List.nil_append] at hg1
       rw [Nat.zero_add]
       have HG1 := Lib.hid hg1
       have HB1 := Lib.hid hb1
       have HS := Lib.hid hb1.size
       clear hg1 hb1 HG))
  go_ret
  refine ⟨A2, c2, rfl, HG2.out.nb HN.out.lim, fun k hk => ?_, HB2.out⟩
  exact (Gw.blk_lt (w := w2) (cs := bs xs) HG2.out.2 k hk).1
theorem i58 : (Try.prog.info? 58).map (fun i => (i.zero, i.size, i.bytes)) = some (some (.agg #[.int .i64 0, .int .u32 0, .int .u32 0, .int .i64 0, .slice none 0 0]), 5, 48) := by kernel_rfl
/-- what an event says -/
structure Em where
  k : Int
  (h p : Nat)
  at_ : Int
  xs : List Nat
def Ev.m (x : Ev) : Em := ⟨x.k, x.h, x.p, x.at_, x.xs⟩
def ecs (E : List Ev) : List Value := E.flatMap Ev.cs
theorem ecs_len (E : List Ev) : (ecs E).length = E.length * 5 := by
  induction E with
  | nil => rfl
  | cons x E ih => simp only [ecs, List.flatMap_cons, List.length_append, List.length_cons] at ih ⊢; rw [ih]; simp [Ev.cs]; omega
theorem ecs_get {E : List Ev} {i : Nat} {x : Ev} (h : E[i]? = some x) (j : Nat) (hj : j < 5) : (ecs E)[i * 5 + j]? = x.cs[j]? := by
  induction E generalizing i with
  | nil => cases h
  | cons y E ih =>
    cases i with
    | zero =>
      cases h
      simp only [ecs, List.flatMap_cons, Nat.zero_mul, Nat.zero_add]
      rw [List.getElem?_append_left (by simpa [Ev.cs] using hj)]
    | succ i =>
      have := ih (i := i) h
      simp only [ecs, List.flatMap_cons] at this ⊢
      rw [List.getElem?_append_right (by simp [Ev.cs]; omega), ← this]
      simp only [Ev.cs, List.length_cons, List.length_nil]
      congr 1
      omega
/-- an own row of events, and their bytes in other blocks -/
def Ge (w : World) (base : Nat) (A : Option Addr) (n c : Nat) (E : List Ev) : Prop :=
  E.length = n ∧ Gw w base 58 5 A n c (ecs E) ∧ ∀ x ∈ E, Nb w w.heap.size x.A x.n x.c x.xs ∧ (x.n = 0 ∨ blk x.A ≠ blk A)
theorem Nb.blk_lt {w : World} {B n c : Nat} {A : Option Addr} {xs : List Nat} (h : Nb w B A n c xs) (hn : 0 < n) : ∃ k, blk A = some k ∧ k < B := by
  obtain ⟨b, off, rfl, hb, _⟩ := h.cell hn
  exact ⟨b, rfl, hb⟩
theorem Nb.keepb {w w' : World} {B n c : Nat} {A : Option Addr} {xs : List Nat} (h : Nb w B A n c xs) (hk : ∀ k, 0 < n → blk A = some k → k < B → w'.heap[k]? = w.heap[k]?) : Nb w' B A n c xs := by
  refine ⟨h.len, h.cap, h.room, h.lim, fun hn => ?_⟩
  obtain ⟨b, off, rfl, hb, hc⟩ := h.cell hn
  exact ⟨b, off, rfl, hb, fun j x hx => (World.cell?_of_block (hk b hn rfl hb)).trans (hc j x hx)⟩
theorem Ge.keepb {w w' : World} {base n c : Nat} {A : Option Addr} {E : List Ev} (h : Ge w base A n c E) (hb : RowKit.Below w.heap.size w w') : Ge w' base A n c E :=
  ⟨h.1, h.2.1.below hb, fun x hx => ⟨((h.2.2 x hx).1.below hb).more hb.size, (h.2.2 x hx).2⟩⟩
/-- an element more -/
theorem Ge.push {w w' : World} {base n c c' : Nat} {A A' : Option Addr} {E : List Ev} (h : Ge w base A n c E) (hg : Gr w A w' A') {x : Ev} (hx : Nb w w.heap.size x.A x.n x.c x.xs) (hne : x.n = 0 ∨ blk x.A ≠ blk A)
    (hw : Gw w' base 58 5 A' (n + 1) c' (ecs E ++ x.cs)) : Ge w' base A' (n + 1) c' (E ++ [x]) := by
  have key : ∀ y : Ev, Nb w w.heap.size y.A y.n y.c y.xs → (y.n = 0 ∨ blk y.A ≠ blk A) → Nb w' w'.heap.size y.A y.n y.c y.xs ∧ (y.n = 0 ∨ blk y.A ≠ blk A') := by
    intro y h1 h2
    refine ⟨(h1.keepb fun k hn hk hkb => hg.1.block k hkb fun e => ?_).more hg.1.size, ?_⟩
    · rcases h2 with h2 | h2
      · omega
      · exact h2 (hk.trans e)
    · rcases Nat.eq_zero_or_pos y.n with h0 | h0
      · exact .inl h0
      · refine .inr ?_
        obtain ⟨k, hk, hlt⟩ := h1.blk_lt h0
        rcases hg.2 with e | ⟨q, e, hq⟩
        · rw [e]; exact h2.resolve_left (by omega)
        · rw [e, hk]; intro e2; cases e2; omega
  refine ⟨by simp [h.1], by simpa [ecs] using hw, fun y hy => ?_⟩
  rcases List.mem_append.1 hy with hy | hy
  · exact key y (h.2.2 y hy).1 (h.2.2 y hy).2
  · simp at hy; subst hy; exact key y hx hne
theorem Ge.lg {w : World} {base n c : Nat} {A : Option Addr} {E : List Ev} (h : Ge w base A n c E) : Lg w w.heap.size A n E := by
  refine ⟨h.1, fun x hx => (h.2.2 x hx).1, ?_⟩
  rcases Nat.eq_zero_or_pos n with h0 | h0
  · exact .inl h0
  · obtain ⟨g, e, hb, hg, hc⟩ := h.2.1.cell h0 (by omega)
    refine .inr ⟨g, 0, e, hg, fun i x hi => ?_⟩
    have H := fun j hj => hc (i * 5 + j) _ ((ecs_get hi j hj).trans (List.getElem?_eq_getElem (by simpa [Ev.cs] using hj)))
    refine ⟨?_, ?_, ?_, ?_, ?_⟩
    · simpa [Ev.cs] using H 0 (by omega)
    · simpa [Ev.cs] using H 1 (by omega)
    · simpa [Ev.cs] using H 2 (by omega)
    · simpa [Ev.cs] using H 3 (by omega)
    · simpa [Ev.cs] using H 4 (by omega)
theorem below_drewN' {w0 w : World} {B : Nat} (h : RowKit.Below B w0 w) (n : Nat) : RowKit.Below B w0 (w.drewN n) := ⟨h.os, h.tape, h.output, h.size, h.block⟩
theorem bthen {B : Nat} {w0 w w' : World} (h : RowKit.Below B w0 w) (k : RowKit.Below w.heap.size w w') (hB : B ≤ w0.heap.size) : RowKit.Below B w0 w' := h.trans (k.mono (Nat.le_trans hB h.size))
end Go.Proofs.Ytompggkdjbkjjaa
