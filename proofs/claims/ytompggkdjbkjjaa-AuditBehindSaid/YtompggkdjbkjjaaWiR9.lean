/- wire: what parse has read behind some fields, and where it lies. -/
import Derived.Test.YtompggkdjbkjjaaWiR8
import Derived.Test.YtompggkdjbkjjaaWiW5
import Derived.Maps.OwnIn
namespace Go.Proofs.Ytompggkdjbkjjaa.Wi
open Go.RowKit Go.Shelf
set_option linter.unusedVariables false
set_option maxRecDepth 100000
/-- an own row, in blocks from base on -/
def Gw (w : World) (base e size : Nat) (A : Option Addr) (n c : Nat) (cs : List Value) : Prop := w.ownsRow base e size (.slice A n c) n cs
theorem Gw.nil (w : World) (base e size : Nat) : Gw w base e size none 0 0 [] := World.ownsRow_nil w base e size
theorem Gw.alloc {w : World} {base e size n c : Nat} {A : Option Addr} {cs : List Value} (h : Gw w base e size A n c cs) (o : Obj) : Gw (w.alloc o) base e size A n c cs := World.ownsRow.alloc h o
theorem Gw.blk_lt {w : World} {base e size n c : Nat} {A : Option Addr} {cs : List Value} (h : Gw w base e size A n c cs) : ∀ k, blk A = some k → base ≤ k ∧ k < w.heap.size := by
  intro k hk
  rcases h.2 with ⟨e, _⟩ | ⟨g, cap, cur, e, hg, hh, _⟩
  · cases e; cases hk
  · cases e
    cases hk
    refine ⟨hg, ?_⟩
    rcases Nat.lt_or_ge g w.heap.size with hlt | hge
    · exact hlt
    · rw [Array.getElem?_eq_none hge] at hh; cases hh
theorem Gw.keep {w w' : World} {base e size n c : Nat} {A : Option Addr} {cs : List Value} (h : Gw w base e size A n c cs) (hk : ∀ k, blk A = some k → w'.heap[k]? = w.heap[k]?) : Gw w' base e size A n c cs := by
  refine ⟨h.1, ?_⟩
  rcases h.2 with h' | ⟨g, cap, cur, e, hg, hh, hr⟩
  · exact Or.inl h'
  · cases e
    exact Or.inr ⟨g, _, cur, rfl, hg, (hk g rfl).trans hh, hr⟩
theorem Gw.below {w w' : World} {base e size n c : Nat} {A : Option Addr} {cs : List Value} (h : Gw w base e size A n c cs) (b : RowKit.Below w.heap.size w w') : Gw w' base e size A n c cs :=
  h.keep fun k hk => b.block k (h.blk_lt k hk).2
theorem Gw.cell {w : World} {base e size n c : Nat} {A : Option Addr} {cs : List Value} (h : Gw w base e size A n c cs) (hn : 0 < n) (hs : 0 < size) : ∃ g, A = some ⟨g, 0, none⟩ ∧ base ≤ g ∧ g < w.heap.size ∧ ∀ j u, cs[j]? = some u → w.cell? ⟨g, j, none⟩ = some u := by
  rcases h.2 with ⟨e, h0⟩ | ⟨g, cap, cur, e, hg, hh, _, _, _, ht⟩
  · omega
  · cases e
    refine ⟨g, rfl, hg, ?_, fun j u hj => ?_⟩
    · rcases Nat.lt_or_ge g w.heap.size with hlt | hge
      · exact hlt
      · rw [Array.getElem?_eq_none hge] at hh; cases hh
    · rw [cell_of_row w g j cur e (0, 0) hh]
      rw [← ht, List.getElem?_take] at hj
      split at hj
      · simpa using hj
      · cases hj
theorem own_shape' {w : World} {base e size n : Nat} {v : Value} {xs : List Value} (h : w.ownsRow base e size v n xs) : ∃ A c, v = .slice A n c := by
  rcases h.2 with ⟨rfl, rfl⟩ | ⟨g, cap, cur, rfl, _⟩
  · exact ⟨_, _, rfl⟩
  · exact ⟨_, _, rfl⟩

/-- the bytes of a field -/
def fdx (xs : List Nat) (p : Nat × Nat) : List Nat := (xs.drop p.1).take p.2
/-- what is read of fields: where the first lies that is none, or they all, and where they end -/
def goF (xs : List Nat) : List (Nat × Nat) → List Ex → Nat → Nat ⊕ (List Ex × Nat)
  | [], acc, e => .inr (acc, e)
  | p :: r, acc, e => match exOf (fdx xs p) with
    | none => .inl p.1
    | some x => if acc.length = 8 then .inl p.1 else goF xs r (acc ++ [x]) (p.1 + p.2)
theorem fds_ok (xs : List Nat) (f : Nat) : ∀ a, a ≤ xs.length → ∀ p ∈ fds xs f a, p.1 ≤ xs.length ∧ (p.2 = 0 ∨ (24 ≤ p.2 ∧ p.1 + p.2 ≤ xs.length)) := by
  induction f with
  | zero => intro a _ p hp; cases hp
  | succ f ih =>
    intro a ha p hp
    unfold fds at hp
    split at hp
    · cases hp
    · split at hp
      · simp at hp; subst hp; exact ⟨ha, .inl rfl⟩
      · rename_i hbad
        have hb : 24 ≤ nm xs (a + 2) 2 ∧ a + nm xs (a + 2) 2 ≤ xs.length := by
          unfold badB at hbad
          simp only [Bool.or_eq_true, Bool.not_eq_true', beq_eq_false_iff_ne, decide_eq_true_eq] at hbad
          omega
        rcases List.mem_cons.1 hp with e | hp
        · subst e; exact ⟨ha, .inr hb⟩
        · exact ih _ hb.2 p hp
/-- what a field tells -/
def toEx (x : El) : Ex := ⟨x.op.toNat, x.resp, x.bad, x.as_.toNat, x.ts, x.fs, x.xs, x.ys⟩
theorem toEx_exEl (x : Ex) (A : Option Addr) (c : Nat) (B : Option Addr) (d : Nat) : toEx (exEl x A c B d) = x := rfl
/-- all but two blocks are as they were -/
structure Fr (W W' : World) (p e : Nat) : Prop where
  os : W'.os = W.os
  tape : W'.tape = W.tape
  output : W'.output = W.output
  size : W.heap.size ≤ W'.heap.size
  block : ∀ q, q < W.heap.size → q ≠ p → q ≠ e → W'.heap[q]? = W.heap[q]?
theorem Fr.refl (W : World) (p e : Nat) : Fr W W p e := ⟨rfl, rfl, rfl, Nat.le_refl _, fun _ _ _ _ => rfl⟩
theorem Fr.below {W W1 W2 : World} {p e : Nat} (h : Fr W W1 p e) (b : RowKit.Below W1.heap.size W1 W2) : Fr W W2 p e :=
  ⟨b.os.trans h.os, b.tape.trans h.tape, b.output.trans h.output, Nat.le_trans h.size b.size, fun q hq h1 h2 => (b.block q (Nat.lt_of_lt_of_le hq h.size)).trans (h.block q hq h1 h2)⟩
theorem Fr.grown {W W1 W2 : World} {p e : Nat} {row : Option Nat} (h : Fr W W1 p e) (g : W1.grownBy W2 row) (hr : ∀ r, row = some r → W.heap.size ≤ r ∨ r = p ∨ r = e) : Fr W W2 p e :=
  ⟨g.os.trans h.os, g.tape.trans h.tape, g.output.trans h.output, Nat.le_trans h.size g.size, fun q hq h1 h2 => (g.block q (Nat.lt_of_lt_of_le hq h.size) fun e' => by rcases hr q e'.symm with h3 | h3 | h3 <;> omega).trans (h.block q hq h1 h2)⟩
theorem kept_block {W W' : World} {row : Option Nat} {b : Nat} {o : Obj} (h : W.heap[b]? = some o) (ho : o.isCells = true) (hg : W.grownBy W' row) (hrow : ∀ r, row = some r → ∃ o : Obj, W.heap[r]? = some o ∧ o.isCells = false) : W'.heap[b]? = W.heap[b]? :=
  hg.block b (Array.getElem?_eq_some_iff.1 h).1 fun e => by
    obtain ⟨o2, h2, h3⟩ := hrow b e.symm
    rw [h] at h2
    cases h2
    rw [ho] at h3; cases h3
theorem Nb.own {W W' : World} {row : Option Nat} {n c : Nat} {A : Option Addr} {xs : List Nat} (h : Nb W W.heap.size A n c xs) (hg : W.grownBy W' row) (hrow : ∀ r, row = some r → ∃ o : Obj, W.heap[r]? = some o ∧ o.isCells = false) : Nb W' W'.heap.size A n c xs :=
  ⟨h.len, h.cap, h.room, h.lim, fun hn => by
    obtain ⟨b, off, e, hb, hc⟩ := h.cell hn
    exact ⟨b, off, e, Nat.lt_of_lt_of_le hb hg.size, fun j x hx => cell_kept (hc j x hx) hg hrow⟩⟩
/-- the texts of a field lie by themselves -/
structure Ft (W : World) (A : Option Addr) (lo : Nat) (x : El) : Prop where
  one : Nb W W.heap.size x.A x.n x.c x.xs
  two : Nb W W.heap.size x.B x.m x.e x.ys
  far1 : 0 < x.n → ∀ ad, x.A = some ad → lo ≤ ad.block ∧ blk A ≠ some ad.block
  far2 : 0 < x.m → ∀ ad, x.B = some ad → lo ≤ ad.block ∧ blk A ≠ some ad.block
  pos : 0 ≤ x.op ∧ 0 ≤ x.as_
/-- behind some fields: the packet's box at p, where the fields end at e -/
structure Ps (W0 W : World) (p e : Nat) (h : Hd) (es : List Ex) (en : Nat) : Prop where
  fr : Fr W0 W p e
  at_ : W.heap[e]? = some (.cells #[.int .i64 (en : Int)] 3 (0, 0))
  box : ∃ (A : Option Addr) (c : Nat) (els : List El), els.map toEx = es ∧ PBox W p ⟨h, A, es.length, c, m0⟩ ∧ Gw W W0.heap.size 85 8 A es.length c (els.flatMap El.cs) ∧ ∀ x ∈ els, Ft W A W0.heap.size x
theorem Gw.heap {w : World} {base e size n c : Nat} {A : Option Addr} {cs : List Value} (h : Gw w base e size A n c cs) : ∀ k, blk A = some k → ∃ o : Obj, w.heap[k]? = some o ∧ o.isCells = true := by
  intro k hk
  rcases h.2 with ⟨e, _⟩ | ⟨g, cap, cur, e, hg, hh, _⟩
  · cases e; cases hk
  · cases e
    cases hk
    exact ⟨_, hh, rfl⟩
theorem Ps.own {W0 : World} {p e : Nat} {h : Hd} {es : List Ex} {en : Nat} {W W' : World} {row : Option Nat} (s : Ps W0 W p e h es en) (hg : W.grownBy W' row) (hrow : ∀ r, row = some r → W0.heap.size ≤ r ∧ ∃ o : Obj, W.heap[r]? = some o ∧ o.isCells = false) : Ps W0 W' p e h es en := by
  have hr2 : ∀ r, row = some r → ∃ o : Obj, W.heap[r]? = some o ∧ o.isCells = false := fun r e => (hrow r e).2
  obtain ⟨A, c, els, h1, h2, h3, h4⟩ := s.box
  refine ⟨s.fr.grown hg fun r e => .inl (hrow r e).1, (kept_block s.at_ rfl hg hr2).trans s.at_, A, c, els, h1, (kept_block h2 rfl hg hr2).trans h2, h3.keep fun k hk => ?_, fun x hx => ?_⟩
  · obtain ⟨o, ho, hc⟩ := h3.heap k hk
    exact kept_block ho hc hg hr2
  · have := h4 x hx
    exact ⟨this.one.own hg hr2, this.two.own hg hr2, this.far1, this.far2, this.pos⟩
theorem Nb.keepn {w w' : World} {B n c : Nat} {A : Option Addr} {xs : List Nat} (h : Nb w B A n c xs) (hs : B ≤ w'.heap.size) (hk : 0 < n → ∀ ad, A = some ad → w'.heap[ad.block]? = w.heap[ad.block]?) : Nb w' w'.heap.size A n c xs :=
  ⟨h.len, h.cap, h.room, h.lim, fun hn => by
    obtain ⟨b, off, e, hb, hc⟩ := h.cell hn
    exact ⟨b, off, e, Nat.lt_of_lt_of_le hb hs, fun j x hx => (World.cell?_of_block (a := ⟨b, off + j, none⟩) (hk hn ⟨b, off, none⟩ e)).trans (hc j x hx)⟩⟩
theorem Nb.lt {w : World} {B n c : Nat} {A : Option Addr} {xs : List Nat} (h : Nb w B A n c xs) (hn : 0 < n) {ad : Addr} (e : A = some ad) : ad.block < B := by
  obtain ⟨b, off, e2, hb, _⟩ := h.cell hn
  rw [e] at e2
  cases e2
  exact hb
theorem Ft.keep {W W' : World} {A A' : Option Addr} {lo : Nat} {x : El} (h : Ft W A lo x) (hs : W.heap.size ≤ W'.heap.size) (hk : ∀ q, q < W.heap.size → lo ≤ q → blk A ≠ some q → W'.heap[q]? = W.heap[q]?) (hA : blk A' = blk A ∨ ∃ k, blk A' = some k ∧ W.heap.size ≤ k) : Ft W' A' lo x := by
  have far : ∀ q, q < W.heap.size → blk A ≠ some q → blk A' ≠ some q := fun q hq hne e => by
    rcases hA with h1 | ⟨k, h1, hk⟩
    · exact hne (h1.symm.trans e)
    · rw [h1] at e; cases e; omega
  exact ⟨h.one.keepn hs fun hn ad e => hk _ (h.one.lt hn e) (h.far1 hn ad e).1 (h.far1 hn ad e).2, h.two.keepn hs fun hn ad e => hk _ (h.two.lt hn e) (h.far2 hn ad e).1 (h.far2 hn ad e).2,
    fun hn ad e => ⟨(h.far1 hn ad e).1, far _ (h.one.lt hn e) (h.far1 hn ad e).2⟩, fun hn ad e => ⟨(h.far2 hn ad e).1, far _ (h.two.lt hn e) (h.far2 hn ad e).2⟩, h.pos⟩
theorem Ps.below {W0 W W' : World} {p e : Nat} {h : Hd} {es : List Ex} {en : Nat} (s : Ps W0 W p e h es en) (b : RowKit.Below W.heap.size W W') : Ps W0 W' p e h es en := by
  obtain ⟨A, c, els, h1, h2, h3, h4⟩ := s.box
  exact ⟨s.fr.below b, (b.block _ (Array.getElem?_eq_some_iff.1 s.at_).1).trans s.at_, A, c, els, h1, h2.below b, h3.below b, fun x hx => (h4 x hx).keep b.size (fun q hq _ _ => b.block q hq) (.inl rfl)⟩
/-- one field more -/
theorem Ps.grow {W0 W W' : World} {p e : Nat} {h : Hd} {es : List Ex} {en en' : Nat} {A A' : Option Addr} {c c' : Nat} {els : List El} {x : El} (hfr : Fr W0 W p e) (hat : W.heap[e]? = some (.cells #[.int .i64 (en : Int)] 3 (0, 0))) (hp : p < W0.heap.size) (he : e < W0.heap.size) (hpe : p ≠ e)
    (h1 : els.map toEx = es) (h2 : PBox W p ⟨h, A, es.length, c, m0⟩) (hbk : ∀ k, blk A = some k → W0.heap.size ≤ k) (h4 : ∀ y ∈ els, Ft W A W0.heap.size y) (hx : Ft W A W0.heap.size x)
    (hG : Gw W' W0.heap.size 85 8 A' (es.length + 1) c' (els.flatMap El.cs ++ x.cs)) (hgr : Gr W A W' A') :
    Ps W0 ((W'.setCell ⟨p, 13, none⟩ (.slice A' (es.length + 1) c')).setCell ⟨e, 0, none⟩ (.int .i64 (en' : Int))) p e h (es ++ [toEx x]) en' := by
  have hsz : ((W'.setCell ⟨p, 13, none⟩ (.slice A' (es.length + 1) c')).setCell ⟨e, 0, none⟩ (.int .i64 (en' : Int))).heap.size = W'.heap.size := by simp
  have hoth : ∀ q, q ≠ p → q ≠ e → ((W'.setCell ⟨p, 13, none⟩ (.slice A' (es.length + 1) c')).setCell ⟨e, 0, none⟩ (.int .i64 (en' : Int))).heap[q]? = W'.heap[q]? := fun q a b => by
    rw [heap_setCell_other _ _ _ _ (by exact b), heap_setCell_other _ _ _ _ (by exact a)]
  have np : ∀ q, q < W0.heap.size → blk A ≠ some q := fun q hq e' => by have := hbk q e'; omega
  have hP : W'.heap[p]? = _ := (hgr.1.block p h2.lt fun e' => np p hp e'.symm).trans h2
  have hE : W'.heap[e]? = _ := (hgr.1.block e (Array.getElem?_eq_some_iff.1 hat).1 fun e' => np e he e'.symm).trans hat
  have fr1 : Fr W0 W' p e := hfr.grown hgr.1 fun r e' => .inl (hbk r e')
  have hkeep : ∀ y, Ft W A W0.heap.size y → Ft ((W'.setCell ⟨p, 13, none⟩ (.slice A' (es.length + 1) c')).setCell ⟨e, 0, none⟩ (.int .i64 (en' : Int))) A' W0.heap.size y := fun y hy =>
    hy.keep (by rw [hsz]; exact hgr.1.size) (fun q hq hlo hne => (hoth q (by omega) (by omega)).trans (hgr.1.block q hq fun e' => hne e'.symm)) hgr.2
  refine ⟨⟨fr1.os, fr1.tape, fr1.output, by rw [hsz]; exact fr1.size, fun q hq a b => (hoth q a b).trans (fr1.block q hq a b)⟩, ?_, A', c', els ++ [x], by rw [List.map_append, h1]; rfl, ?_, ?_, ?_⟩
  · exact heap_setCell_same _ _ _ _ _ _ ((heap_setCell_other _ _ _ _ (by exact fun e' => hpe e'.symm)).trans hE)
  · unfold PBox
    rw [heap_setCell_other _ _ _ _ (by exact hpe), heap_setCell_same _ _ _ _ _ _ hP, List.length_append]
    rfl
  · rw [List.length_append, List.flatMap_append]
    refine Gw.keep (w := W') (by simpa using hG) fun k hk => hoth k ?_ ?_
    all_goals
      rcases hgr.2 with h5 | ⟨k', h5, hk'⟩
      · have := hbk k (h5.symm.trans hk); omega
      · rw [h5] at hk; cases hk
        have := hfr.size; omega
  · intro y hy
    rcases List.mem_append.1 hy with hy | hy
    · exact hkeep y (h4 y hy)
    · simp at hy; subst hy; exact hkeep y hx
end Go.Proofs.Ytompggkdjbkjjaa.Wi
