/- Values as trees, and their bytes (pure). Values in memory; rows that grow. der.roomBehind of any value. -/
import Derived.Test.YtddpgckbdccldaaDc
import Derived.Deep.AppendLies
import Derived.Deep.MidRow
namespace Go.Proofs.Ytddpgckbdccldaa
set_option linter.unusedVariables false
set_option maxRecDepth 100000
/-- a value -/
inductive T where
  | mk (tag : Int) (bs : List Nat) (ks : List T)
def T.tag : T → Int | .mk t _ _ => t
def T.bs : T → List Nat | .mk _ b _ => b
def T.ks : T → List T | .mk _ _ k => k
/-- the bytes of a length -/
def lb (n : Nat) : List Nat := if n < 128 then [n] else (128 + (bl n + 7) / 8) :: bts n ((bl n + 7) / 8)
/-- how long the bytes of a length are -/
def lbl (n : Nat) : Nat := if n < 128 then 1 else 1 + (bl n + 7) / 8
theorem lb_len (n : Nat) : (lb n).length = lbl n := by
  unfold lb lbl; split
  · rfl
  · simp [length_bts]; omega
mutual
/-- how many bytes follow a value's tag and length -/
def lenT : T → Nat
  | .mk _ bs ks => bs.length + lenL ks
/-- how many bytes some values have -/
def lenL : List T → Nat
  | [] => 0
  | k :: ks => (1 + lbl (lenT k) + lenT k) + lenL ks
end
/-- how many bytes a value has -/
def sizT (t : T) : Nat := 1 + lbl (lenT t) + lenT t
theorem lenL_cons (k : T) (ks : List T) : lenL (k :: ks) = sizT k + lenL ks := by simp [lenL, sizT]
theorem lenT_eq (t : T) : lenT t = t.bs.length + lenL t.ks := by cases t; simp [lenT, T.bs, T.ks]
mutual
/-- a value's bytes -/
def byT : T → List Nat
  | .mk tag bs ks => (tag % 256).toNat :: (lb (bs.length + lenL ks) ++ (bs ++ byL ks))
/-- the bytes of some values, one behind the other -/
def byL : List T → List Nat
  | [] => []
  | k :: ks => byT k ++ byL ks
end
/-- what follows a value's tag and length -/
def body (t : T) : List Nat := t.bs ++ byL t.ks
theorem byT_eq (t : T) : byT t = (t.tag % 256).toNat :: (lb (lenT t) ++ body t) := by cases t; simp [byT, lenT, T.tag, body, T.bs, T.ks]
mutual
theorem byT_len : ∀ t : T, (byT t).length = 1 + lbl (lenT t) + lenT t
  | .mk tag bs ks => by
    simp only [byT, List.length_cons, List.length_append, lb_len, byL_len ks, lenT]
    omega
theorem byL_len : ∀ ks : List T, (byL ks).length = lenL ks
  | [] => rfl
  | k :: ks => by simp only [byL, List.length_append, byT_len k, byL_len ks, lenL]
end
theorem byL_append (a b : List T) : byL (a ++ b) = byL a ++ byL b := by
  induction a with
  | nil => rfl
  | cons k a ih => simp [byL, ih]
theorem lenL_append (a b : List T) : lenL (a ++ b) = lenL a + lenL b := by
  induction a with
  | nil => simp [lenL]
  | cons k a ih => simp [lenL, ih]; omega
theorem lenL_take_le (ks : List T) (j : Nat) : lenL (ks.take j) ≤ lenL ks := by
  have := lenL_append (ks.take j) (ks.drop j)
  rw [List.take_append_drop] at this
  omega
theorem lenL_take_succ {ks : List T} {j : Nat} {k : T} (h : ks[j]? = some k) : lenL (ks.take (j + 1)) = lenL (ks.take j) + sizT k := by
  rw [List.take_add_one, h, lenL_append]
  simp [lenL, sizT]
theorem byL_take_succ {ks : List T} {j : Nat} {k : T} (h : ks[j]? = some k) : byL (ks.take (j + 1)) = byL (ks.take j) ++ byT k := by
  rw [List.take_add_one, h, byL_append]
  simp [byL]
theorem siz_le_len {ks : List T} {j : Nat} {k : T} (h : ks[j]? = some k) : sizT k ≤ lenL ks := by
  have := lenL_take_succ h
  have := lenL_take_le ks (j + 1)
  omega
theorem lenT_le_siz (t : T) : lenT t ≤ sizT t := by unfold sizT; omega
/-- has a tag kids? -/
def hk (t : Int) : Bool := t == 48 || t == 49
/-- bits behind the number of the loose ones -/
def bitsOk (xs : List Nat) : Bool := match xs with
  | [] => false
  | x :: ys => decide (x ≤ 7) && (!ys.isEmpty || x == 0) && (ys.getLastD x % 2 ^ x == 0)
/-- may a tag without kids have such bytes? -/
def may (t : Int) (xs : List Nat) : Bool :=
  if t = 1 then xs == [0] || xs == [255]
  else if t = 2 then shrt xs
  else if t = 3 then bitsOk xs
  else if t = 4 then true
  else if t = 5 then xs.isEmpty
  else if t = 12 then txt xs
  else false
mutual
/-- how much room is behind a value -/
def room : T → Nat → Nat → Option Nat
  | .mk _ _ ks, l, r => match l, r with
    | 0, _ => none
    | _, 0 => none
    | l + 1, r + 1 => roomL ks l r
def roomL : List T → Nat → Nat → Option Nat
  | [], _, r => some r
  | k :: ks, l, r => match room k l r with
    | none => none
    | some r' => roomL ks l r'
end
end Go.Proofs.Ytddpgckbdccldaa
namespace Go.Proofs.Ytddpgckbdccldaa
open Go.RowKit
set_option linter.unusedVariables false
set_option linter.unusedSimpArgs false
set_option maxRecDepth 100000
/-- a value's three words -/
structure Hd where
  t : Int
  A : Option Addr
  n : Nat
  c : Nat
  K : Option Addr
  m : Nat
  d : Nat
def Hd.cells (h : Hd) : Array Value := #[.int .i64 h.t, .slice h.A h.n h.c, .slice h.K h.m h.d]
def Hd.val (h : Hd) : Value := .agg #[.int .i64 h.t, .slice h.A h.n h.c, .slice h.K h.m h.d]
/-- a value in memory, all of it in blocks below B, of at most so many levels -/
def Tr (w : World) (B : Nat) : Nat → Hd → T → Prop
  | 0, _, _ => False
  | f + 1, h, t => h.t = t.tag ∧ (-9223372036854775808 ≤ h.t ∧ h.t ≤ 9223372036854775807) ∧ Nb w B h.A h.n h.c t.bs ∧ h.n ≤ 281474976710656 ∧
      t.ks.length = h.m ∧ h.m ≤ h.d ∧ h.d ≤ maxLen ∧ h.m ≤ 281474976710656 ∧
      (0 < h.m → ∃ g off, h.K = some ⟨g, off, none⟩ ∧ g < B ∧ ∀ i k, t.ks[i]? = some k → ∃ h' : Hd,
        w.cell? ⟨g, off + i * 3, none⟩ = some (.int .i64 h'.t) ∧ w.cell? ⟨g, off + i * 3 + 1, none⟩ = some (.slice h'.A h'.n h'.c) ∧ w.cell? ⟨g, off + i * 3 + 2, none⟩ = some (.slice h'.K h'.m h'.d) ∧ Tr w B f h' k)
/-- the kids of a value in memory -/
structure Ks (w : World) (B f : Nat) (K : Option Addr) (m d : Nat) (ks : List T) : Prop where
  len : ks.length = m
  cap : m ≤ d
  room : d ≤ maxLen
  lim : m ≤ 281474976710656
  cell : 0 < m → ∃ g off, K = some ⟨g, off, none⟩ ∧ g < B ∧ ∀ i k, ks[i]? = some k → ∃ h' : Hd,
        w.cell? ⟨g, off + i * 3, none⟩ = some (.int .i64 h'.t) ∧ w.cell? ⟨g, off + i * 3 + 1, none⟩ = some (.slice h'.A h'.n h'.c) ∧ w.cell? ⟨g, off + i * 3 + 2, none⟩ = some (.slice h'.K h'.m h'.d) ∧ Tr w B f h' k
theorem Tr.parts {w : World} {B f : Nat} {h : Hd} {t : T} (H : Tr w B (f + 1) h t) : h.t = t.tag ∧ (-9223372036854775808 ≤ h.t ∧ h.t ≤ 9223372036854775807) ∧ Nb w B h.A h.n h.c t.bs ∧ h.n ≤ 281474976710656 ∧ Ks w B f h.K h.m h.d t.ks := by
  obtain ⟨h1, h2, h3, h4, h5, h6, h7, h8, h9⟩ := H
  exact ⟨h1, h2, h3, h4, ⟨h5, h6, h7, h8, h9⟩⟩
theorem Tr.mk {w : World} {B f : Nat} {h : Hd} {t : T} (h1 : h.t = t.tag) (h2 : -9223372036854775808 ≤ h.t ∧ h.t ≤ 9223372036854775807) (h3 : Nb w B h.A h.n h.c t.bs) (h4 : h.n ≤ 281474976710656) (k : Ks w B f h.K h.m h.d t.ks) : Tr w B (f + 1) h t :=
  ⟨h1, h2, h3, h4, k.len, k.cap, k.room, k.lim, k.cell⟩
theorem Ks.nil (w : World) (B f : Nat) : Ks w B f none 0 0 [] := ⟨rfl, Nat.le_refl _, Nat.zero_le _, Nat.zero_le _, fun h => absurd h (Nat.lt_irrefl _)⟩
theorem Ks.none (w : World) (B f : Nat) (K : Option Addr) (d : Nat) (hd : d ≤ maxLen) : Ks w B f K 0 d [] := ⟨rfl, Nat.zero_le _, hd, Nat.zero_le _, fun h => absurd h (Nat.lt_irrefl _)⟩
theorem Tr.keep {w w' : World} {B : Nat} (hk : ∀ p : Addr, p.block < B → w'.cell? p = w.cell? p) : ∀ {f : Nat} {h : Hd} {t : T}, Tr w B f h t → Tr w' B f h t
  | 0, _, _, H => H
  | f + 1, h, t, H => by
    obtain ⟨h1, h2, h3, h4, k⟩ := H.parts
    refine Tr.mk h1 h2 (h3.keep hk) h4 ⟨k.len, k.cap, k.room, k.lim, fun h0 => ?_⟩
    obtain ⟨g, off, e, hg, hc⟩ := k.cell h0
    refine ⟨g, off, e, hg, fun i q hq => ?_⟩
    obtain ⟨h', q0, q1, q2, q3⟩ := hc i q hq
    exact ⟨h', (hk ⟨g, _, Option.none⟩ hg).trans q0, (hk ⟨g, _, Option.none⟩ hg).trans q1, (hk ⟨g, _, Option.none⟩ hg).trans q2, Tr.keep hk q3⟩
theorem Tr.more {w : World} {B B' : Nat} (hB : B ≤ B') : ∀ {f : Nat} {h : Hd} {t : T}, Tr w B f h t → Tr w B' f h t
  | 0, _, _, H => H
  | f + 1, h, t, H => by
    obtain ⟨h1, h2, h3, h4, k⟩ := H.parts
    refine Tr.mk h1 h2 (h3.more hB) h4 ⟨k.len, k.cap, k.room, k.lim, fun h0 => ?_⟩
    obtain ⟨g, off, e, hg, hc⟩ := k.cell h0
    refine ⟨g, off, e, by omega, fun i q hq => ?_⟩
    obtain ⟨h', q0, q1, q2, q3⟩ := hc i q hq
    exact ⟨h', q0, q1, q2, Tr.more hB q3⟩
theorem Tr.fuel {w : World} {B : Nat} : ∀ {f f' : Nat} {h : Hd} {t : T}, f ≤ f' → Tr w B f h t → Tr w B f' h t
  | 0, _, _, _, _, H => H.elim
  | f + 1, 0, _, _, hf, _ => absurd hf (by omega)
  | f + 1, f' + 1, h, t, hf, H => by
    obtain ⟨h1, h2, h3, h4, k⟩ := H.parts
    refine Tr.mk h1 h2 h3 h4 ⟨k.len, k.cap, k.room, k.lim, fun h0 => ?_⟩
    obtain ⟨g, off, e, hg, hc⟩ := k.cell h0
    refine ⟨g, off, e, hg, fun i q hq => ?_⟩
    obtain ⟨h', q0, q1, q2, q3⟩ := hc i q hq
    exact ⟨h', q0, q1, q2, Tr.fuel (by omega) q3⟩
theorem Tr.below {w w' : World} {B f : Nat} {h : Hd} {t : T} (H : Tr w B f h t) (b : Below B w w') : Tr w' B f h t := H.keep fun _ hp => b.cell hp
theorem Tr.up {w w' : World} {f : Nat} {h : Hd} {t : T} (H : Tr w w.heap.size f h t) (b : Below w.heap.size w w') : Tr w' w'.heap.size f h t := (H.below b).more b.size
theorem Ks.keep {w w' : World} {B f : Nat} {K : Option Addr} {m d : Nat} {ks : List T} (k : Ks w B f K m d ks) (hk : ∀ p : Addr, p.block < B → w'.cell? p = w.cell? p) : Ks w' B f K m d ks :=
  ⟨k.len, k.cap, k.room, k.lim, fun h0 => by
    obtain ⟨g, off, e, hg, hc⟩ := k.cell h0
    refine ⟨g, off, e, hg, fun i q hq => ?_⟩
    obtain ⟨h', q0, q1, q2, q3⟩ := hc i q hq
    exact ⟨h', (hk ⟨g, _, Option.none⟩ hg).trans q0, (hk ⟨g, _, Option.none⟩ hg).trans q1, (hk ⟨g, _, Option.none⟩ hg).trans q2, Tr.keep hk q3⟩⟩
theorem Ks.more {w : World} {B B' f : Nat} {K : Option Addr} {m d : Nat} {ks : List T} (k : Ks w B f K m d ks) (hB : B ≤ B') : Ks w B' f K m d ks :=
  ⟨k.len, k.cap, k.room, k.lim, fun h0 => by
    obtain ⟨g, off, e, hg, hc⟩ := k.cell h0
    refine ⟨g, off, e, by omega, fun i q hq => ?_⟩
    obtain ⟨h', q0, q1, q2, q3⟩ := hc i q hq
    exact ⟨h', q0, q1, q2, q3.more hB⟩⟩
theorem Ks.below {w w' : World} {B f : Nat} {K : Option Addr} {m d : Nat} {ks : List T} (k : Ks w B f K m d ks) (b : Below B w w') : Ks w' B f K m d ks := k.keep fun _ hp => b.cell hp
theorem Ks.up {w w' : World} {f : Nat} {K : Option Addr} {m d : Nat} {ks : List T} (k : Ks w w.heap.size f K m d ks) (b : Below w.heap.size w w') : Ks w' w'.heap.size f K m d ks := (k.below b).more b.size
/-- one kid: its cells -/
theorem Ks.at_ {w : World} {B f : Nat} {K : Option Addr} {m d : Nat} {ks : List T} (k : Ks w B f K m d ks) {i : Nat} {q : T} (hq : ks[i]? = some q) : i < m ∧ ∃ g off, K = some ⟨g, off, Option.none⟩ ∧ g < B ∧ ∃ h' : Hd,
    w.cell? ⟨g, off + i * 3, Option.none⟩ = some (.int .i64 h'.t) ∧ w.cell? ⟨g, off + i * 3 + 1, Option.none⟩ = some (.slice h'.A h'.n h'.c) ∧ w.cell? ⟨g, off + i * 3 + 2, Option.none⟩ = some (.slice h'.K h'.m h'.d) ∧ Tr w B f h' q := by
  have hi : i < m := by
    rw [← k.len]
    exact (List.getElem?_eq_some_iff.1 hq).1
  obtain ⟨g, off, e, hg, hc⟩ := k.cell (by omega)
  exact ⟨hi, g, off, e, hg, hc i q hq⟩
/-- the block that a row lies in -/
def blk (A : Option Addr) : Option Nat := A.map (·.block)
/-- a row grew: every other block that was there is as it was -/
def Gr (w : World) (A : Option Addr) (w' : World) (A' : Option Addr) : Prop := w.grownBy w' (blk A) ∧ (blk A' = blk A ∨ ∃ k, blk A' = some k ∧ w.heap.size ≤ k)
theorem own_blk (A : Option Addr) (n c : Nat) : (Value.slice A n c).ownBlock = blk A := by cases A <;> rfl
theorem Gr.refl (w : World) (A : Option Addr) : Gr w A w A := ⟨⟨rfl, rfl, rfl, Nat.le_refl _, fun _ _ _ => rfl⟩, .inl rfl⟩
theorem Gr.trans {w w' w'' : World} {A A' A'' : Option Addr} (h : Gr w A w' A') (k : Gr w' A' w'' A'') : Gr w A w'' A'' := by
  obtain ⟨g, h2⟩ := h
  obtain ⟨g', k2⟩ := k
  refine ⟨⟨g'.os.trans g.os, g'.tape.trans g.tape, g'.output.trans g.output, Nat.le_trans g.size g'.size, fun q hq hne => ?_⟩, ?_⟩
  · refine (g'.block q (Nat.lt_of_lt_of_le hq g.size) fun e => ?_).trans (g.block q hq hne)
    rcases h2 with h2 | ⟨j, h2, hj⟩
    · exact hne (e.trans h2)
    · rw [h2] at e; cases e; omega
  · rcases k2 with k2 | ⟨j, k2, hj⟩
    · rcases h2 with h2 | ⟨i, h2, hi⟩
      · exact .inl (k2.trans h2)
      · exact .inr ⟨i, k2.trans h2, hi⟩
    · exact .inr ⟨j, k2, Nat.le_trans g.size hj⟩
/-- what makes memory grows every row -/
theorem Gr.of {w w' : World} (b : Below w.heap.size w w') (A : Option Addr) : Gr w A w' A := ⟨⟨b.os, b.tape, b.output, b.size, fun k hk _ => b.block k hk⟩, .inl rfl⟩
theorem Gr.cell {w w' : World} {A A' : Option Addr} (h : Gr w A w' A') {p : Addr} (hp : p.block < w.heap.size) (hne : blk A ≠ some p.block) : w'.cell? p = w.cell? p := World.cell?_of_block (w := w) (h.1.block p.block hp (Ne.symm hne))
theorem Gr.size {w w' : World} {A A' : Option Addr} (h : Gr w A w' A') : w.heap.size ≤ w'.heap.size := h.1.size
theorem Gr.below {w0 w w' : World} {A A' : Option Addr} {B : Nat} (h : Gr w A w' A') (b : Below B w0 w) (hB : B ≤ w.heap.size) (hA : ∀ k, blk A = some k → B ≤ k) : Below B w0 w' := b.grown h.1 hB fun k hk => hA k hk.symm.symm
/-- an own row, in blocks from base on -/
def Gw (w : World) (base e size : Nat) (A : Option Addr) (n c : Nat) (cs : List Value) : Prop := w.ownsRow base e size (.slice A n c) n cs
theorem Gw.nil (w : World) (base e size : Nat) : Gw w base e size Option.none 0 0 [] := World.ownsRow_nil w base e size
theorem Gw.alloc {w : World} {base e size n c : Nat} {A : Option Addr} {cs : List Value} (h : Gw w base e size A n c cs) (o : Obj) : Gw (w.alloc o) base e size A n c cs := World.ownsRow.alloc h o
theorem Gw.blk_lt {w : World} {base e size n c : Nat} {A : Option Addr} {cs : List Value} (h : Gw w base e size A n c cs) : ∀ k, blk A = some k → base ≤ k ∧ k < w.heap.size := by
  intro k hk
  rcases h.2 with ⟨e, _⟩ | ⟨g, cap, cur, e, hg, hh, _⟩
  · cases e; cases hk
  · cases e
    cases hk
    refine ⟨hg, ?_⟩
    rcases Nat.lt_or_ge g w.heap.size with hlt | hge
    · exact hlt
    · rw [Array.getElem?_eq_none hge] at hh; cases hh
theorem Gw.keep {w w' : World} {base e size n c : Nat} {A : Option Addr} {cs : List Value} (h : Gw w base e size A n c cs) (hk : ∀ k, blk A = some k → w'.heap[k]? = w.heap[k]?) : Gw w' base e size A n c cs := by
  refine ⟨h.1, ?_⟩
  rcases h.2 with h' | ⟨g, cap, cur, e, hg, hh, hr⟩
  · exact Or.inl h'
  · cases e
    exact Or.inr ⟨g, _, cur, rfl, hg, (hk g rfl).trans hh, hr⟩
theorem Gw.below {w w' : World} {base e size n c : Nat} {A : Option Addr} {cs : List Value} (h : Gw w base e size A n c cs) (b : Below w.heap.size w w') : Gw w' base e size A n c cs :=
  h.keep fun k hk => b.block k (h.blk_lt k hk).2
theorem Gw.cell {w : World} {base e size n c : Nat} {A : Option Addr} {cs : List Value} (h : Gw w base e size A n c cs) (hn : 0 < n) (hs : 0 < size) : ∃ g, A = some ⟨g, 0, Option.none⟩ ∧ base ≤ g ∧ g < w.heap.size ∧ ∀ j u, cs[j]? = some u → w.cell? ⟨g, j, Option.none⟩ = some u := by
  rcases h.2 with ⟨e, h0⟩ | ⟨g, cap, cur, e, hg, hh, _, _, _, ht⟩
  · omega
  · cases e
    refine ⟨g, rfl, hg, ?_, fun j u hj => ?_⟩
    · rcases Nat.lt_or_ge g w.heap.size with hlt | hge
      · exact hlt
      · rw [Array.getElem?_eq_none hge] at hh; cases hh
    · rw [cell_of_row w g j cur e (0, 0) hh]
      rw [← ht, List.getElem?_take] at hj
      split at hj
      · simpa using hj
      · cases hj
theorem own_shape' {w : World} {base e size n : Nat} {v : Value} {xs : List Value} (h : w.ownsRow base e size v n xs) : ∃ A c, v = .slice A n c := by
  rcases h.2 with ⟨rfl, rfl⟩ | ⟨g, cap, cur, rfl, _⟩
  · exact ⟨_, _, rfl⟩
  · exact ⟨_, _, rfl⟩
/-- one element of a struct behind an own row -/
theorem wp_push {P : Program} (w : World) {o : Oper} {a : Act} {K : Act → World → Prop} {Q : Exit → Act → World → Prop} (s x : Operand) (t : TypeId)
    (ho : o.op = .call { callee := .builtin .append, args := #[s, x], argTypes := #[t, t] }) {base e size bytes : Nat} {z : Value} (ht : P.underlying t = some (.slice e))
    (hinf : (P.info? e).map (fun i => (i.zero, i.size, i.bytes)) = some (some z, size, bytes)) (hzs : z.cells.size = size) (hsz : 0 < size) (hby : bytes ≤ 128)
    {n c g : Nat} {A : Option Addr} {cs : List Value} (news : List Value) {t2 : TypeId}
    (hs : a.eval s = .slice A n c) (hown : Gw w base e size A n c cs) (hx : a.eval x = .slice (some ⟨g, 0, Option.none⟩) 1 1) (hl : news.length = size)
    (hc : w.heap[g]? = some (.cells news.toArray t2 (0, 0))) (h1 : ∀ u ∈ news, u.oneCell' = true) (hn : n ≤ 1099511627775) (hbase : base ≤ w.heap.size)
    (h : ∀ A' c' w', Gw w' base e size A' (n + 1) c' (cs ++ news) → Gr w A w' A' → K (a.put o.dst (.slice A' (n + 1) c')) w') : Oper.wp P o a w K Q := by
  obtain ⟨i0, hi, hz0, hz1, hz2⟩ := info_parts hinf
  obtain ⟨v', w', hr, h2, h3, _, h5⟩ := run_append_own_at (P := P) w base t o.type e i0 z size bytes ht hi hz0 hz1 hz2 hzs hsz _ n cs hown ⟨g, 0, Option.none⟩ 1 1 news (by omega) (World.news_of_block hc) h1 (by unfold maxLen; omega)
    (by have := Nat.mul_le_mul (show n + 1 ≤ 1099511627776 by omega) hby; omega) hbase
  obtain ⟨A', c', rfl⟩ := own_shape' h2
  rw [own_blk] at h3
  rw [own_blk, own_blk] at h5
  unfold Oper.wp execOp
  simp only [ho, resolve, invoke, builtin, Sem.run_bind, Sem.run_pure, Result.andThen_ok, List.map_toArray, List.map_cons, List.map_nil, hs, hx, hr]
  exact h A' c' w' h2 ⟨h3, h5.imp id fun e => ⟨_, e, Nat.le_refl _⟩⟩
theorem wpList_push {P : Program} (w : World) {ops : Array Oper} {rest : List Oper} {o : Oper} {a : Act} {Q : Exit → Act → World → Prop} (hgd : o.guard = Option.none) (s x : Operand) (t : TypeId)
    (ho : o.op = .call { callee := .builtin .append, args := #[s, x], argTypes := #[t, t] }) {base e size bytes : Nat} {z : Value} (ht : P.underlying t = some (.slice e))
    (hinf : (P.info? e).map (fun i => (i.zero, i.size, i.bytes)) = some (some z, size, bytes)) (hzs : z.cells.size = size) (hsz : 0 < size) (hby : bytes ≤ 128)
    {n c g : Nat} {A : Option Addr} {cs : List Value} (news : List Value) {t2 : TypeId}
    (hs : a.eval s = .slice A n c) (hown : Gw w base e size A n c cs) (hx : a.eval x = .slice (some ⟨g, 0, Option.none⟩) 1 1) (hl : news.length = size)
    (hc : w.heap[g]? = some (.cells news.toArray t2 (0, 0))) (h1 : ∀ u ∈ news, u.oneCell' = true) (hn : n ≤ 1099511627775) (hbase : base ≤ w.heap.size)
    (h : ∀ A' c' w', Gw w' base e size A' (n + 1) c' (cs ++ news) → Gr w A w' A' → wpList P ops Q rest (a.put o.dst (.slice A' (n + 1) c')) w') : wpList P ops Q (o :: rest) a w := by
  refine wpList_plain hgd fun K hK => ?_
  exact wp_push w s x t ho ht hinf hzs hsz hby news hs hown hx hl hc h1 hn hbase fun A' c' w' h2 h3 => hK _ _ (h A' c' w' h2 h3)
/-- bytes as values -/
def bvs (xs : List Nat) : List Value := xs.map fun x : Nat => .int .u8 (x : Int)
theorem bvs_one (xs : List Nat) : ∀ v ∈ bvs xs, v.oneCell' = true := by
  intro v hv
  simp only [bvs, List.mem_map] at hv
  obtain ⟨x, _, rfl⟩ := hv
  rfl
theorem bvs_append (xs ys : List Nat) : bvs (xs ++ ys) = bvs xs ++ bvs ys := by simp [bvs]
theorem Nb.olds {w : World} {B n c : Nat} {ad : Addr} {xs : List Nat} (h : Nb w B (some ad) n c xs) : ∀ j u, (bvs xs)[j]? = some u → w.cell? (ad.add j) = some u := by
  intro j u hj
  simp only [bvs, List.getElem?_map, Option.map_eq_some_iff] at hj
  obtain ⟨y, hy, rfl⟩ := hj
  have hjn : j < n := by
    rw [← h.len]
    rcases Nat.lt_or_ge j xs.length with h' | h'
    · exact h'
    · rw [List.getElem?_eq_none h'] at hy; cases hy
  obtain ⟨b, off, e, _, hc⟩ := h.cell (by omega)
  cases e
  by_cases hj0 : j = 0
  · subst hj0; simpa [Addr.add] using hc 0 y hy
  · simpa [Addr.add, hj0] using hc j y hy
/-- an own row of bytes -/
def Gb (w : World) (base : Nat) (A : Option Addr) (n c : Nat) (xs : List Nat) : Prop := xs.length = n ∧ Gw w base 5 1 A n c (bvs xs)
theorem Gb.nil (w : World) (base : Nat) : Gb w base Option.none 0 0 [] := ⟨rfl, Gw.nil w base 5 1⟩
theorem Gb.nb {w : World} {base n c : Nat} {A : Option Addr} {xs : List Nat} (h : Gb w base A n c xs) (hL : Lim 256 xs) : Nb w w.heap.size A n c xs := by
  obtain ⟨hl, _, h2⟩ := h
  rcases h2 with ⟨e, h0⟩ | ⟨g, cap, cur, e, hg, hheap, hnc, hcm, hcs, hx⟩
  · cases e
    exact ⟨hl, Nat.zero_le _, Nat.zero_le _, hL, fun h => absurd h (Nat.lt_irrefl _)⟩
  · cases e
    refine ⟨hl, hnc, hcm, hL, fun h0 => ⟨g, 0, rfl, ?_, fun j x hj => ?_⟩⟩
    · rcases Nat.lt_or_ge g w.heap.size with hlt | hge
      · exact hlt
      · rw [Array.getElem?_eq_none hge] at hheap; cases hheap
    · rw [cell_of_row w g _ cur 5 (0, 0) hheap, Nat.zero_add]
      have : (List.take (n * 1) cur.toList)[j]? = some (.int .u8 (x : Int)) := by rw [hx]; simp [bvs, hj]
      rw [List.getElem?_take] at this
      split at this
      · simpa using this
      · cases this
theorem Gb.below {w w' : World} {base n c : Nat} {A : Option Addr} {xs : List Nat} (h : Gb w base A n c xs) (b : Below w.heap.size w w') : Gb w' base A n c xs := ⟨h.1, h.2.below b⟩
theorem Try.info5' : (Try.prog.info? 5).map (fun i => (i.zero, i.size, i.bytes)) = some (some (.int .u8 0), 1, 1) := by kernel_rfl
/-- bytes behind an own row -/
theorem wp_appb (w : World) {o : Oper} {a : Act} {K : Act → World → Prop} {Q : Exit → Act → World → Prop} (s x : Operand)
    (ho : o.op = .call { callee := .builtin .append, args := #[s, x], argTypes := #[22, 22] }) {base n c B m c2 : Nat} {A A2 : Option Addr} {xs ys : List Nat}
    (hs : a.eval s = .slice A n c) (hown : Gb w base A n c xs) (hx : a.eval x = .slice A2 m c2) (hr : Nb w B A2 m c2 ys)
    (hn : n + m ≤ 1099511627776) (hbase : base ≤ w.heap.size)
    (h : ∀ A' c' w', Gb w' base A' (n + m) c' (xs ++ ys) → Gr w A w' A' → K (a.put o.dst (.slice A' (n + m) c')) w') : Oper.wp Try.prog o a w K Q := by
  obtain ⟨i0, hi, hz0, hz1, hz2⟩ := info_parts Try.info5'
  rcases A2 with _ | ad
  · have hm : m = 0 := by
      rcases Nat.eq_zero_or_pos m with h0 | h0
      · exact h0
      · obtain ⟨b, off, e, _⟩ := hr.cell h0
        cases e
    subst hm
    have hy : ys = [] := List.eq_nil_of_length_eq_zero hr.len
    subst hy
    have hrun := run_app_nil (P := Try.prog) w base 22 o.type 5 i0 1 Try.underlying22 hi (.slice A n c) n (bvs xs) hown.2 c2
    unfold Oper.wp
    simp [execOp, ho, resolve, invoke, builtin, hs, hx, hrun, Result.andThen]
    exact h A c w (by simpa using hown) (Gr.refl _ _)
  · obtain ⟨v', w', hrr, h2, h3, _, h5⟩ := run_append_own_at (P := Try.prog) w base 22 o.type 5 i0 (.int .u8 0) 1 1 Try.underlying22 hi hz0 hz1 hz2 rfl (by decide) _ n (bvs xs) hown.2 ad m c2 (bvs ys) (by simp [bvs, hr.len]) hr.olds (bvs_one ys) (by unfold maxLen; omega) (by omega) hbase
    obtain ⟨A', c', rfl⟩ := own_shape' h2
    rw [own_blk] at h3
    rw [own_blk, own_blk] at h5
    unfold Oper.wp execOp
    simp only [ho, resolve, invoke, builtin, Sem.run_bind, Sem.run_pure, Result.andThen_ok, List.map_toArray, List.map_cons, List.map_nil, hs, hx, hrr]
    exact h A' c' w' ⟨by simp [hown.1, hr.len], by rw [bvs_append]; exact h2⟩ ⟨h3, h5.imp id fun e => ⟨_, e, Nat.le_refl _⟩⟩
theorem wpList_appb (w : World) {ops : Array Oper} {rest : List Oper} {o : Oper} {a : Act} {Q : Exit → Act → World → Prop} (hgd : o.guard = Option.none) (s x : Operand)
    (ho : o.op = .call { callee := .builtin .append, args := #[s, x], argTypes := #[22, 22] }) {base n c B m c2 : Nat} {A A2 : Option Addr} {xs ys : List Nat}
    (hs : a.eval s = .slice A n c) (hown : Gb w base A n c xs) (hx : a.eval x = .slice A2 m c2) (hr : Nb w B A2 m c2 ys)
    (hn : n + m ≤ 1099511627776) (hbase : base ≤ w.heap.size)
    (h : ∀ A' c' w', Gb w' base A' (n + m) c' (xs ++ ys) → Gr w A w' A' → wpList Try.prog ops Q rest (a.put o.dst (.slice A' (n + m) c')) w') : wpList Try.prog ops Q (o :: rest) a w := by
  refine wpList_plain hgd fun K hK => ?_
  exact wp_appb w s x ho hs hown hx hr hn hbase fun A' c' w' h2 h3 => hK _ _ (h A' c' w' h2 h3)
end Go.Proofs.Ytddpgckbdccldaa
namespace Go.Proofs.Ytddpgckbdccldaa
open Go.RowKit
set_option linter.unusedVariables false
set_option linter.unusedSimpArgs false
set_option maxRecDepth 100000
/-- -1 for none -/
def opt : Option Nat → Int
  | none => -1
  | some r => (r : Int)
mutual
theorem room_le : ∀ (t : T) (l r r' : Nat), room t l r = some r' → r' ≤ r
  | .mk _ _ ks, 0, r, r', h => by simp [room] at h
  | .mk _ _ ks, l + 1, 0, r', h => by simp [room] at h
  | .mk _ _ ks, l + 1, r + 1, r', h => by
    simp only [room] at h
    have := roomL_le ks l r r' h
    omega
theorem roomL_le : ∀ (ks : List T) (l r r' : Nat), roomL ks l r = some r' → r' ≤ r
  | [], l, r, r', h => by simp only [roomL, Option.some.injEq] at h; omega
  | k :: ks, l, r, r', h => by
    simp only [roomL] at h
    split at h
    · cases h
    · next q hq =>
      have h1 := room_le k l r q hq
      have h2 := roomL_le ks l q r' h
      omega
end
theorem room_mk (t : T) (l r : Nat) : room t (l + 1) (r + 1) = roomL t.ks l r := by cases t; simp [room, T.ks]
theorem room_0l (t : T) (r : Nat) : room t 0 r = none := by cases t; simp [room]
theorem room_0r (t : T) (l : Nat) : room t (l + 1) 0 = none := by cases t; simp [room]
theorem drop_next {ks : List T} {j : Nat} {k : T} (h : ks[j]? = some k) : ks.drop j = k :: ks.drop (j + 1) := by
  obtain ⟨hj, rfl⟩ := List.getElem?_eq_some_iff.1 h
  exact List.drop_eq_getElem_cons hj
def Room (t : T) (l r : Nat) (w : World) (e : Ending) (w' : World) : Prop := e = .returned (.int .i64 (opt (room t l r))) ∧ Below w.heap.size w w'
set_option maxHeartbeats 4000000 in
theorem room_any : ∀ (f : Nat) {h : Hd} {t : T} {w : World}, Tr w w.heap.size f h t → ∀ {l r : Nat}, l ≤ 16 → r ≤ 4096 → Calls Try.prog 36 #[h.val, .int .i64 (l : Int), .int .i64 (r : Int)] w (Room t l r w)
  | 0, _, _, _, H, _, _, _, _ => H.elim
  | f + 1, h, t, w, H, l, r, hl, hr => by
    have IH := fun {h : Hd} {t : T} {w : World} (H : Tr w w.heap.size f h t) {l r : Nat} (hl : l ≤ 16) (hr : r ≤ 4096) => room_any f H hl hr
    have hb : Below w.heap.size w (w.alloc (.cells h.cells 25)) := (Below.refl _ _).alloc (Nat.le_refl _) _
    obtain ⟨-, -, -, -, K⟩ := H.parts
    obtain ⟨ht, hA, hn, hc, hK, hm, hd⟩ := h
    have HK := Lib.hid K
    have HB := Lib.hid hb
    have HI : Hid (∀ {h : Hd} {t : T} {w : World} (H : Tr w w.heap.size f h t) {l r : Nat} (hl : l ≤ 16) (hr : r ≤ 4096), Calls Try.prog 36 #[h.val, .int .i64 (l : Int), .int .i64 (r : Int)] w (Room t l r w)) := @IH
    have HM := Lib.hid K.len
    have HML := K.lim
    clear K H hb IH
    unfold Hd.val Hd.cells at *
    by_cases l0 : l = 0
    · subst l0
      go_enter Try.func36, Try.ntmps36
      go_wp2_with fail
      go_ret
      exact ⟨by rw [room_0l]; rfl, HB.out⟩
    obtain ⟨l', hl'⟩ : ∃ l', l = l' + 1 := ⟨l - 1, by omega⟩
    have k1 : ((l : Int) == 0) = false := by rw [beq_eq_false_iff_ne]; omega
    have k1' : ((l : Int) = 0) = False := by simp only [eq_iff_iff, iff_false]; omega
    by_cases r0 : r = 0
    · have HF := Lib.hid (show room t l r = none by rw [hl', r0]; exact room_0r _ _)
      subst r0
      clear hl' l0
      go_enter Try.func36, Try.ntmps36
      go_wp2_with fail
      go_ret
      exact ⟨by rw [HF.out]; rfl, HB.out⟩
    obtain ⟨r', hr'⟩ : ∃ r', r = r' + 1 := ⟨r - 1, by omega⟩
    have k2 : ((r : Int) == 0) = false := by rw [beq_eq_false_iff_ne]; omega
    have k2' : ((r : Int) = 0) = False := by simp only [eq_iff_iff, iff_false]; omega
    have HR := Lib.hid (show room t l r = roomL t.ks l' r' by rw [hl', hr']; exact room_mk t l' r')
    have k3 : (l : Int) - 1 = (l' : Int) := by omega
    have k4 : (r : Int) - 1 = (r' : Int) := by omega
    have hl2 : l' ≤ 16 := by omega
    have hr2 : r' ≤ 4096 := by omega
    clear hl' hr' l0 r0
    go_enter Try.func36, Try.ntmps36
    go_wp2_with fail
    clear k1 k1' k2 k2' k4
    go_loopw [2, 20] (fun a i wr => ∃ j q : Nat, j ≤ hm ∧ q ≤ 4096 ∧ a = .int .i64 (q : Int) ∧ i = .int .i64 (j : Int) ∧ Hid (roomL (t.ks.drop j) l' q = roomL t.ks l' r') ∧ Hid (Below w.heap.size w wr)) (fun _ i _ => hm - (intOf i).toNat)
    case atStart => exact ⟨0, r', Nat.zero_le _, hr2, rfl, rfl, Lib.hid rfl, HB⟩
    case round =>
      obtain ⟨j, q, hj, hq, rfl, rfl, hR, hBr⟩ := hrel
      by_cases hlt : j < hm
      · have e1 : (j : Int) < (hm : Int) := by omega
        obtain ⟨k, hk⟩ : ∃ k, t.ks[j]? = some k := ⟨_, List.getElem?_eq_getElem (by rw [HM.out]; exact hlt)⟩
        obtain ⟨-, g, off, rfl, hg, h', q0, q1, q2, q3⟩ := (HK.out.below hBr.out).at_ hk
        have b2 : Below wr.heap.size wr (wr.alloc (.cells h'.cells 25)) := (Below.refl _ _).alloc (Nat.le_refl _) _
        have HT := Lib.hid ((q3.more hBr.out.size).up b2)
        have HB2 := Lib.hid (bthen hBr.out b2)
        have HKk := Lib.hid hk
        clear b2 q3 hk
        obtain ⟨a1, a2, a3, a4, a5, a6, a7⟩ := h'
        unfold Hd.cells at *
        dsimp only at *
        have s0 : wrap64 ((j : Int) + 1) = ((j + 1 : Nat) : Int) := by unfold wrap64; omega
        have HC := Lib.hid (HI.out HT.out hl2 hq)
        unfold Hd.val at HC
        dsimp only at HC
        go_wp2_with fail
        refine (HC.out).mono ?_
        rintro e w3 ⟨rfl, b3⟩
        have HB3 := Lib.hid (bthen HB2.out b3)
        have hdr := drop_next HKk.out
        rcases hrk : room k l' q with _ | q'
        · have HF := Lib.hid (show room t l r = none by rw [HR.out, ← hR.out, hdr]; simp only [roomL, hrk])
          clear hdr hrk b3
          dsimp only [opt]
          go_wp2_with fail
          go_ret
          exact ⟨by rw [HF.out]; rfl, HB3.out⟩
        · have HF := Lib.hid (show roomL (t.ks.drop (j + 1)) l' q' = roomL t.ks l' r' by rw [← hR.out, hdr]; simp only [roomL, hrk])
          have hq' := room_le k l' q q' hrk
          have k5 : ((q' : Int) < 0) = False := by simp only [eq_iff_iff, iff_false]; omega
          have hq2 : q' ≤ 4096 := by omega
          have HJ := Lib.hid hlt
          clear hdr hrk b3 hlt hq'
          dsimp only [opt]
          go_wp2_with fail
          exact ⟨⟨j + 1, q', HJ.out, hq2, rfl, by go_num, HF, HB3⟩, by show hm - ((j : Int) + 1).toNat < hm - (j : Int).toNat; have := HJ.out; omega⟩
      · have e1' : ((j : Int) < (hm : Int)) = False := by simp only [eq_iff_iff, iff_false]; omega
        have HF := Lib.hid (show room t l r = some q by rw [HR.out, ← hR.out, List.drop_of_length_le (by rw [HM.out]; omega)]; rfl)
        clear hlt
        go_wp2_with fail
        go_ret
        exact ⟨by rw [HF.out]; rfl, hBr.out⟩
end Go.Proofs.Ytddpgckbdccldaa
