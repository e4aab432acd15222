/- wire: numbers at the end of bytes. -/
import Derived.Test.YtompggkdjbkjjaaWiW3
import Derived.Maps.AppendAt
namespace Go.Proofs.Ytompggkdjbkjjaa.Wi
open Go.RowKit
set_option linter.unusedVariables false
set_option maxRecDepth 100000
/-- the block that a row lies in -/
def blk (A : Option Addr) : Option Nat := A.map (·.block)
/-- a row grew: every other block that was there is as it was -/
def Gr (w : World) (A : Option Addr) (w' : World) (A' : Option Addr) : Prop := w.grownBy w' (blk A) ∧ (blk A' = blk A ∨ ∃ k, blk A' = some k ∧ w.heap.size ≤ k)
theorem own_blk (A : Option Addr) (n c : Nat) : (Value.slice A n c).ownBlock = blk A := by cases A <;> rfl
theorem Gr.refl (w : World) (A : Option Addr) : Gr w A w A := ⟨⟨rfl, rfl, rfl, Nat.le_refl _, fun _ _ _ => rfl⟩, .inl rfl⟩
theorem Gr.trans {w w' w'' : World} {A A' A'' : Option Addr} (h : Gr w A w' A') (k : Gr w' A' w'' A'') : Gr w A w'' A'' := by
  obtain ⟨g, h2⟩ := h
  obtain ⟨g', k2⟩ := k
  refine ⟨⟨g'.os.trans g.os, g'.tape.trans g.tape, g'.output.trans g.output, Nat.le_trans g.size g'.size, fun q hq hne => ?_⟩, ?_⟩
  · refine (g'.block q (Nat.lt_of_lt_of_le hq g.size) fun e => ?_).trans (g.block q hq hne)
    rcases h2 with h2 | ⟨j, h2, hj⟩
    · exact hne (e.trans h2)
    · rw [h2] at e; cases e; omega
  · rcases k2 with k2 | ⟨j, k2, hj⟩
    · rcases h2 with h2 | ⟨i, h2, hi⟩
      · exact .inl (k2.trans h2)
      · exact .inr ⟨i, k2.trans h2, hi⟩
    · exact .inr ⟨j, k2, Nat.le_trans g.size hj⟩
theorem Gr.alloc {w w' : World} {A A' : Option Addr} (h : Gr w A w' A') (o : Obj) : Gr w A (w'.alloc o) A' := by
  obtain ⟨g, h2⟩ := h
  have b := (Below.refl w'.heap.size w').alloc (Nat.le_refl _) o
  exact ⟨⟨b.os.trans g.os, b.tape.trans g.tape, b.output.trans g.output, Nat.le_trans g.size b.size, fun q hq hne => (b.block q (Nat.lt_of_lt_of_le hq g.size)).trans (g.block q hq hne)⟩, h2⟩
theorem Gr.cell {w w' : World} {A A' : Option Addr} (h : Gr w A w' A') {p : Addr} (hp : p.block < w.heap.size) (hne : blk A ≠ some p.block) : w'.cell? p = w.cell? p :=
  World.cell?_of_block (h.1.block p.block hp fun e => hne e.symm)
theorem Gr.below {w0 w w' : World} {A A' : Option Addr} {B : Nat} (h : Gr w A w' A') (b : RowKit.Below B w0 w) (hB : B ≤ w.heap.size) (hA : ∀ k, blk A = some k → B ≤ k) : RowKit.Below B w0 w' :=
  b.grown h.1 hB hA
theorem wpList_app_g (w : World) {ops : Array Oper} {rest : List Oper} {o : Oper} {a : Act} {Q : Exit → Act → World → Prop} (hgd : o.guard = none) (s x : Operand)
    (ho : o.op = .call { callee := .builtin .append, args := #[s, x], argTypes := #[52, 52] }) {base n c g y : Nat} {A A0 : Option Addr} {xs : List Nat} {w0 : World}
    (hs : a.eval s = .slice A n c) (hown : Gb w base A n c xs) (hx : a.eval x = .slice (some ⟨g, 0, none⟩) 1 1) (hc : w.cell? ⟨g, 0, none⟩ = some (.int .u8 (y : Int)))
    (hn : n ≤ 1099511627776) (hb : Gr w0 A0 w A) (hbase : base ≤ w.heap.size)
    (h : ∀ A' c' w', Gb w' base A' (n + 1) c' (xs ++ [y]) → Gr w0 A0 w' A' → wpList Try.prog ops Q rest (a.put o.dst (.slice A' (n + 1) c')) w') : wpList Try.prog ops Q (o :: rest) a w := by
  obtain ⟨i0, hi, hz0, hz1, hz2⟩ := info_parts Try.info5'
  refine wpList_append_own_at w hgd s x 52 ho base 5 i0 (.int .u8 0) 1 1 Try.underlying52 hi hz0 hz1 hz2 rfl (by decide) _ n (bs xs) hs hown.2 ⟨g, 0, none⟩ 1 1 [.int .u8 (y : Int)] hx rfl ?_ ?_ (by unfold maxLen; omega) (by omega) hbase ?_
  · intro j u hj
    match j, hj with
    | 0, hj => simp at hj; subst hj; simpa [Addr.add] using hc
  · intro u hu; simp at hu; subst hu; rfl
  · intro v' w' hown' hgrow _ hat
    obtain ⟨A', c', rfl⟩ := own_shape hown'
    rw [own_blk] at hgrow
    rw [own_blk, own_blk] at hat
    refine h A' c' w' ⟨by simp [hown.1], by rw [bs_append]; exact hown'⟩ (hb.trans ⟨hgrow, hat.imp id fun e => ⟨_, e, Nat.le_refl _⟩⟩)
/-- numbers in a row -/
def Zs (w : World) (k : IntKind) (B : Option Addr) (m : Nat) (zs : List Int) : Prop :=
  zs.length = m ∧ (m = 0 ∨ ∃ g off, B = some ⟨g, off, none⟩ ∧ g < w.heap.size ∧ ∀ i z, zs[i]? = some z → w.cell? ⟨g, off + i, none⟩ = some (.int k z))
/-- a number's bytes, the greatest first -/
def by8 (s : Nat) (z : Int) (i : Nat) : Nat := (z / 2 ^ (8 * (s - 1 - i)) % 256).toNat
def be (s : Nat) (z : Int) : List Nat := (List.range s).map (by8 s z)
theorem be_length (s : Nat) (z : Int) : (be s z).length = s := by simp [be]
theorem be_take {s i : Nat} (z : Int) (h : i < s) : (be s z).take (i + 1) = (be s z).take i ++ [by8 s z i] := by
  unfold be
  rw [List.take_add_one]
  simp [h]
theorem be_row {w : World} {base : Nat} {A : Option Addr} {N c s t j : Nat} {xs : List Nat} {zs : List Int} {z : Int} (hz : zs[j]? = some z) (ht : t = (be s z).length)
    (h : Gb w base A N c (xs ++ (zs.take j).flatMap (be s) ++ (be s z).take t)) : Gb w base A N c (xs ++ (zs.take (j + 1)).flatMap (be s)) := by
  rw [List.take_add_one, hz, List.flatMap_append]
  rw [ht, List.take_length, List.append_assoc] at h
  simpa using h



end Go.Proofs.Ytompggkdjbkjjaa.Wi
