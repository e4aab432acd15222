/- Bytes in memory that read as a list; arrays of bytes; rows that a call builds; parts of slices; their text. -/
import Derived.Test.YtddjgjaifflpeaaDoorProg
import Derived.WalkKit
import Derived.Below
import Derived.Laws.OwnMore
import Derived.Laws.CopyOwn
import Derived.Laws.CopyRow
import Derived.Laws.Rows
import Derived.Laws.Tables
import Derived.Laws.BytesArg
import Derived.Laws.StructEq
import Derived.Deep.Draws
import Derived.Deep.QuietTactic
import Derived.BigQuiet
import Derived.Lib.Hide
import Derived.OwnWalk
import Derived.WalkLawsBesides
import Derived.WalkSpells
namespace Go.Proofs.YtddjgjaifflpeaaDoor
open Go.RowKit
set_option linter.unusedVariables false
set_option maxRecDepth 100000

/-- the cells of a row of bytes -/
def bs (xs : List Nat) : List Value := xs.map fun x : Nat => .int .u8 (x : Int)
def Lim (n : Nat) (xs : List Nat) : Prop := ∀ x ∈ xs, x < n
theorem Lim.nil (n : Nat) : Lim n [] := fun _ h => by cases h
theorem Lim.append {n : Nat} {xs ys : List Nat} (h : Lim n xs) (k : Lim n ys) : Lim n (xs ++ ys) := fun x hx => (List.mem_append.1 hx).elim (h x) (k x)
theorem Lim.one {n x : Nat} (h : x < n) : Lim n [x] := fun y hy => by simp at hy; omega
theorem Lim.take {n : Nat} {xs : List Nat} (h : Lim n xs) (k : Nat) : Lim n (xs.take k) := fun x hx => h x (List.mem_of_mem_take hx)
theorem Lim.drop {n : Nat} {xs : List Nat} (h : Lim n xs) (k : Nat) : Lim n (xs.drop k) := fun x hx => h x (List.mem_of_mem_drop hx)
theorem Lim.get {n : Nat} {xs : List Nat} (h : Lim n xs) (hn : 0 < n) (k : Nat) : xs.getD k 0 < n := by
  by_cases hk : k < xs.length
  · simpa [List.getD, List.getElem?_eq_getElem hk] using h _ (List.getElem_mem hk)
  · simpa [List.getD, List.getElem?_eq_none (show xs.length ≤ k by omega)] using hn
/-- the slice value '.slice A n c' reads as the bytes xs; it lies below block B -/
structure Nb (w : World) (B : Nat) (A : Option Addr) (n c : Nat) (xs : List Nat) : Prop where
  len : xs.length = n
  cap : n ≤ c
  room : c ≤ 9223372036854775807
  lim : Lim 256 xs
  cell : 0 < n → ∃ b off, A = some ⟨b, off, none⟩ ∧ b < B ∧ ∀ j x : Nat, xs[j]? = some x → w.cell? ⟨b, off + j, none⟩ = some (.int .u8 (x : Int))
theorem Nb.at_ {w : World} {B : Nat} {A : Option Addr} {n c : Nat} {xs : List Nat} (h : Nb w B A n c xs) {k : Nat} (hk : k < n) :
    ∃ b off, A = some ⟨b, off, none⟩ ∧ b < B ∧ w.cell? ⟨b, off + k, none⟩ = some (.int .u8 ((xs.getD k 0 : Nat) : Int)) := by
  obtain ⟨b, off, e, hb, hc⟩ := h.cell (by omega)
  have hl : k < xs.length := by rw [h.len]; exact hk
  refine ⟨b, off, e, hb, ?_⟩
  have := hc k xs[k] (List.getElem?_eq_getElem hl)
  rw [this]
  simp [List.getD, List.getElem?_eq_getElem hl]
theorem Nb.keep {w w' : World} {B : Nat} {A : Option Addr} {n c : Nat} {xs : List Nat} (h : Nb w B A n c xs) (hk : ∀ p : Addr, p.block < B → w'.cell? p = w.cell? p) : Nb w' B A n c xs :=
  ⟨h.len, h.cap, h.room, h.lim, fun hn => by
    obtain ⟨b, off, e, hb, hc⟩ := h.cell hn
    exact ⟨b, off, e, hb, fun j x hx => (hk _ hb).trans (hc j x hx)⟩⟩
theorem Nb.more {w : World} {B B' : Nat} {A : Option Addr} {n c : Nat} {xs : List Nat} (h : Nb w B A n c xs) (hB : B ≤ B') : Nb w B' A n c xs :=
  ⟨h.len, h.cap, h.room, h.lim, fun hn => by
    obtain ⟨b, off, e, hb, hc⟩ := h.cell hn
    exact ⟨b, off, e, by omega, hc⟩⟩
theorem Nb.below {w w' : World} {B : Nat} {A : Option Addr} {n c : Nat} {xs : List Nat} (h : Nb w B A n c xs) (hb : Below B w w') : Nb w' B A n c xs := h.keep fun _ hp => hb.cell hp
theorem Nb.bel {w w' : World} {B : Nat} {A : Option Addr} {n c : Nat} {xs : List Nat} (h : Nb w w.heap.size A n c xs) (hb : Below B w w') (hB : w.heap.size ≤ B) : Nb w' w'.heap.size A n c xs :=
  (h.keep fun _ hp => hb.cell (by omega)).more hb.size
theorem Nb.drewN {w : World} {B : Nat} {A : Option Addr} {n c : Nat} {xs : List Nat} (h : Nb w B A n c xs) (k : Nat) : Nb (w.drewN k) B A n c xs := ⟨h.len, h.cap, h.room, h.lim, h.cell⟩
theorem Nb.nil (w : World) (B c : Nat) (h : c ≤ 9223372036854775807) (A : Option Addr) : Nb w B A 0 c [] := ⟨rfl, Nat.zero_le _, h, Lim.nil _, fun h => absurd h (Nat.lt_irrefl _)⟩
theorem below_drewN {B : Nat} {a w : World} (h : Below B a w) (n : Nat) : Below B a (w.drewN n) := ⟨h.os, h.tape, h.output, h.size, h.block⟩
theorem below_drew {B : Nat} {a w : World} (h : Below B a w) : Below B a w.drew := ⟨h.os, h.tape, h.output, h.size, h.block⟩
/-- a part of a row of bytes -/
theorem Nb.part {w : World} {B n c : Nat} {A : Option Addr} {xs : List Nat} (h : Nb w B A n c xs) {b off : Nat} (hA : A = some ⟨b, off, none⟩) (k m c' : Nat) (hk : k + m ≤ n) (hc : m ≤ c') (hc' : c' ≤ 9223372036854775807) :
    Nb w B (some ⟨b, off + k, none⟩) m c' ((xs.drop k).take m) :=
  ⟨by rw [List.length_take, List.length_drop, h.len]; omega, hc, hc', (h.lim.drop k).take m, fun hm => by
    obtain ⟨b', off', e, hb, hcell⟩ := h.cell (by omega)
    subst hA
    simp only [Option.some.injEq, Addr.mk.injEq, and_true] at e
    obtain ⟨rfl, rfl⟩ := e
    refine ⟨b, off + k, rfl, hb, fun j x hj => ?_⟩
    rw [List.getElem?_take] at hj
    split at hj
    · rw [List.getElem?_drop] at hj
      rw [Nat.add_assoc]
      exact hcell _ _ hj
    · cases hj⟩
theorem run_storeVar_row {P : Program} (w : World) (g : Nat) (ty : TypeId) (cs : List Value) (t : TypeId) (cur : Array Value) (hg : w.heap[g]? = some (.cells cur t (0, 0)))
    (h1 : ∀ v ∈ cs, v.oneCell' = true) (hs : cs.length = cur.size) (hi : (P.info? ty).map (·.size) = some cs.length) :
    (storeVar ty ⟨g, 0, none⟩ (.agg cs.toArray)).run P w = .ok () (w.setRow g cs.toArray) := by
  cases hq : P.info? ty with
  | none => simp [hq] at hi
  | some i =>
    have hsz : i.size = cs.length := by simpa [hq] using hi
    have hst := run_storeCells_at (P := P) g 0 t cs 0 cur w hg (by omega) h1
    have e : (List.take (0 + 0) cur.toList ++ cs ++ List.drop (0 + 0 + cs.length) cur.toList).toArray = cs.toArray := by
      rw [List.drop_eq_nil_of_le (by simp; omega)]; simp
    rw [e] at hst
    simp [storeVar, Sem.run_bind, sizeOf, typeInfo, hq, hsz, Value.cells, hst]
theorem wpList_store_row {P : Program} {ops : Array Oper} {rest : List Oper} {o : Oper} {a : Act} {w : World} {Q : Exit → Act → World → Prop} (hgd : o.guard = none) (hd : o.dst = none) (ty : TypeId) (x v : Operand) (ho : o.op = .store ty x v)
    (g : Nat) (hx : a.eval x = .pointer (some ⟨g, 0, none⟩)) (cs : List Value) (hv : a.eval v = .agg cs.toArray) (t : TypeId) (cur : Array Value) (hg : w.heap[g]? = some (.cells cur t (0, 0)))
    (h1 : ∀ v ∈ cs, v.oneCell' = true) (hs : cs.length = cur.size) (hi : (P.info? ty).map (·.size) = some cs.length)
    (h : wpList P ops Q rest a (w.setRow g cs.toArray)) : wpList P ops Q (o :: rest) a w := by
  refine wpList_plain hgd fun K hK => ?_
  unfold Oper.wp execOp
  simp only [ho, hx, hv, Instr.storeAt, Instr.sureAddr, Sem.run_bind, Sem.run_pure, Result.andThen_ok, run_storeVar_row w g ty cs t cur hg h1 hs hi]
  have := hK _ _ h
  simpa [Oper.upon, hd, Act.put] using this
set_option maxRecDepth 100000

theorem bs_one (xs : List Nat) : ∀ v ∈ bs xs, v.oneCell' = true := by
  intro v hv
  simp only [bs, List.mem_map] at hv
  obtain ⟨x, _, rfl⟩ := hv
  rfl
theorem length_bs (xs : List Nat) : (bs xs).length = xs.length := by simp [bs]
/-- block g is just the bytes xs, of a type t -/
def Bb (w : World) (g t : Nat) (xs : List Nat) : Prop := w.heap[g]? = some (.cells (bs xs).toArray t (0, 0))
theorem Bb.lt {w : World} {g t : Nat} {xs : List Nat} (h : Bb w g t xs) : g < w.heap.size := by
  rcases Nat.lt_or_ge g w.heap.size with hlt | hge
  · exact hlt
  · unfold Bb at h; rw [Array.getElem?_eq_none hge] at h; cases h
theorem Bb.cell {w : World} {g t : Nat} {xs : List Nat} (h : Bb w g t xs) {j x : Nat} (hx : xs[j]? = some x) : w.cell? ⟨g, j, none⟩ = some (.int .u8 (x : Int)) := by
  rw [cell_of_row w g j (bs xs).toArray t (0, 0) h]
  simp [bs, hx]
theorem Bb.cellD {w : World} {g t : Nat} {xs : List Nat} (h : Bb w g t xs) {j : Nat} (hj : j < xs.length) : w.cell? ⟨g, j, none⟩ = some (.int .u8 ((xs.getD j 0 : Nat) : Int)) := by
  refine h.cell ?_
  simp [List.getD, List.getElem?_eq_getElem hj]
theorem Bb.frozen {w : World} {g t : Nat} {xs : List Nat} (h : Bb w g t xs) (j : Nat) : w.frozen? ⟨g, j, none⟩ = false := by
  unfold Bb at h
  simp [World.frozen?, h]
theorem Bb.set_ {w : World} {g t : Nat} {xs : List Nat} (h : Bb w g t xs) (j x : Nat) : Bb (w.setCell ⟨g, j, none⟩ (.int .u8 (x : Int))) g t (xs.set j x) := by
  unfold Bb at h ⊢
  simp [World.setCell, Array.getElem?_modify, h, bs]
theorem Bb.drewN {w : World} {g t : Nat} {xs : List Nat} (h : Bb w g t xs) (n : Nat) : Bb (w.drewN n) g t xs := h
theorem Bb.drew {w : World} {g t : Nat} {xs : List Nat} (h : Bb w g t xs) : Bb w.drew g t xs := h
theorem Bb.alloc {w : World} {g t : Nat} {xs : List Nat} (h : Bb w g t xs) (o : Obj) : Bb (w.alloc o) g t xs := (Below.heap_alloc w o g h.lt).trans h
theorem Bb.below {w w' : World} {B g t : Nat} {xs : List Nat} (h : Bb w g t xs) (hb : Below B w w') (hg : g < B) : Bb w' g t xs := (hb.block g hg).trans h
theorem Bb.nb {w : World} {g t : Nat} {xs : List Nat} (h : Bb w g t xs) (off n c : Nat) (hn : off + n ≤ xs.length) (hc : n ≤ c) (hc' : c ≤ 9223372036854775807) (hL : Lim 256 xs) :
    Nb w w.heap.size (some ⟨g, off, none⟩) n c ((xs.drop off).take n) :=
  ⟨by rw [List.length_take, List.length_drop]; omega, hc, hc', (hL.drop off).take n, fun _ => ⟨g, off, rfl, h.lt, fun j x hj => by
    rw [List.getElem?_take] at hj
    split at hj
    · rw [List.getElem?_drop] at hj
      exact h.cell hj
    · cases hj⟩⟩
def Yb (t : TypeId) (xs : List Nat) : Obj := .cells (bs xs).toArray t (0, 0)
theorem alloc_bb (w : World) (t : TypeId) (xs : List Nat) : Bb (w.alloc (Yb t xs)) w.heap.size t xs := heap_alloc_new w _
theorem ownsRow_nb {w : World} {base n : Nat} {v : Value} {xs : List Nat} (hl : xs.length = n) (hL : Lim 256 xs) (h : w.ownsRow base 5 1 v n (bs xs)) : ∃ A c, v = .slice A n c ∧ Nb w w.heap.size A n c xs := by
  rcases h.2 with ⟨rfl, he⟩ | ⟨g, cap, cur, rfl, hg, hheap, hnc, hcm, hcs, hx⟩
  · subst he
    exact ⟨_, _, rfl, hl, Nat.zero_le _, Nat.zero_le _, hL, fun h => absurd h (Nat.lt_irrefl _)⟩
  · refine ⟨_, _, rfl, hl, hnc, hcm, hL, fun h0 => ⟨g, 0, rfl, ?_, fun j x hj => ?_⟩⟩
    · rcases Nat.lt_or_ge g w.heap.size with hlt | hge
      · exact hlt
      · rw [Array.getElem?_eq_none hge] at hheap; cases hheap
    · rw [cell_of_row w g _ cur 5 (0, 0) hheap, Nat.zero_add]
      have : (List.take (n * 1) cur.toList)[j]? = some (.int .u8 (x : Int)) := by rw [hx]; simp [bs, hj]
      rw [List.getElem?_take] at this
      split at this
      · simpa using this
      · cases this
theorem Nb.olds {w : World} {B n c : Nat} {ad : Addr} {xs : List Nat} (h : Nb w B (some ad) n c xs) : ∀ j u, (bs xs)[j]? = some u → w.cell? (ad.add j) = some u := by
  intro j u hj
  simp only [bs, List.getElem?_map, Option.map_eq_some_iff] at hj
  obtain ⟨y, hy, rfl⟩ := hj
  have hjn : j < n := by
    rw [← h.len]
    rcases Nat.lt_or_ge j xs.length with h' | h'
    · exact h'
    · rw [List.getElem?_eq_none h'] at hy; cases hy
  obtain ⟨b, off, e, _, hc⟩ := h.cell (by omega)
  cases e
  by_cases hj0 : j = 0
  · subst hj0; simpa [Addr.add] using hc 0 y hy
  · simpa [Addr.add, hj0] using hc j y hy
theorem Nb.far {W w : World} {A : Option Addr} {n c : Nat} {xs : List Nat} (h : Nb W W.heap.size A n c xs) (B : Below W.heap.size W w) : Nb w w.heap.size A n c xs := (h.below B).more B.size
theorem then_ {W w w' : World} (B : Below W.heap.size W w) (b : Below w.heap.size w w') : Below W.heap.size W w' := B.trans (b.mono B.size)
set_option maxRecDepth 100000

theorem own_shape {w : World} {base e n : Nat} {v : Value} {xs : List Value} (h : w.ownsRow base e 1 v n xs) : ∃ A c, v = .slice A n c := by
  rcases h.2 with ⟨rfl, rfl⟩ | ⟨g, cap, cur, rfl, _⟩
  · exact ⟨_, _, rfl⟩
  · exact ⟨_, _, rfl⟩
theorem run_app_nil {P : Program} (w : World) (base : Nat) (t ty e : TypeId) (i : TypeInfo) (size : Nat) (ht : P.underlying t = some (.slice e)) (hi : P.info? e = some i)
    (v : Value) (n : Nat) (xs : List Value) (hown : w.ownsRow base e size v n xs) (c : Nat) : (Builtin.append_ #[t, t] ty #[v, .slice none 0 c]).run P w = .ok v w := by
  rcases hown.2 with ⟨rfl, rfl⟩ | ⟨g, cap, cur, rfl, _, _, hnc, _⟩
  · simp [Builtin.append_, run_underlying ht, sizeOf, typeInfo, hi, Builtin.lenOf, Builtin.firstCells]
  · simp [Builtin.append_, run_underlying ht, sizeOf, typeInfo, hi, Builtin.lenOf, Builtin.firstCells, hnc, storeCells]
theorem Tryd.info5' : (Tryd.prog.info? 5).map (fun i => (i.zero, i.size, i.bytes)) = some (some (.int .u8 0), 1, 1) := by kernel_rfl
/-- a row of the call's own, blocks from base on -/
def Gb (w : World) (base : Nat) (A : Option Addr) (n c : Nat) (xs : List Nat) : Prop := xs.length = n ∧ w.ownsRow base 5 1 (.slice A n c) n (bs xs)
theorem Gb.nil (w : World) (base : Nat) : Gb w base none 0 0 [] := ⟨rfl, World.ownsRow_nil w base 5 1⟩
theorem bs_append (xs ys : List Nat) : bs (xs ++ ys) = bs xs ++ bs ys := by simp [bs]
/-- a row behind it -/
theorem wpList_app_row_b (w : World) {ops : Array Oper} {rest : List Oper} {o : Oper} {a : Act} {Q : Exit → Act → World → Prop} (hgd : o.guard = none) (s x : Operand)
    (ho : o.op = .call { callee := .builtin .append, args := #[s, x], argTypes := #[56, 56] }) {base n c B m c2 : Nat} {A A2 : Option Addr} {xs ys : List Nat} {w0 : World}
    (hs : a.eval s = .slice A n c) (hown : Gb w base A n c xs) (hx : a.eval x = .slice A2 m c2) (hr : Nb w B A2 m c2 ys)
    (hn : n + m ≤ 1099511627776) (hb : Below base w0 w) (hbase : base ≤ w.heap.size)
    (h : ∀ A' c' w', Gb w' base A' (n + m) c' (xs ++ ys) → Below base w0 w' → wpList Tryd.prog ops Q rest (a.put o.dst (.slice A' (n + m) c')) w') : wpList Tryd.prog ops Q (o :: rest) a w := by
  obtain ⟨i0, hi, hz0, hz1, hz2⟩ := info_parts Tryd.info5'
  rcases A2 with _ | ad
  · have hm : m = 0 := by
      rcases Nat.eq_zero_or_pos m with h0 | h0
      · exact h0
      · obtain ⟨b, off, e, _⟩ := hr.cell h0
        cases e
    subst hm
    have hy : ys = [] := List.eq_nil_of_length_eq_zero hr.len
    subst hy
    refine wpList_plain hgd fun K hK => ?_
    have hrun := run_app_nil (P := Tryd.prog) w base 56 o.type 5 i0 1 Tryd.underlying56 hi (.slice A n c) n (bs xs) hown.2 c2
    unfold Oper.wp
    simp [execOp, ho, resolve, invoke, builtin, hs, hx, hrun, Result.andThen]
    exact hK _ _ (h A c w (by simpa using hown) hb)
  · refine wpList_append_own w hgd s x 56 ho base 5 i0 (.int .u8 0) 1 1 Tryd.underlying56 hi hz0 hz1 hz2 rfl (by decide) _ n (bs xs) hs hown.2 ad m c2 (bs ys) hx (by simp [bs, hr.len]) ?_ (bs_one ys) (by unfold maxLen; omega) (by omega) hbase ?_
    · exact Nb.olds hr
    · intro v' w' hown' hgrow _
      obtain ⟨A', c', rfl⟩ := own_shape hown'
      refine h A' c' w' ⟨by simp [hown.1, hr.len], by rw [bs_append]; exact hown'⟩ (hb.grown hgrow hbase fun k hk => (hown.2.lt k hk).1)
theorem Gb.alloc {w : World} {base : Nat} {A : Option Addr} {n c : Nat} {xs : List Nat} (h : Gb w base A n c xs) (o : Obj) : Gb (w.alloc o) base A n c xs := ⟨h.1, h.2.alloc o⟩
theorem Gb.nb {w : World} {base n c : Nat} {A : Option Addr} {xs : List Nat} (h : Gb w base A n c xs) (hL : Lim 256 xs) : Nb w w.heap.size A n c xs := by
  obtain ⟨A', c', e, h'⟩ := ownsRow_nb h.1 hL h.2
  cases e
  exact h'
set_option maxRecDepth 100000

theorem elem56 : Tryd.prog.elem 56 = 5 := by kernel_rfl
theorem und56 : Tryd.prog.underlying 56 = some (.slice (Tryd.prog.elem 56)) := by rw [elem56]; exact Tryd.underlying56
theorem size5 (W : World) : (sizeOf (Tryd.prog.elem 56)).run Tryd.prog W = .ok 1 W := by rw [elem56]; kernel_rfl
theorem cut_nb {w : World} {B n c : Nat} {A : Option Addr} {xs : List Nat} (h : Nb w B A n c xs) (i k : Nat) (hik : i ≤ k) (hkn : k ≤ n) :
    Nb w B (if c = i then A else A.map (·.add (i * 1))) (k - i) (c - i) ((xs.drop i).take (k - i)) := by
  have hc := h.cap
  have hr := h.room
  by_cases h0 : k - i = 0
  · rw [h0, List.take_zero]
    exact Nb.nil w B (c - i) (by omega) _
  · obtain ⟨b, off, rfl, hb, -⟩ := h.cell (by omega)
    have := h.part rfl i (k - i) (c - i) (by omega) (by omega) (by omega)
    rw [if_neg (by omega)]
    by_cases hi : i = 0
    · subst hi; simpa [Addr.add] using this
    · simpa [Addr.add, hi] using this
theorem cut_lh {w : World} {B n c : Nat} {A : Option Addr} {xs : List Nat} (h : Nb w B A n c xs) (i k : Nat) (hik : i ≤ k) (hkn : k ≤ n) :
    ∃ A' c', (∀ W, (Instr.sliceAt 56 (.slice A n c) (some (.int .i64 (i : Int))) (some (.int .i64 (k : Int))) none).run Tryd.prog W = .ok (.slice A' (k - i) c') W) ∧ Nb w B A' (k - i) c' ((xs.drop i).take (k - i)) := by
  have hc := h.cap
  refine ⟨_, _, fun W => ?_, cut_nb h i k hik hkn⟩
  rw [run_sliceAt_slice W 56 _ _ _ _ und56, run_slice_lh W 56 A n c und56 .i64 .i64 i k (by omega) (by omega) (by omega), size5]
  simp [Result.andThen, sliced]
theorem cut_h {w : World} {B n c : Nat} {A : Option Addr} {xs : List Nat} (h : Nb w B A n c xs) (k : Nat) (hkn : k ≤ n) :
    ∃ A' c', (∀ W, (Instr.sliceAt 56 (.slice A n c) none (some (.int .i64 (k : Int))) none).run Tryd.prog W = .ok (.slice A' k c') W) ∧ Nb w B A' k c' (xs.take k) := by
  have hc := h.cap
  have hn := cut_nb h 0 k (by omega) hkn
  rw [Nat.sub_zero, List.drop_zero, Nat.sub_zero] at hn
  refine ⟨_, _, fun W => ?_, hn⟩
  rw [run_sliceAt_slice W 56 _ _ _ _ und56, run_slice_h W 56 A n c und56 .i64 k (by omega) (by omega), size5]
  simp [Result.andThen, sliced]
theorem cut_l {w : World} {B n c : Nat} {A : Option Addr} {xs : List Nat} (h : Nb w B A n c xs) (i : Nat) (hin : i ≤ n) :
    ∃ A' c', (∀ W, (Instr.sliceAt 56 (.slice A n c) (some (.int .i64 (i : Int))) none none).run Tryd.prog W = .ok (.slice A' (n - i) c') W) ∧ Nb w B A' (n - i) c' (xs.drop i) := by
  have hc := h.cap
  have hn := cut_nb h i n hin (Nat.le_refl _)
  rw [List.take_of_length_le (by rw [List.length_drop, h.len]; omega)] at hn
  refine ⟨_, _, fun W => ?_, hn⟩
  rw [run_sliceAt_slice W 56 _ _ _ _ und56, run_slice_l W 56 A n c und56 .i64 i (by omega) (by omega), size5]
  simp [Result.andThen, sliced]
set_option maxRecDepth 100000

/-- the text of some bytes -/
def bstr (xs : List Nat) : ByteArray := strOfNums (xs.map fun x : Nat => (x : Int))
theorem conv_nb {w : World} {B n c b off : Nat} {xs : List Nat} (h : Nb w B (some ⟨b, off, none⟩) n c xs) : (convert 56 9 (.slice (some ⟨b, off, none⟩) n c)).run Tryd.prog w = .ok (.string (bstr xs)) w := by
  have h9 : Tryd.prog.underlying 9 = some .string := by kernel_rfl
  refine run_convert_bytes_arg w 56 5 Tryd.underlying56 Tryd.underlying5 b off n c (xs.map fun x : Nat => (x : Int)) (by simp [h.len]) (fun i hi => ?_) 9 h9
  obtain ⟨b', off', e, _, hc⟩ := h.at_ hi
  cases e
  rw [hc]
  have : i < xs.length := by rw [h.len]; exact hi
  simp [List.getD, List.getElem?_eq_getElem this]
set_option maxRecDepth 100000
theorem run_forIn_all {P : Program} {w : World} {α β : Type} (f : α → β → Sem (ForInStep β)) (s : β) : ∀ (l : List α), (∀ i ∈ l, (f i s).run P w = .ok (.yield s) w) → (forIn l s f).run P w = .ok s w
  | [], _ => by simp [Sem.run_pure]
  | i :: l, h => by
    rw [List.forIn_cons]
    simp only [Sem.run_bind, h i (by simp), Result.andThen]
    exact run_forIn_all f s l (fun j hj => h j (by simp [hj]))
theorem part_u8 (cs : Array Value) (i : Nat) (v : Value) (h : cs[i]? = some v) (W : World) : (part 5 cs i).run Tryd.prog W = .ok v W := by
  have ha : (isAgg 5).run Tryd.prog W = .ok false W := by kernel_rfl
  simp [part, Sem.run_bind, ha, h, Result.andThen, Sem.run_pure]
theorem eq_arr (D : List Nat) (hD : D.length = 10) (W : World) : (binOp .eql 51 (.agg (bs D).toArray) (.agg (bs D).toArray)).run Tryd.prog W = .ok (.bool true) W := by
  rw [run_eql_struct]
  have hs : (sizeOf 5).run Tryd.prog W = .ok 1 W := by kernel_rfl
  unfold Op.equalIn
  simp only [Sem.run_bind, run_underlying Tryd.underlying51, Result.andThen, hs, Std.Legacy.Range.forIn_eq_forIn_range']
  rw [run_forIn_all]
  · simp [Sem.run_pure]
  · intro i hi
    simp at hi
    have hb : (bs D).toArray[i]? = some (.int .u8 ((D.getD i 0 : Nat) : Int)) := by
      simp [bs, List.getD, List.getElem?_eq_getElem (show i < D.length by omega)]
    generalize D.getD i 0 = x at hb
    have e1 := part_u8 _ _ _ hb W
    have e2 : (Op.equalIn 9999 5 (.int .u8 (x : Int)) (.int .u8 (x : Int))).run Tryd.prog W = .ok true W := by
      rw [run_equalIn_int W 9998 5 .u8 .u8 _ _ Tryd.underlying5]; simp
    simp [Sem.run_bind, e1, e2, Result.andThen, Sem.run_pure]
end Go.Proofs.YtddjgjaifflpeaaDoor
