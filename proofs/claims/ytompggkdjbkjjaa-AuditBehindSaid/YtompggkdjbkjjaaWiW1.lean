/- wire: rows of bytes that a call reads or builds; bytes told as a string. -/
import Derived.Test.YtompggkdjbkjjaaProg
import Derived.WalkKit
import Derived.WalkLawsBesides
import Derived.Below
import Derived.Lib.Hide
import Derived.Laws.CopyOwn
import Derived.Laws.AppendOwn
import Derived.OwnWalk
import Derived.Deep.Draws
import Derived.Laws.BytesArg
import Derived.Laws.OwnMore
import Derived.LoopTactic
namespace Go.Proofs.Ytompggkdjbkjjaa.Wi
open Go.RowKit
set_option linter.unusedVariables false
set_option maxRecDepth 100000

def bs (xs : List Nat) : List Value := xs.map fun x : Nat => .int .u8 (x : Int)
theorem bs_one (xs : List Nat) : ∀ v ∈ bs xs, v.oneCell' = true := by
  intro v hv
  obtain ⟨x, _, rfl⟩ := List.mem_map.1 hv
  rfl
theorem Try.info5' : (Try.prog.info? 5).map (fun i => (i.zero, i.size, i.bytes)) = some (some (.int .u8 0), 1, 1) := by kernel_rfl
def Lim (n : Nat) (xs : List Nat) : Prop := ∀ x ∈ xs, x < n
theorem Lim.nil (n : Nat) : Lim n [] := fun _ h => by cases h
theorem Lim.append {n : Nat} {xs ys : List Nat} (h : Lim n xs) (k : Lim n ys) : Lim n (xs ++ ys) := fun x hx => (List.mem_append.1 hx).elim (h x) (k x)
theorem Lim.one {n x : Nat} (h : x < n) : Lim n [x] := fun y hy => by simp at hy; omega
theorem Lim.take {n : Nat} {xs : List Nat} (h : Lim n xs) (k : Nat) : Lim n (xs.take k) := fun x hx => h x (List.mem_of_mem_take hx)
theorem Lim.get {n : Nat} {xs : List Nat} (h : Lim n xs) (hn : 0 < n) (k : Nat) : xs.getD k 0 < n := by
  by_cases hk : k < xs.length
  · simpa [List.getD, List.getElem?_eq_getElem hk] using h _ (List.getElem_mem hk)
  · simpa [List.getD, List.getElem?_eq_none (show xs.length ≤ k by omega)] using hn
/-- the slice value '.slice A n c' reads as the bytes xs; it lies below block B -/
structure Nb (w : World) (B : Nat) (A : Option Addr) (n c : Nat) (xs : List Nat) : Prop where
  len : xs.length = n
  cap : n ≤ c
  room : c ≤ 9223372036854775807
  lim : Lim 256 xs
  cell : 0 < n → ∃ b off, A = some ⟨b, off, none⟩ ∧ b < B ∧ ∀ j x : Nat, xs[j]? = some x → w.cell? ⟨b, off + j, none⟩ = some (.int .u8 (x : Int))

theorem Nb.at_ {w : World} {B : Nat} {A : Option Addr} {n c : Nat} {xs : List Nat} (h : Nb w B A n c xs) {k : Nat} (hk : k < n) :
    ∃ b off, A = some ⟨b, off, none⟩ ∧ b < B ∧ w.cell? ⟨b, off + k, none⟩ = some (.int .u8 ((xs.getD k 0 : Nat) : Int)) := by
  obtain ⟨b, off, e, hb, hc⟩ := h.cell (by omega)
  have hl : k < xs.length := by rw [h.len]; exact hk
  refine ⟨b, off, e, hb, ?_⟩
  have := hc k xs[k] (List.getElem?_eq_getElem hl)
  rw [this]
  simp [List.getD, List.getElem?_eq_getElem hl]
theorem Nb.keep {w w' : World} {B : Nat} {A : Option Addr} {n c : Nat} {xs : List Nat} (h : Nb w B A n c xs) (hk : ∀ p : Addr, p.block < B → w'.cell? p = w.cell? p) : Nb w' B A n c xs :=
  ⟨h.len, h.cap, h.room, h.lim, fun hn => by
    obtain ⟨b, off, e, hb, hc⟩ := h.cell hn
    exact ⟨b, off, e, hb, fun j x hx => (hk _ hb).trans (hc j x hx)⟩⟩
theorem Nb.more {w : World} {B B' : Nat} {A : Option Addr} {n c : Nat} {xs : List Nat} (h : Nb w B A n c xs) (hB : B ≤ B') : Nb w B' A n c xs :=
  ⟨h.len, h.cap, h.room, h.lim, fun hn => by
    obtain ⟨b, off, e, hb, hc⟩ := h.cell hn
    exact ⟨b, off, e, by omega, hc⟩⟩
theorem Nb.below {w w' : World} {B : Nat} {A : Option Addr} {n c : Nat} {xs : List Nat} (h : Nb w B A n c xs) (hb : Below B w w') : Nb w' B A n c xs := h.keep fun _ hp => hb.cell hp
theorem Nb.nil (w : World) (B c : Nat) (h : c ≤ 9223372036854775807) (A : Option Addr) : Nb w B A 0 c [] := ⟨rfl, Nat.zero_le _, h, Lim.nil _, fun h => absurd h (Nat.lt_irrefl _)⟩

theorem length_bs (xs : List Nat) : (bs xs).length = xs.length := by simp [bs]
theorem Nb.olds {w : World} {B n c : Nat} {ad : Addr} {xs : List Nat} (h : Nb w B (some ad) n c xs) : ∀ j u, (bs xs)[j]? = some u → w.cell? (ad.add j) = some u := by
  intro j u hj
  simp only [bs, List.getElem?_map, Option.map_eq_some_iff] at hj
  obtain ⟨y, hy, rfl⟩ := hj
  have hjn : j < n := by
    rw [← h.len]
    rcases Nat.lt_or_ge j xs.length with h' | h'
    · exact h'
    · rw [List.getElem?_eq_none h'] at hy; cases hy
  obtain ⟨b, off, e, _, hc⟩ := h.cell (by omega)
  cases e
  by_cases hj0 : j = 0
  · subst hj0; simpa [Addr.add] using hc 0 y hy
  · simpa [Addr.add, hj0] using hc j y hy
theorem ownsRow_nb {w : World} {base n : Nat} {v : Value} {xs : List Nat} (hl : xs.length = n) (hL : Lim 256 xs) (h : w.ownsRow base 5 1 v n (bs xs)) : ∃ A c, v = .slice A n c ∧ Nb w w.heap.size A n c xs := by
  rcases h.2 with ⟨rfl, he⟩ | ⟨g, cap, cur, rfl, hg, hheap, hnc, hcm, hcs, hx⟩
  · subst he
    exact ⟨_, _, rfl, hl, Nat.zero_le _, Nat.zero_le _, hL, fun h => absurd h (Nat.lt_irrefl _)⟩
  · refine ⟨_, _, rfl, hl, hnc, hcm, hL, fun h0 => ⟨g, 0, rfl, ?_, fun j x hj => ?_⟩⟩
    · rcases Nat.lt_or_ge g w.heap.size with hlt | hge
      · exact hlt
      · rw [Array.getElem?_eq_none hge] at hheap; cases hheap
    · rw [cell_of_row w g _ cur 5 (0, 0) hheap, Nat.zero_add]
      have : (List.take (n * 1) cur.toList)[j]? = some (.int .u8 (x : Int)) := by rw [hx]; simp [bs, hj]
      rw [List.getElem?_take] at this
      split at this
      · simpa using this
      · cases this
theorem own_shape {w : World} {base e n : Nat} {v : Value} {xs : List Value} (h : w.ownsRow base e 1 v n xs) : ∃ A c, v = .slice A n c := by
  rcases h.2 with ⟨rfl, rfl⟩ | ⟨g, cap, cur, rfl, _⟩
  · exact ⟨_, _, rfl⟩
  · exact ⟨_, _, rfl⟩
theorem run_app_nil {P : Program} (w : World) (base : Nat) (t ty e : TypeId) (i : TypeInfo) (size : Nat) (ht : P.underlying t = some (.slice e)) (hi : P.info? e = some i)
    (v : Value) (n : Nat) (xs : List Value) (hown : w.ownsRow base e size v n xs) (c : Nat) : (Builtin.append_ #[t, t] ty #[v, .slice none 0 c]).run P w = .ok v w := by
  rcases hown.2 with ⟨rfl, rfl⟩ | ⟨g, cap, cur, rfl, _, _, hnc, _⟩
  · simp [Builtin.append_, run_underlying ht, sizeOf, typeInfo, hi, Builtin.lenOf, Builtin.firstCells]
  · simp [Builtin.append_, run_underlying ht, sizeOf, typeInfo, hi, Builtin.lenOf, Builtin.firstCells, hnc, storeCells]
/-- a row of the call's own, blocks from base on -/
def Gb (w : World) (base : Nat) (A : Option Addr) (n c : Nat) (xs : List Nat) : Prop := xs.length = n ∧ w.ownsRow base 5 1 (.slice A n c) n (bs xs)
theorem Gb.nil (w : World) (base : Nat) : Gb w base none 0 0 [] := ⟨rfl, World.ownsRow_nil w base 5 1⟩
theorem bs_append (xs ys : List Nat) : bs (xs ++ ys) = bs xs ++ bs ys := by simp [bs]
theorem wpList_app_b (w : World) {ops : Array Oper} {rest : List Oper} {o : Oper} {a : Act} {Q : Exit → Act → World → Prop} (hgd : o.guard = none) (s x : Operand)
    (ho : o.op = .call { callee := .builtin .append, args := #[s, x], argTypes := #[52, 52] }) {base n c g y : Nat} {A : Option Addr} {xs : List Nat} {w0 : World}
    (hs : a.eval s = .slice A n c) (hown : Gb w base A n c xs) (hx : a.eval x = .slice (some ⟨g, 0, none⟩) 1 1) (hc : w.cell? ⟨g, 0, none⟩ = some (.int .u8 (y : Int)))
    (hn : n ≤ 1099511627776) (hb : Below base w0 w) (hbase : base ≤ w.heap.size)
    (h : ∀ A' c' w', Gb w' base A' (n + 1) c' (xs ++ [y]) → Below base w0 w' → wpList Try.prog ops Q rest (a.put o.dst (.slice A' (n + 1) c')) w') : wpList Try.prog ops Q (o :: rest) a w := by
  obtain ⟨i0, hi, hz0, hz1, hz2⟩ := info_parts Try.info5'
  refine wpList_append_own w hgd s x 52 ho base 5 i0 (.int .u8 0) 1 1 Try.underlying52 hi hz0 hz1 hz2 rfl (by decide) _ n (bs xs) hs hown.2 ⟨g, 0, none⟩ 1 1 [.int .u8 (y : Int)] hx rfl ?_ ?_ (by unfold maxLen; omega) (by omega) hbase ?_
  · intro j u hj
    match j, hj with
    | 0, hj => simp at hj; subst hj; simpa [Addr.add] using hc
  · intro u hu; simp at hu; subst hu; rfl
  · intro v' w' hown' hgrow _
    obtain ⟨A', c', rfl⟩ := own_shape hown'
    refine h A' c' w' ⟨by simp [hown.1], by rw [bs_append]; exact hown'⟩ (hb.grown hgrow hbase fun k hk => (hown.2.lt k hk).1)
/-- a row behind it -/
theorem wpList_app_row_b (w : World) {ops : Array Oper} {rest : List Oper} {o : Oper} {a : Act} {Q : Exit → Act → World → Prop} (hgd : o.guard = none) (s x : Operand)
    (ho : o.op = .call { callee := .builtin .append, args := #[s, x], argTypes := #[52, 52] }) {base n c B m c2 : Nat} {A A2 : Option Addr} {xs ys : List Nat} {w0 : World}
    (hs : a.eval s = .slice A n c) (hown : Gb w base A n c xs) (hx : a.eval x = .slice A2 m c2) (hr : Nb w B A2 m c2 ys)
    (hn : n + m ≤ 1099511627776) (hb : Below base w0 w) (hbase : base ≤ w.heap.size)
    (h : ∀ A' c' w', Gb w' base A' (n + m) c' (xs ++ ys) → Below base w0 w' → wpList Try.prog ops Q rest (a.put o.dst (.slice A' (n + m) c')) w') : wpList Try.prog ops Q (o :: rest) a w := by
  obtain ⟨i0, hi, hz0, hz1, hz2⟩ := info_parts Try.info5'
  rcases A2 with _ | ad
  · have hm : m = 0 := by
      rcases Nat.eq_zero_or_pos m with h0 | h0
      · exact h0
      · obtain ⟨b, off, e, _⟩ := hr.cell h0
        cases e
    subst hm
    have hy : ys = [] := List.eq_nil_of_length_eq_zero hr.len
    subst hy
    refine wpList_plain hgd fun K hK => ?_
    have hrun := run_app_nil (P := Try.prog) w base 52 o.type 5 i0 1 Try.underlying52 hi (.slice A n c) n (bs xs) hown.2 c2
    unfold Oper.wp
    simp [execOp, ho, resolve, invoke, builtin, hs, hx, hrun, Result.andThen]
    exact hK _ _ (h A c w (by simpa using hown) hb)
  · refine wpList_append_own w hgd s x 52 ho base 5 i0 (.int .u8 0) 1 1 Try.underlying52 hi hz0 hz1 hz2 rfl (by decide) _ n (bs xs) hs hown.2 ad m c2 (bs ys) hx (by simp [bs, hr.len]) ?_ (bs_one ys) (by unfold maxLen; omega) (by omega) hbase ?_
    · exact Nb.olds hr
    · intro v' w' hown' hgrow _
      obtain ⟨A', c', rfl⟩ := own_shape hown'
      refine h A' c' w' ⟨by simp [hown.1, hr.len], by rw [bs_append]; exact hown'⟩ (hb.grown hgrow hbase fun k hk => (hown.2.lt k hk).1)
theorem Gb.alloc {w : World} {base : Nat} {A : Option Addr} {n c : Nat} {xs : List Nat} (h : Gb w base A n c xs) (o : Obj) : Gb (w.alloc o) base A n c xs := ⟨h.1, h.2.alloc o⟩

theorem cell_new (w : World) (v : Value) (t : TypeId) : (w.alloc (.cells #[v] t)).cell? ⟨w.heap.size, 0, none⟩ = some v := by
  rw [cell_of_row _ _ 0 #[v] t (0, 0) (heap_alloc_new w _)]; rfl

theorem Gb.nb {w : World} {base n c : Nat} {A : Option Addr} {xs : List Nat} (h : Gb w base A n c xs) (hL : Lim 256 xs) : Nb w w.heap.size A n c xs := by
  obtain ⟨A', c', e, h'⟩ := ownsRow_nb h.1 hL h.2
  cases e
  exact h'
theorem Nb.far {W w : World} {A : Option Addr} {n c : Nat} {xs : List Nat} (h : Nb W W.heap.size A n c xs) (B : Below W.heap.size W w) : Nb w w.heap.size A n c xs := (h.below B).more B.size
theorem take_next (D : List Nat) (k : Nat) (h : k < D.length) : D.take (k + 1) = D.take k ++ [D.getD k 0] := by
  rw [List.take_succ_eq_append_getElem h]
  simp [List.getD, List.getElem?_eq_getElem h]
theorem Gb.below {w w' : World} {base n c : Nat} {A : Option Addr} {xs : List Nat} (h : Gb w base A n c xs) (b : Below w.heap.size w w') : Gb w' base A n c xs := by
  refine ⟨h.1, h.2.1, ?_⟩
  rcases h.2.2 with h' | ⟨g, cap, cur, e, hg, hh, hr⟩
  · exact Or.inl h'
  · have hlt : g < w.heap.size := by
      rcases Nat.lt_or_ge g w.heap.size with hlt | hge
      · exact hlt
      · rw [Array.getElem?_eq_none hge] at hh; cases hh
    exact Or.inr ⟨g, cap, cur, e, hg, (b.block g hlt).trans hh, hr⟩
/-- the text of some bytes -/
def bstr (xs : List Nat) : ByteArray := strOfNums (xs.map fun x : Nat => (x : Int))
theorem conv_nb {w : World} {B n c b off : Nat} {xs : List Nat} (h : Nb w B (some ⟨b, off, none⟩) n c xs) : (convert 52 9 (.slice (some ⟨b, off, none⟩) n c)).run Try.prog w = .ok (.string (bstr xs)) w := by
  have h9 : Try.prog.underlying 9 = some .string := by kernel_rfl
  refine run_convert_bytes_arg w 52 5 Try.underlying52 Try.underlying5 b off n c (xs.map fun x : Nat => (x : Int)) (by simp [h.len]) (fun i hi => ?_) 9 h9
  obtain ⟨b', off', e, _, hc⟩ := h.at_ hi
  cases e
  rw [hc]
  have : i < xs.length := by rw [h.len]; exact hi
  simp [List.getD, List.getElem?_eq_getElem this]
theorem conv_zero (A : Option Addr) (c : Nat) (w : World) : (convert 52 9 (.slice A 0 c)).run Try.prog w = .ok (.string (bstr [])) w := by
  cases A <;> rfl
theorem conv_any {w : World} {B n c : Nat} {A : Option Addr} {xs : List Nat} (h : Nb w B A n c xs) : (convert 52 9 (.slice A n c)).run Try.prog w = .ok (.string (bstr xs)) w := by
  by_cases h0 : n = 0
  · subst h0
    rw [List.eq_nil_of_length_eq_zero h.len]
    exact conv_zero A c w
  · obtain ⟨b, off, rfl, _⟩ := h.cell (by omega)
    exact conv_nb h
theorem eq_self (S : ByteArray) : (S.toList == S.toList) = true := by simp
end Go.Proofs.Ytompggkdjbkjjaa.Wi
