/- wire: rows of bytes that a call reads or builds; bytes told as a string. wire: parts of bytes, and the numbers that they tell. wire: packets, fields and Macs as values; which may be. wire: fields; which may be, how many bytes they have. wire: bytes copied; a text with its length ahead. -/
import Derived.Test.YthipdagebijbiaaGreatDoorProg
import Derived.WalkKit
import Derived.WalkLawsBesides
import Derived.Below
import Derived.Lib.Hide
import Derived.Laws.CopyOwn
import Derived.Laws.AppendOwn
import Derived.OwnWalk
import Derived.Deep.Draws
import Derived.Laws.BytesArg
import Derived.Laws.OwnMore
import Derived.LoopTactic
import Derived.Laws.BitsAllLaws
import Derived.Deep.QuietTactic
import Derived.BigQuiet
import Derived.Deep.RegionHeld3
import Derived.Deep.Cut
import Derived.StillTailTactics
namespace Go.Proofs.YthipdagebijbiaaGreatDoor.Wi
set_option linter.unusedSimpArgs false
set_option linter.unusedVariables false
open Go.RowKit
set_option linter.unusedVariables false
set_option maxRecDepth 100000

def bs (xs : List Nat) : List Value := xs.map fun x : Nat => .int .u8 (x : Int)
theorem bs_one (xs : List Nat) : ∀ v ∈ bs xs, v.oneCell' = true := by
  intro v hv
  obtain ⟨x, _, rfl⟩ := List.mem_map.1 hv
  rfl
theorem Tryz.info5' : (Tryz.prog.info? 5).map (fun i => (i.zero, i.size, i.bytes)) = some (some (.int .u8 0), 1, 1) := by kernel_rfl
def Lim (n : Nat) (xs : List Nat) : Prop := ∀ x ∈ xs, x < n
theorem Lim.nil (n : Nat) : Lim n [] := fun _ h => by cases h
theorem Lim.append {n : Nat} {xs ys : List Nat} (h : Lim n xs) (k : Lim n ys) : Lim n (xs ++ ys) := fun x hx => (List.mem_append.1 hx).elim (h x) (k x)
theorem Lim.one {n x : Nat} (h : x < n) : Lim n [x] := fun y hy => by simp at hy; omega
theorem Lim.take {n : Nat} {xs : List Nat} (h : Lim n xs) (k : Nat) : Lim n (xs.take k) := fun x hx => h x (List.mem_of_mem_take hx)
theorem Lim.get {n : Nat} {xs : List Nat} (h : Lim n xs) (hn : 0 < n) (k : Nat) : xs.getD k 0 < n := by
  by_cases hk : k < xs.length
  · simpa [List.getD, List.getElem?_eq_getElem hk] using h _ (List.getElem_mem hk)
  · simpa [List.getD, List.getElem?_eq_none (show xs.length ≤ k by omega)] using hn
/-- the slice value '.slice A n c' reads as the bytes xs; it lies below block B -/
structure Nb (w : World) (B : Nat) (A : Option Addr) (n c : Nat) (xs : List Nat) : Prop where
  len : xs.length = n
  cap : n ≤ c
  room : c ≤ 9223372036854775807
  lim : Lim 256 xs
  cell : 0 < n → ∃ b off, A = some ⟨b, off, none⟩ ∧ b < B ∧ ∀ j x : Nat, xs[j]? = some x → w.cell? ⟨b, off + j, none⟩ = some (.int .u8 (x : Int))

theorem Nb.at_ {w : World} {B : Nat} {A : Option Addr} {n c : Nat} {xs : List Nat} (h : Nb w B A n c xs) {k : Nat} (hk : k < n) :
    ∃ b off, A = some ⟨b, off, none⟩ ∧ b < B ∧ w.cell? ⟨b, off + k, none⟩ = some (.int .u8 ((xs.getD k 0 : Nat) : Int)) := by
  obtain ⟨b, off, e, hb, hc⟩ := h.cell (by omega)
  have hl : k < xs.length := by rw [h.len]; exact hk
  refine ⟨b, off, e, hb, ?_⟩
  have := hc k xs[k] (List.getElem?_eq_getElem hl)
  rw [this]
  simp [List.getD, List.getElem?_eq_getElem hl]
theorem Nb.keep {w w' : World} {B : Nat} {A : Option Addr} {n c : Nat} {xs : List Nat} (h : Nb w B A n c xs) (hk : ∀ p : Addr, p.block < B → w'.cell? p = w.cell? p) : Nb w' B A n c xs :=
  ⟨h.len, h.cap, h.room, h.lim, fun hn => by
    obtain ⟨b, off, e, hb, hc⟩ := h.cell hn
    exact ⟨b, off, e, hb, fun j x hx => (hk _ hb).trans (hc j x hx)⟩⟩
theorem Nb.more {w : World} {B B' : Nat} {A : Option Addr} {n c : Nat} {xs : List Nat} (h : Nb w B A n c xs) (hB : B ≤ B') : Nb w B' A n c xs :=
  ⟨h.len, h.cap, h.room, h.lim, fun hn => by
    obtain ⟨b, off, e, hb, hc⟩ := h.cell hn
    exact ⟨b, off, e, by omega, hc⟩⟩
theorem Nb.below {w w' : World} {B : Nat} {A : Option Addr} {n c : Nat} {xs : List Nat} (h : Nb w B A n c xs) (hb : Below B w w') : Nb w' B A n c xs := h.keep fun _ hp => hb.cell hp
theorem Nb.nil (w : World) (B c : Nat) (h : c ≤ 9223372036854775807) (A : Option Addr) : Nb w B A 0 c [] := ⟨rfl, Nat.zero_le _, h, Lim.nil _, fun h => absurd h (Nat.lt_irrefl _)⟩

theorem length_bs (xs : List Nat) : (bs xs).length = xs.length := by simp [bs]
theorem Nb.olds {w : World} {B n c : Nat} {ad : Addr} {xs : List Nat} (h : Nb w B (some ad) n c xs) : ∀ j u, (bs xs)[j]? = some u → w.cell? (ad.add j) = some u := by
  intro j u hj
  simp only [bs, List.getElem?_map, Option.map_eq_some_iff] at hj
  obtain ⟨y, hy, rfl⟩ := hj
  have hjn : j < n := by
    rw [← h.len]
    rcases Nat.lt_or_ge j xs.length with h' | h'
    · exact h'
    · rw [List.getElem?_eq_none h'] at hy; cases hy
  obtain ⟨b, off, e, _, hc⟩ := h.cell (by omega)
  cases e
  by_cases hj0 : j = 0
  · subst hj0; simpa [Addr.add] using hc 0 y hy
  · simpa [Addr.add, hj0] using hc j y hy
theorem ownsRow_nb {w : World} {base n : Nat} {v : Value} {xs : List Nat} (hl : xs.length = n) (hL : Lim 256 xs) (h : w.ownsRow base 5 1 v n (bs xs)) : ∃ A c, v = .slice A n c ∧ Nb w w.heap.size A n c xs := by
  rcases h.2 with ⟨rfl, he⟩ | ⟨g, cap, cur, rfl, hg, hheap, hnc, hcm, hcs, hx⟩
  · subst he
    exact ⟨_, _, rfl, hl, Nat.zero_le _, Nat.zero_le _, hL, fun h => absurd h (Nat.lt_irrefl _)⟩
  · refine ⟨_, _, rfl, hl, hnc, hcm, hL, fun h0 => ⟨g, 0, rfl, ?_, fun j x hj => ?_⟩⟩
    · rcases Nat.lt_or_ge g w.heap.size with hlt | hge
      · exact hlt
      · rw [Array.getElem?_eq_none hge] at hheap; cases hheap
    · rw [cell_of_row w g _ cur 5 (0, 0) hheap, Nat.zero_add]
      have : (List.take (n * 1) cur.toList)[j]? = some (.int .u8 (x : Int)) := by rw [hx]; simp [bs, hj]
      rw [List.getElem?_take] at this
      split at this
      · simpa using this
      · cases this
theorem own_shape {w : World} {base e n : Nat} {v : Value} {xs : List Value} (h : w.ownsRow base e 1 v n xs) : ∃ A c, v = .slice A n c := by
  rcases h.2 with ⟨rfl, rfl⟩ | ⟨g, cap, cur, rfl, _⟩
  · exact ⟨_, _, rfl⟩
  · exact ⟨_, _, rfl⟩
theorem run_app_nil {P : Program} (w : World) (base : Nat) (t ty e : TypeId) (i : TypeInfo) (size : Nat) (ht : P.underlying t = some (.slice e)) (hi : P.info? e = some i)
    (v : Value) (n : Nat) (xs : List Value) (hown : w.ownsRow base e size v n xs) (c : Nat) : (Builtin.append_ #[t, t] ty #[v, .slice none 0 c]).run P w = .ok v w := by
  rcases hown.2 with ⟨rfl, rfl⟩ | ⟨g, cap, cur, rfl, _, _, hnc, _⟩
  · simp [Builtin.append_, run_underlying ht, sizeOf, typeInfo, hi, Builtin.lenOf, Builtin.firstCells]
  · simp [Builtin.append_, run_underlying ht, sizeOf, typeInfo, hi, Builtin.lenOf, Builtin.firstCells, hnc, storeCells]
/-- a row of the call's own, blocks from base on -/
def Gb (w : World) (base : Nat) (A : Option Addr) (n c : Nat) (xs : List Nat) : Prop := xs.length = n ∧ w.ownsRow base 5 1 (.slice A n c) n (bs xs)
theorem Gb.nil (w : World) (base : Nat) : Gb w base none 0 0 [] := ⟨rfl, World.ownsRow_nil w base 5 1⟩
theorem bs_append (xs ys : List Nat) : bs (xs ++ ys) = bs xs ++ bs ys := by simp [bs]
theorem wpList_app_b (w : World) {ops : Array Oper} {rest : List Oper} {o : Oper} {a : Act} {Q : Exit → Act → World → Prop} (hgd : o.guard = none) (s x : Operand)
    (ho : o.op = .call { callee := .builtin .append, args := #[s, x], argTypes := #[23, 23] }) {base n c g y : Nat} {A : Option Addr} {xs : List Nat} {w0 : World}
    (hs : a.eval s = .slice A n c) (hown : Gb w base A n c xs) (hx : a.eval x = .slice (some ⟨g, 0, none⟩) 1 1) (hc : w.cell? ⟨g, 0, none⟩ = some (.int .u8 (y : Int)))
    (hn : n ≤ 1099511627776) (hb : Below base w0 w) (hbase : base ≤ w.heap.size)
    (h : ∀ A' c' w', Gb w' base A' (n + 1) c' (xs ++ [y]) → Below base w0 w' → wpList Tryz.prog ops Q rest (a.put o.dst (.slice A' (n + 1) c')) w') : wpList Tryz.prog ops Q (o :: rest) a w := by
  obtain ⟨i0, hi, hz0, hz1, hz2⟩ := info_parts Tryz.info5'
  refine wpList_append_own w hgd s x 23 ho base 5 i0 (.int .u8 0) 1 1 Tryz.underlying23 hi hz0 hz1 hz2 rfl (by decide) _ n (bs xs) hs hown.2 ⟨g, 0, none⟩ 1 1 [.int .u8 (y : Int)] hx rfl ?_ ?_ (by unfold maxLen; omega) (by omega) hbase ?_
  · intro j u hj
    match j, hj with
    | 0, hj => simp at hj; subst hj; simpa [Addr.add] using hc
  · intro u hu; simp at hu; subst hu; rfl
  · intro v' w' hown' hgrow _
    obtain ⟨A', c', rfl⟩ := own_shape hown'
    refine h A' c' w' ⟨by simp [hown.1], by rw [bs_append]; exact hown'⟩ (hb.grown hgrow hbase fun k hk => (hown.2.lt k hk).1)
/-- a row behind it -/
theorem wpList_app_row_b (w : World) {ops : Array Oper} {rest : List Oper} {o : Oper} {a : Act} {Q : Exit → Act → World → Prop} (hgd : o.guard = none) (s x : Operand)
    (ho : o.op = .call { callee := .builtin .append, args := #[s, x], argTypes := #[23, 23] }) {base n c B m c2 : Nat} {A A2 : Option Addr} {xs ys : List Nat} {w0 : World}
    (hs : a.eval s = .slice A n c) (hown : Gb w base A n c xs) (hx : a.eval x = .slice A2 m c2) (hr : Nb w B A2 m c2 ys)
    (hn : n + m ≤ 1099511627776) (hb : Below base w0 w) (hbase : base ≤ w.heap.size)
    (h : ∀ A' c' w', Gb w' base A' (n + m) c' (xs ++ ys) → Below base w0 w' → wpList Tryz.prog ops Q rest (a.put o.dst (.slice A' (n + m) c')) w') : wpList Tryz.prog ops Q (o :: rest) a w := by
  obtain ⟨i0, hi, hz0, hz1, hz2⟩ := info_parts Tryz.info5'
  rcases A2 with _ | ad
  · have hm : m = 0 := by
      rcases Nat.eq_zero_or_pos m with h0 | h0
      · exact h0
      · obtain ⟨b, off, e, _⟩ := hr.cell h0
        cases e
    subst hm
    have hy : ys = [] := List.eq_nil_of_length_eq_zero hr.len
    subst hy
    refine wpList_plain hgd fun K hK => ?_
    have hrun := run_app_nil (P := Tryz.prog) w base 23 o.type 5 i0 1 Tryz.underlying23 hi (.slice A n c) n (bs xs) hown.2 c2
    unfold Oper.wp
    simp [execOp, ho, resolve, invoke, builtin, hs, hx, hrun, Result.andThen]
    exact hK _ _ (h A c w (by simpa using hown) hb)
  · refine wpList_append_own w hgd s x 23 ho base 5 i0 (.int .u8 0) 1 1 Tryz.underlying23 hi hz0 hz1 hz2 rfl (by decide) _ n (bs xs) hs hown.2 ad m c2 (bs ys) hx (by simp [bs, hr.len]) ?_ (bs_one ys) (by unfold maxLen; omega) (by omega) hbase ?_
    · exact Nb.olds hr
    · intro v' w' hown' hgrow _
      obtain ⟨A', c', rfl⟩ := own_shape hown'
      refine h A' c' w' ⟨by simp [hown.1, hr.len], by rw [bs_append]; exact hown'⟩ (hb.grown hgrow hbase fun k hk => (hown.2.lt k hk).1)
theorem Gb.alloc {w : World} {base : Nat} {A : Option Addr} {n c : Nat} {xs : List Nat} (h : Gb w base A n c xs) (o : Obj) : Gb (w.alloc o) base A n c xs := ⟨h.1, h.2.alloc o⟩

theorem cell_new (w : World) (v : Value) (t : TypeId) : (w.alloc (.cells #[v] t)).cell? ⟨w.heap.size, 0, none⟩ = some v := by
  rw [cell_of_row _ _ 0 #[v] t (0, 0) (heap_alloc_new w _)]; rfl

theorem Gb.nb {w : World} {base n c : Nat} {A : Option Addr} {xs : List Nat} (h : Gb w base A n c xs) (hL : Lim 256 xs) : Nb w w.heap.size A n c xs := by
  obtain ⟨A', c', e, h'⟩ := ownsRow_nb h.1 hL h.2
  cases e
  exact h'
theorem Nb.far {W w : World} {A : Option Addr} {n c : Nat} {xs : List Nat} (h : Nb W W.heap.size A n c xs) (B : Below W.heap.size W w) : Nb w w.heap.size A n c xs := (h.below B).more B.size
theorem take_next (D : List Nat) (k : Nat) (h : k < D.length) : D.take (k + 1) = D.take k ++ [D.getD k 0] := by
  rw [List.take_succ_eq_append_getElem h]
  simp [List.getD, List.getElem?_eq_getElem h]
theorem Gb.below {w w' : World} {base n c : Nat} {A : Option Addr} {xs : List Nat} (h : Gb w base A n c xs) (b : Below w.heap.size w w') : Gb w' base A n c xs := by
  refine ⟨h.1, h.2.1, ?_⟩
  rcases h.2.2 with h' | ⟨g, cap, cur, e, hg, hh, hr⟩
  · exact Or.inl h'
  · have hlt : g < w.heap.size := by
      rcases Nat.lt_or_ge g w.heap.size with hlt | hge
      · exact hlt
      · rw [Array.getElem?_eq_none hge] at hh; cases hh
    exact Or.inr ⟨g, cap, cur, e, hg, (b.block g hlt).trans hh, hr⟩
/-- the text of some bytes -/
def bstr (xs : List Nat) : ByteArray := strOfNums (xs.map fun x : Nat => (x : Int))
theorem conv_nb {w : World} {B n c b off : Nat} {xs : List Nat} (h : Nb w B (some ⟨b, off, none⟩) n c xs) : (convert 23 9 (.slice (some ⟨b, off, none⟩) n c)).run Tryz.prog w = .ok (.string (bstr xs)) w := by
  have h9 : Tryz.prog.underlying 9 = some .string := by kernel_rfl
  refine run_convert_bytes_arg w 23 5 Tryz.underlying23 Tryz.underlying5 b off n c (xs.map fun x : Nat => (x : Int)) (by simp [h.len]) (fun i hi => ?_) 9 h9
  obtain ⟨b', off', e, _, hc⟩ := h.at_ hi
  cases e
  rw [hc]
  have : i < xs.length := by rw [h.len]; exact hi
  simp [List.getD, List.getElem?_eq_getElem this]
theorem conv_zero (A : Option Addr) (c : Nat) (w : World) : (convert 23 9 (.slice A 0 c)).run Tryz.prog w = .ok (.string (bstr [])) w := by
  cases A <;> rfl
theorem conv_any {w : World} {B n c : Nat} {A : Option Addr} {xs : List Nat} (h : Nb w B A n c xs) : (convert 23 9 (.slice A n c)).run Tryz.prog w = .ok (.string (bstr xs)) w := by
  by_cases h0 : n = 0
  · subst h0
    rw [List.eq_nil_of_length_eq_zero h.len]
    exact conv_zero A c w
  · obtain ⟨b, off, rfl, _⟩ := h.cell (by omega)
    exact conv_nb h
theorem eq_self (S : ByteArray) : (S.toList == S.toList) = true := by simp
end Go.Proofs.YthipdagebijbiaaGreatDoor.Wi
namespace Go.Proofs.YthipdagebijbiaaGreatDoor.Wi
open Go.RowKit
set_option linter.unusedVariables false
set_option maxRecDepth 100000
theorem addr_add (g off j : Nat) : (⟨g, off, none⟩ : Addr).add j = ⟨g, off + j, none⟩ := by
  unfold Addr.add
  split
  · simp_all
  · rfl
/-- the address of a part -/
def pa (A : Option Addr) (c i : Nat) : Option Addr := if c = i then A else A.map fun a => a.add i
theorem sl_both (A : Option Addr) (n c i j : Nat) (k k' : IntKind) (h1 : i ≤ j) (h2 : j ≤ c) (W : World) : (Instr.slice 23 (.slice A n c) (some (.int k (i : Int))) (some (.int k' (j : Int))) none).run Tryz.prog W = .ok (.slice (pa A c i) (j - i) (c - i)) W := by
  have hz : (Go.sizeOf 5).run Tryz.prog W = .ok 1 W := by kernel_rfl
  simp [Instr.slice, run_underlying Tryz.underlying23, Instr.sliceBounds, Instr.sliceBound, asIntOf, h1, h2, hz, pa]
theorem sl_from (A : Option Addr) (n c i : Nat) (k : IntKind) (h1 : i ≤ n) (W : World) : (Instr.slice 23 (.slice A n c) (some (.int k (i : Int))) none none).run Tryz.prog W = .ok (.slice (pa A c i) (n - i) (c - i)) W := by
  have hz : (Go.sizeOf 5).run Tryz.prog W = .ok 1 W := by kernel_rfl
  simp [Instr.slice, run_underlying Tryz.underlying23, Instr.sliceBounds, Instr.sliceBound, asIntOf, h1, hz, pa]
theorem sl_to (A : Option Addr) (n c j : Nat) (k' : IntKind) (h2 : j ≤ c) (W : World) : (Instr.slice 23 (.slice A n c) none (some (.int k' (j : Int))) none).run Tryz.prog W = .ok (.slice (pa A c 0) j c) W := by
  have hz : (Go.sizeOf 5).run Tryz.prog W = .ok 1 W := by kernel_rfl
  simp [Instr.slice, run_underlying Tryz.underlying23, Instr.sliceBounds, Instr.sliceBound, asIntOf, h2, hz, pa]
theorem sl_at (A : Option Addr) (n c : Nat) (lo hi : Option Value) (W : World) : (Instr.sliceAt 23 (.slice A n c) lo hi none).run Tryz.prog W = (Instr.slice 23 (.slice A n c) lo hi none).run Tryz.prog W := run_sliceAt_slice W 23 _ _ _ _ Tryz.underlying23
theorem pa_zero (A : Option Addr) (c : Nat) (h : ∀ ad, A = some ad → ∃ g off, ad = ⟨g, off, none⟩) : pa A c 0 = A := by
  unfold pa
  split
  · rfl
  · cases A with
    | none => rfl
    | some ad => obtain ⟨g, off, rfl⟩ := h ad rfl; simp [addr_add]
theorem Nb.part {w : World} {B n c : Nat} {A : Option Addr} {xs : List Nat} (h : Nb w B A n c xs) (i j : Nat) (h1 : i ≤ j) (h2 : j ≤ n) : Nb w B (pa A c i) (j - i) (c - i) ((xs.drop i).take (j - i)) := by
  have hc := h.cap
  refine ⟨?_, by omega, by have := h.room; omega, fun x hx => h.lim x (List.mem_of_mem_drop (List.mem_of_mem_take hx)), fun h0 => ?_⟩
  · rw [List.length_take, List.length_drop, h.len]; omega
  · obtain ⟨b, off, rfl, hb, hcell⟩ := h.cell (by omega)
    refine ⟨b, off + i, ?_, hb, fun q x hq => ?_⟩
    · unfold pa
      rw [if_neg (by omega)]
      simp [addr_add]
    · rw [List.getElem?_take] at hq
      split at hq
      · rw [List.getElem?_drop] at hq
        have := hcell (i + q) x hq
        rw [show off + i + q = off + (i + q) by omega]
        exact this
      · cases hq
/-- the number of some bytes, the greatest first -/
def num (xs : List Nat) : Nat := xs.foldl (fun n x => n * 256 + x) 0
theorem num_snoc (xs : List Nat) (x : Nat) : num (xs ++ [x]) = num xs * 256 + x := by unfold num; simp
theorem num_lt (xs : List Nat) (h : Lim 256 xs) : num xs < 256 ^ xs.length := by
  have key : ∀ n (xs : List Nat), xs.length = n → Lim 256 xs → num xs < 256 ^ n := by
    intro n
    induction n with
    | zero => intro xs hx _; rw [List.eq_nil_of_length_eq_zero hx]; decide
    | succ n ih =>
      intro xs hx hl
      rcases List.eq_nil_or_concat xs with rfl | ⟨ys, y, rfl⟩
      · cases hx
      · rw [List.concat_eq_append] at hx hl ⊢
        rw [num_snoc]
        have h1 := ih ys (by simpa using hx) (fun z hz => hl z (List.mem_append_left _ hz))
        have h2 := hl y (by simp)
        rw [Nat.pow_succ]
        omega
  exact key _ xs rfl h
theorem num_take {xs : List Nat} {k : Nat} (h : k < xs.length) : num (xs.take (k + 1)) = num (xs.take k) * 256 + xs.getD k 0 := by
  rw [take_next xs k h, num_snoc]
theorem orl_shl (a x : Nat) (h : x < 256) : a <<< 8 ||| x = a * 256 + x := by
  rw [Nat.shiftLeft_eq, show (2 : Nat) ^ 8 = 256 from rfl, Nat.mul_comm]
  exact (Nat.two_pow_add_eq_or_of_lt (i := 8) (by simpa using h) a).symm
theorem pow_le8 {k : Nat} (h : k ≤ 7) : 256 ^ k ≤ 256 ^ 7 := Nat.pow_le_pow_right (by omega) h
theorem or_u8 {k x : Nat} (hk : k < 256 ^ 7) (hx : x < 256) : bits .or .u64 (IntKind.u64.wrap ((k : Int) * 256)) (IntKind.u64.wrap (x : Int)) = ((k * 256 + x : Nat) : Int) := by
  have h7 : (256 : Nat) ^ 7 = 72057594037927936 := by decide
  rw [h7] at hk
  have e1 : IntKind.u64.wrap ((k : Int) * 256) = ((k * 256 : Nat) : Int) := by rw [IntKind.wrap_u64]; omega
  have e2 : IntKind.u64.wrap (x : Int) = (x : Int) := by rw [IntKind.wrap_u64]; omega
  rw [e1, e2]
  rw [u64_or_nat _ _ (by omega) (by omega), ← orl_shl k x hx, Nat.shiftLeft_eq]
set_option maxHeartbeats 1000000 in
theorem number_any {w : World} {B n c : Nat} {A : Option Addr} {xs : List Nat} (h : Nb w B A n c xs) (hn : n ≤ 8) : Calls Tryz.prog 106 #[.slice A n c] w fun e w' => e = .returned (.int .u64 (num xs : Nat)) ∧ w' = w := by
  have HN := Lib.hid h
  clear h
  go_enter Tryz.func106, Tryz.ntmps106
  go_wp2_with fail
  go_loop [3, 8] (fun v i => ∃ j : Nat, j ≤ n ∧ i = .int .i64 (j : Int) ∧ v = .int .u64 ((num (xs.take j) : Nat) : Int)) (fun _ i => (n - (match i with | .int _ z => z.toNat | _ => 0)))
  case atStart => exact ⟨0, by omega, rfl, rfl⟩
  case round =>
    obtain ⟨j, hjn, rfl, rfl⟩ := hrel
    by_cases hj : j < n
    · have e1 : (j : Int) < (n : Int) := by omega
      obtain ⟨b, off, rfl, hb, hc⟩ := HN.out.at_ hj
      have hl : j < xs.length := by have := HN.out.len; omega
      have hx := HN.out.lim.get (by omega : 0 < 256) j
      have HT := Lib.hid (num_take hl)
      have hlim := num_lt (xs.take j) (HN.out.lim.take j)
      rw [List.length_take, Nat.min_eq_left (Nat.le_of_lt hl)] at hlim
      have hk : num (xs.take j) < 256 ^ 7 := Nat.lt_of_lt_of_le hlim (pow_le8 (by omega))
      generalize xs.getD j 0 = x at *
      have HO := Lib.hid (orl_shl (num (xs.take j)) x hx)
      generalize num (xs.take j) = k at *
      have s0 : wrap64 ((j : Int) + 1) = ((j + 1 : Nat) : Int) := by unfold wrap64; omega
      have HJ := Lib.hid hj
      have HX := Lib.hid hx
      have HK := Lib.hid hk
      clear hl hlim hj hx hk
      go_wp2_with fail
      refine ⟨⟨j + 1, HJ.out, by go_num, ?_⟩, by show n - ((j : Int) + 1).toNat < n - (j : Int).toNat; have := HJ.out; omega⟩
      rw [HT.out, or_u8 HK.out HX.out]
    · have e1' : ((j : Int) < (n : Int)) = False := by simp only [eq_iff_iff, iff_false]; omega
      have hall : xs.take j = xs := List.take_of_length_le (by have := HN.out.len; omega)
      rw [hall]
      go_wp2_with fail
      go_ret
      exact ⟨rfl, rfl⟩
theorem pow4 {xs : List Nat} (h : Lim 256 xs) (hl : xs.length ≤ 4) : num xs < 4294967296 :=
  Nat.lt_of_lt_of_le (num_lt xs h) (Nat.le_trans (Nat.pow_le_pow_right (by omega) hl) (by decide))
theorem word_any {w : World} {B n c : Nat} {A : Option Addr} {xs : List Nat} (h : Nb w B A n c xs) (hn : n ≤ 4) : Calls Tryz.prog 105 #[.slice A n c] w fun e w' => e = .returned (.int .u32 (num xs : Nat)) ∧ w' = w := by
  have HN := Lib.hid (number_any h (by omega))
  have hl := pow4 h.lim (by rw [h.len]; exact hn)
  clear h
  generalize num xs = k at *
  have hw : IntKind.u32.wrap (k : Int) = (k : Int) := by rw [IntKind.wrap_u32]; omega
  go_enter Tryz.func105, Tryz.ntmps105
  go_wp2_with (go_at_call 106; refine HN.out.mono ?_; rintro e w1 ⟨rfl, rfl⟩)
  go_ret
  exact ⟨by first | rfl | (rw [hw]), rfl⟩
end Go.Proofs.YthipdagebijbiaaGreatDoor.Wi
namespace Go.Proofs.YthipdagebijbiaaGreatDoor.Wi
open Go.RowKit
set_option linter.unusedVariables false
set_option maxRecDepth 100000
/-- a number within bounds -/
def wi (a l m : Int) : Bool := decide (l ≤ a ∧ a ≤ m)
theorem within_any (a l m : Int) (w : World) : Calls Tryz.prog 103 #[.int .i64 a, .int .i64 l, .int .i64 m] w fun e w' => e = .returned (.bool (wi a l m)) ∧ w' = w := by
  go_enter Tryz.func103, Tryz.ntmps103
  by_cases h1 : l ≤ a
  · by_cases h2 : a ≤ m
    · have HV := Lib.hid (show wi a l m = true from decide_eq_true ⟨h1, h2⟩)
      go_wp2_with fail
      go_ret
      exact ⟨by rw [HV.out]; rfl, rfl⟩
    · have HV := Lib.hid (show wi a l m = false from decide_eq_false fun q => h2 q.2)
      have h2' : (a ≤ m) = False := by simp only [h2]
      go_wp2_with fail
      go_ret
      exact ⟨by rw [HV.out]; rfl, rfl⟩
  · have HV := Lib.hid (show wi a l m = false from decide_eq_false fun q => h1 q.1)
    have h1' : (l ≤ a) = False := by simp only [h1]
    go_wp2_with fail
    go_ret
    exact ⟨by rw [HV.out]; rfl, rfl⟩
/-- what a packet has ahead of its fields -/
structure Hd where
  (lp ve mo st po pr : Int)
  (dl di rf : Nat)
  (re og rc xm : Nat)
def Hd.pre (h : Hd) : List Value := [.int .i64 h.lp, .int .i64 h.ve, .int .i64 h.mo, .int .i64 h.st, .int .i64 h.po, .int .i64 h.pr, .int .u32 (h.dl : Int), .int .u32 (h.di : Int), .int .u32 (h.rf : Int), .int .u64 (h.re : Int), .int .u64 (h.og : Int), .int .u64 (h.rc : Int), .int .u64 (h.xm : Int)]
/-- a Mac -/
structure Mc where
  has : Bool
  key : Nat
  (A : Option Addr)
  (n c : Nat)
def Mc.val (m : Mc) : Value := .agg #[.bool m.has, .int .u32 (m.key : Int), .slice m.A m.n m.c]
/-- a packet: its head, its row of fields, its Mac -/
structure Pk where
  h : Hd
  (A : Option Addr)
  (n c : Nat)
  m : Mc
abbrev pkV (p : Pk) : Value := .agg #[.int .i64 p.h.lp, .int .i64 p.h.ve, .int .i64 p.h.mo, .int .i64 p.h.st, .int .i64 p.h.po, .int .i64 p.h.pr, .int .u32 (p.h.dl : Int), .int .u32 (p.h.di : Int), .int .u32 (p.h.rf : Int), .int .u64 (p.h.re : Int), .int .u64 (p.h.og : Int), .int .u64 (p.h.rc : Int), .int .u64 (p.h.xm : Int), .slice p.A p.n p.c, .bool p.m.has, .int .u32 (p.m.key : Int), .slice p.m.A p.m.n p.m.c]
/-- may a packet be of this Version and Mode? -/
def kindB (h : Hd) : Bool := decide (h.ve = 4) && wi h.mo 1 5
theorem kind_any (p : Pk) (w : World) : Calls Tryz.prog 79 #[pkV p] w fun e w' => e = .returned (.bool (kindB p.h)) ∧ RowKit.Below w.heap.size w w' := by
  by_cases h1 : p.h.ve = 4
  · obtain ⟨b, hb⟩ : ∃ b, b = wi p.h.mo 1 5 := ⟨_, rfl⟩
    have HV := Lib.hid (show kindB p.h = b by unfold kindB; rw [decide_eq_true h1, hb]; simp)
    have HW := Lib.hid (fun w => (hb ▸ within_any p.h.mo 1 5 w : Calls Tryz.prog 103 #[.int .i64 p.h.mo, .int .i64 1, .int .i64 5] w fun e w' => e = .returned (.bool b) ∧ w' = w))
    clear hb
    go_enter Tryz.func79, Tryz.ntmps79
    go_wp2_with fail
    refine (HW.out _).mono ?_
    rintro e w1 ⟨rfl, rfl⟩
    go_wp2_with fail
    go_ret
    exact ⟨by rw [HV.out]; rfl, (Below.refl _ _).alloc (Nat.le_refl _) _⟩
  · have HV := Lib.hid (show kindB p.h = false by unfold kindB; rw [decide_eq_false h1]; rfl)
    have h1' : (p.h.ve == 4) = false := by simpa using h1
    have h1'' : (p.h.ve = 4) = False := by simp only [h1]
    go_enter Tryz.func79, Tryz.ntmps79
    go_wp2_with fail
    go_ret
    exact ⟨by rw [HV.out]; rfl, (Below.refl _ _).alloc (Nat.le_refl _) _⟩
theorem stratum_any (a : Int) (w : World) : Calls Tryz.prog 80 #[.int .i64 a] w fun e w' => e = .returned (.bool (wi a 0 16)) ∧ w' = w := by
  go_enter Tryz.func80, Tryz.ntmps80
  go_wp2_with fail
  refine (within_any _ _ _ _).mono ?_
  rintro e w1 ⟨rfl, rfl⟩
  go_wp2_with fail
  go_ret
  exact ⟨rfl, rfl⟩
theorem poll_any (a : Int) (w : World) : Calls Tryz.prog 81 #[.int .i64 a] w fun e w' => e = .returned (.bool (wi a 0 17)) ∧ w' = w := by
  go_enter Tryz.func81, Tryz.ntmps81
  go_wp2_with fail
  refine (within_any _ _ _ _).mono ?_
  rintro e w1 ⟨rfl, rfl⟩
  go_wp2_with fail
  go_ret
  exact ⟨rfl, rfl⟩
/-- a packet in a box -/
def PBox (w : World) (g : Nat) (p : Pk) : Prop := w.heap[g]? = some (.cells #[.int .i64 p.h.lp, .int .i64 p.h.ve, .int .i64 p.h.mo, .int .i64 p.h.st, .int .i64 p.h.po, .int .i64 p.h.pr, .int .u32 (p.h.dl : Int), .int .u32 (p.h.di : Int), .int .u32 (p.h.rf : Int), .int .u64 (p.h.re : Int), .int .u64 (p.h.og : Int), .int .u64 (p.h.rc : Int), .int .u64 (p.h.xm : Int), .slice p.A p.n p.c, .bool p.m.has, .int .u32 (p.m.key : Int), .slice p.m.A p.m.n p.m.c] 51 (0, 0))
theorem PBox.lt {w : World} {g : Nat} {p : Pk} (h : PBox w g p) : g < w.heap.size := (Array.getElem?_eq_some_iff.1 h).1
theorem PBox.below {w w' : World} {g : Nat} {p : Pk} (h : PBox w g p) (b : RowKit.Below w.heap.size w w') : PBox w' g p := (b.block g h.lt).trans h
theorem PBox.cells {w : World} {g : Nat} {p : Pk} (h : PBox w g p) : w.cell? ⟨g, 0, none⟩ = some (.int .i64 p.h.lp) ∧ w.cell? ⟨g, 1, none⟩ = some (.int .i64 p.h.ve) ∧ w.cell? ⟨g, 2, none⟩ = some (.int .i64 p.h.mo) ∧ w.cell? ⟨g, 3, none⟩ = some (.int .i64 p.h.st) ∧ w.cell? ⟨g, 4, none⟩ = some (.int .i64 p.h.po) ∧ w.cell? ⟨g, 5, none⟩ = some (.int .i64 p.h.pr) ∧ w.cell? ⟨g, 6, none⟩ = some (.int .u32 (p.h.dl : Int)) ∧ w.cell? ⟨g, 7, none⟩ = some (.int .u32 (p.h.di : Int)) ∧ w.cell? ⟨g, 8, none⟩ = some (.int .u32 (p.h.rf : Int)) ∧ w.cell? ⟨g, 9, none⟩ = some (.int .u64 (p.h.re : Int)) ∧ w.cell? ⟨g, 10, none⟩ = some (.int .u64 (p.h.og : Int)) ∧ w.cell? ⟨g, 11, none⟩ = some (.int .u64 (p.h.rc : Int)) ∧ w.cell? ⟨g, 12, none⟩ = some (.int .u64 (p.h.xm : Int)) ∧ w.cell? ⟨g, 13, none⟩ = some (.slice p.A p.n p.c) ∧ w.cell? ⟨g, 14, none⟩ = some (.bool p.m.has) ∧ w.cell? ⟨g, 15, none⟩ = some (.int .u32 (p.m.key : Int)) ∧ w.cell? ⟨g, 16, none⟩ = some (.slice p.m.A p.m.n p.m.c) := by
  have h' : w.heap[g]? = _ := h
  refine ⟨?_, ?_, ?_, ?_, ?_, ?_, ?_, ?_, ?_, ?_, ?_, ?_, ?_, ?_, ?_, ?_, ?_⟩ <;> simp [World.cell?, h']
/-- may a packet have such a head? -/
def headB (h : Hd) : Bool := wi h.lp 0 3 && (kindB h && (wi h.st 0 16 && (wi h.po 0 17 && wi h.pr (-128) 127)))
theorem head_any (p : Pk) (w : World) : Calls Tryz.prog 72 #[pkV p] w fun e w' => e = .returned (.bool (headB p.h)) ∧ RowKit.Below w.heap.size w w' := by
  obtain ⟨b1, e1⟩ : ∃ b, b = wi p.h.lp 0 3 := ⟨_, rfl⟩
  obtain ⟨b2, e2⟩ : ∃ b, b = kindB p.h := ⟨_, rfl⟩
  obtain ⟨b3, e3⟩ : ∃ b, b = wi p.h.st 0 16 := ⟨_, rfl⟩
  obtain ⟨b4, e4⟩ : ∃ b, b = wi p.h.po 0 17 := ⟨_, rfl⟩
  obtain ⟨b5, e5⟩ : ∃ b, b = wi p.h.pr (-128) 127 := ⟨_, rfl⟩
  have HV := Lib.hid (show headB p.h = (b1 && (b2 && (b3 && (b4 && b5)))) by unfold headB; rw [e1, e2, e3, e4, e5])
  have H1 := Lib.hid (fun w => (e1 ▸ within_any p.h.lp 0 3 w : Calls Tryz.prog 103 #[.int .i64 p.h.lp, .int .i64 0, .int .i64 3] w fun e w' => e = .returned (.bool b1) ∧ w' = w))
  have H2 := Lib.hid (fun w => (e2 ▸ kind_any p w : Calls Tryz.prog 79 #[pkV p] w fun e w' => e = .returned (.bool b2) ∧ RowKit.Below w.heap.size w w'))
  have H3 := Lib.hid (fun w => (e3 ▸ stratum_any p.h.st w : Calls Tryz.prog 80 #[.int .i64 p.h.st] w fun e w' => e = .returned (.bool b3) ∧ w' = w))
  have H4 := Lib.hid (fun w => (e4 ▸ poll_any p.h.po w : Calls Tryz.prog 81 #[.int .i64 p.h.po] w fun e w' => e = .returned (.bool b4) ∧ w' = w))
  have H5 := Lib.hid (fun w => (e5 ▸ within_any p.h.pr (-128) 127 w : Calls Tryz.prog 103 #[.int .i64 p.h.pr, .int .i64 (-128), .int .i64 127] w fun e w' => e = .returned (.bool b5) ∧ w' = w))
  clear e1 e2 e3 e4 e5
  go_enter Tryz.func72, Tryz.ntmps72
  go_wp2_with fail
  obtain ⟨W, hW⟩ : ∃ W, W = w.alloc (Obj.cells #[.int .i64 p.h.lp, .int .i64 p.h.ve, .int .i64 p.h.mo, .int .i64 p.h.st, .int .i64 p.h.po, .int .i64 p.h.pr, .int .u32 (p.h.dl : Int), .int .u32 (p.h.di : Int), .int .u32 (p.h.rf : Int), .int .u64 (p.h.re : Int), .int .u64 (p.h.og : Int), .int .u64 (p.h.rc : Int), .int .u64 (p.h.xm : Int), .slice p.A p.n p.c, .bool p.m.has, .int .u32 (p.m.key : Int), .slice p.m.A p.m.n p.m.c] 51) := ⟨_, rfl⟩
  have x1 : PBox W w.heap.size p := by rw [hW]; exact heap_alloc_new w _
  have hb : RowKit.Below w.heap.size w W := by rw [hW]; exact (Below.refl _ _).alloc (Nat.le_refl _) _
  rw [← hW]
  clear hW
  have HX := Lib.hid x1
  have HB := Lib.hid hb
  obtain ⟨c0, c1, c2, c3, c4, c5, c6, c7, c8, c9, c10, c11, c12, c13, c14, c15, c16⟩ := x1.cells
  clear x1 hb
  refine (H1.out _).mono ?_
  rintro e w1 ⟨rfl, rfl⟩
  cases b1 with
  | false =>
    go_wp2_with fail
    go_ret
    exact ⟨by rw [HV.out]; rfl, HB.out⟩
  | true =>
    go_wp2_with fail
    refine (H2.out _).mono ?_
    rintro e w2 ⟨rfl, b2'⟩
    have HB2 := Lib.hid (HB.out.trans (b2'.mono HB.out.size))
    obtain ⟨-, -, -, d3, d4, d5, -⟩ := (HX.out.below b2').cells
    clear b2' HX HB c0 c1 c2 c3 c4 c5 c6 c7 c8 c9 c10 c11 c12 c13 c14 c15 c16
    cases b2 with
    | false =>
      go_wp2_with fail
      go_ret
      exact ⟨by rw [HV.out]; rfl, HB2.out⟩
    | true =>
      go_wp2_with fail
      refine (H3.out _).mono ?_
      rintro e w3 ⟨rfl, rfl⟩
      cases b3 with
      | false =>
        go_wp2_with fail
        go_ret
        exact ⟨by rw [HV.out]; rfl, HB2.out⟩
      | true =>
        go_wp2_with fail
        refine (H4.out _).mono ?_
        rintro e w3 ⟨rfl, rfl⟩
        cases b4 with
        | false =>
          go_wp2_with fail
          go_ret
          exact ⟨by rw [HV.out]; rfl, HB2.out⟩
        | true =>
          go_wp2_with fail
          refine (H5.out _).mono ?_
          rintro e w3 ⟨rfl, rfl⟩
          go_wp2_with fail
          go_ret
          exact ⟨by rw [HV.out]; rfl, HB2.out⟩
/-- a Mac that may be -/
def macB (m : Mc) : Bool := if m.has then decide (m.n = 0 ∨ m.n = 16) else decide (m.key = 0 ∧ m.n = 0)
theorem mac_any (m : Mc) (w : World) : Calls Tryz.prog 73 #[.agg #[.bool m.has, .int .u32 (m.key : Int), .slice m.A m.n m.c]] w fun e w' => e = .returned (.bool (macB m)) ∧ RowKit.Below w.heap.size w w' := by
  obtain ⟨has, key, A, n, c⟩ := m
  dsimp only
  have hbw := (Below.refl w.heap.size w).alloc (Nat.le_refl _) (.cells #[.bool has, .int .u32 (key : Int), .slice A n c] 49)
  cases has with
  | true =>
    by_cases h0 : n = 0
    · subst h0
      go_enter Tryz.func73, Tryz.ntmps73
      go_wp2_with fail
      go_ret
      exact ⟨rfl, hbw⟩
    · have h1 : ((n : Int) == 0) = false := by simpa using h0
      by_cases h6 : n = 16
      · subst h6
        go_enter Tryz.func73, Tryz.ntmps73
        go_wp2_with fail
        go_ret
        exact ⟨rfl, hbw⟩
      · have h2 : ((n : Int) == 16) = false := by rw [beq_eq_false_iff_ne]; omega
        have HV := Lib.hid (show macB ⟨true, key, A, n, c⟩ = false by unfold macB; simp [h0, h6])
        go_enter Tryz.func73, Tryz.ntmps73
        go_wp2_with fail
        go_ret
        exact ⟨by rw [HV.out]; rfl, hbw⟩
  | false =>
    by_cases hk : key = 0
    · subst hk
      by_cases h0 : n = 0
      · subst h0
        go_enter Tryz.func73, Tryz.ntmps73
        go_wp2_with fail
        go_ret
        exact ⟨rfl, hbw⟩
      · have h1 : ((n : Int) == 0) = false := by simpa using h0
        have HV := Lib.hid (show macB ⟨false, 0, A, n, c⟩ = false by unfold macB; simp [h0])
        go_enter Tryz.func73, Tryz.ntmps73
        go_wp2_with fail
        go_ret
        exact ⟨by rw [HV.out]; rfl, hbw⟩
    · have h1 : ((key : Int) == 0) = false := by simpa using hk
      have HV := Lib.hid (show macB ⟨false, key, A, n, c⟩ = false by unfold macB; simp [hk])
      go_enter Tryz.func73, Tryz.ntmps73
      go_wp2_with fail
      go_ret
      exact ⟨by rw [HV.out]; rfl, hbw⟩
end Go.Proofs.YthipdagebijbiaaGreatDoor.Wi
namespace Go.Proofs.YthipdagebijbiaaGreatDoor.Wi
open Go.RowKit
set_option linter.unusedVariables false
set_option maxRecDepth 100000
/-- a field as it lies in memory: its numbers, its two rows, and the bytes that these hold -/
structure El where
  op : Int
  resp : Bool
  bad : Bool
  as_ : Int
  (ts fs : Nat)
  (A : Option Addr)
  (n c : Nat)
  (B : Option Addr)
  (m e : Nat)
  (xs ys : List Nat)
abbrev elV (x : El) : Value := .agg #[.int .i64 x.op, .bool x.resp, .bool x.bad, .int .i64 x.as_, .int .u32 (x.ts : Int), .int .u32 (x.fs : Int), .slice x.A x.n x.c, .slice x.B x.m x.e]
def El.cs (x : El) : List Value := [.int .i64 x.op, .bool x.resp, .bool x.bad, .int .i64 x.as_, .int .u32 (x.ts : Int), .int .u32 (x.fs : Int), .slice x.A x.n x.c, .slice x.B x.m x.e]
/-- may a right packet have such a field? -/
def fieldB (x : El) : Bool := wi x.op 1 63 && (wi x.as_ 0 65535 && (decide (x.n ≤ 2048) && decide (x.m ≤ 2048)))
theorem field_any (x : El) (w : World) : Calls Tryz.prog 74 #[elV x] w fun e w' => e = .returned (.bool (fieldB x)) ∧ RowKit.Below w.heap.size w w' := by
  obtain ⟨b1, e1⟩ : ∃ b, b = wi x.op 1 63 := ⟨_, rfl⟩
  obtain ⟨b2, e2⟩ : ∃ b, b = wi x.as_ 0 65535 := ⟨_, rfl⟩
  have HV := Lib.hid (show fieldB x = (b1 && (b2 && (decide (x.n ≤ 2048) && decide (x.m ≤ 2048)))) by unfold fieldB; rw [e1, e2])
  have H1 := Lib.hid (fun w => (e1 ▸ within_any x.op 1 63 w : Calls Tryz.prog 103 #[.int .i64 x.op, .int .i64 1, .int .i64 63] w fun e w' => e = .returned (.bool b1) ∧ w' = w))
  have H2 := Lib.hid (fun w => (e2 ▸ within_any x.as_ 0 65535 w : Calls Tryz.prog 103 #[.int .i64 x.as_, .int .i64 0, .int .i64 65535] w fun e w' => e = .returned (.bool b2) ∧ w' = w))
  have hbw := (Below.refl w.heap.size w).alloc (Nat.le_refl _) (.cells #[.int .i64 x.op, .bool x.resp, .bool x.bad, .int .i64 x.as_, .int .u32 (x.ts : Int), .int .u32 (x.fs : Int), .slice x.A x.n x.c, .slice x.B x.m x.e] 45)
  have HB := Lib.hid hbw
  clear e1 e2 hbw
  by_cases h1 : x.n ≤ 2048
  · have h1' : (x.n : Int) ≤ 2048 := by omega
    by_cases h2 : x.m ≤ 2048
    · have h2' : (x.m : Int) ≤ 2048 := by omega
      rw [decide_eq_true h1, decide_eq_true h2] at HV
      clear h1 h2
      go_enter Tryz.func74, Tryz.ntmps74
      go_wp2_with fail
      refine (H1.out _).mono ?_
      rintro e w1 ⟨rfl, rfl⟩
      cases b1 with
      | false =>
        go_wp2_with fail
        go_ret
        exact ⟨by rw [HV.out]; rfl, HB.out⟩
      | true =>
        go_wp2_with fail
        refine (H2.out _).mono ?_
        rintro e w1 ⟨rfl, rfl⟩
        cases b2 with
        | false =>
          go_wp2_with fail
          go_ret
          exact ⟨by rw [HV.out]; rfl, HB.out⟩
        | true =>
          go_wp2_with fail
          go_ret
          exact ⟨by rw [HV.out]; rfl, HB.out⟩
    · have h2' : ((x.m : Int) ≤ 2048) = False := by rw [eq_iff_iff]; exact ⟨fun q => h2 (by omega), False.elim⟩
      rw [decide_eq_true h1, decide_eq_false h2] at HV
      clear h1 h2
      go_enter Tryz.func74, Tryz.ntmps74
      go_wp2_with fail
      refine (H1.out _).mono ?_
      rintro e w1 ⟨rfl, rfl⟩
      cases b1 with
      | false =>
        go_wp2_with fail
        go_ret
        exact ⟨by rw [HV.out]; rfl, HB.out⟩
      | true =>
        go_wp2_with fail
        refine (H2.out _).mono ?_
        rintro e w1 ⟨rfl, rfl⟩
        cases b2 with
        | false =>
          go_wp2_with fail
          go_ret
          exact ⟨by rw [HV.out]; rfl, HB.out⟩
        | true =>
          go_wp2_with fail
          go_ret
          exact ⟨by rw [HV.out]; rfl, HB.out⟩
  · have h1' : ((x.n : Int) ≤ 2048) = False := by rw [eq_iff_iff]; exact ⟨fun q => h1 (by omega), False.elim⟩
    rw [decide_eq_false h1] at HV
    clear h1
    go_enter Tryz.func74, Tryz.ntmps74
    go_wp2_with fail
    refine (H1.out _).mono ?_
    rintro e w1 ⟨rfl, rfl⟩
    cases b1 with
    | false =>
      go_wp2_with fail
      go_ret
      exact ⟨by rw [HV.out]; rfl, HB.out⟩
    | true =>
      go_wp2_with fail
      refine (H2.out _).mono ?_
      rintro e w1 ⟨rfl, rfl⟩
      cases b2 with
      | false =>
        go_wp2_with fail
        go_ret
        exact ⟨by rw [HV.out]; rfl, HB.out⟩
      | true =>
        go_wp2_with fail
        go_ret
        exact ⟨by rw [HV.out]; rfl, HB.out⟩
def fld (n : Nat) : Nat := (n + 3) / 4 * 4
theorem filled_any {n : Nat} (hn : n ≤ 1099511627776) (w : World) : Calls Tryz.prog 104 #[.int .i64 (n : Int)] w fun e w' => e = .returned (.int .i64 (fld n : Nat)) ∧ w' = w := by
  have a1 : wrap64 ((n : Int) + 3) = (n : Int) + 3 := by unfold wrap64; omega
  have a2 : ((n : Int) + 3).tdiv 4 = ((n + 3) / 4 : Nat) := by rw [Int.tdiv_eq_ediv_of_nonneg (by omega)]; omega
  have a3 : wrap64 (((n + 3) / 4 : Nat) * 4) = ((fld n : Nat) : Int) := by unfold fld wrap64; push_cast; omega
  have A3 := Lib.hid a3
  go_enter Tryz.func104, Tryz.ntmps104
  go_wp2_with fail
  go_ret
  exact ⟨by show Ending.returned (Value.int _ (((n : Int) + 3) / 4 * 4)) = _; unfold fld; push_cast; rfl, rfl⟩
/-- a field in a box of its own -/
def EBox (w : World) (g : Nat) (x : El) : Prop := w.heap[g]? = some (.cells #[.int .i64 x.op, .bool x.resp, .bool x.bad, .int .i64 x.as_, .int .u32 (x.ts : Int), .int .u32 (x.fs : Int), .slice x.A x.n x.c, .slice x.B x.m x.e] 45 (0, 0))
theorem EBox.lt {w : World} {g : Nat} {x : El} (h : EBox w g x) : g < w.heap.size := (Array.getElem?_eq_some_iff.1 h).1
theorem EBox.below {w w' : World} {g : Nat} {x : El} (h : EBox w g x) (b : RowKit.Below w.heap.size w w') : EBox w' g x := (b.block g h.lt).trans h
theorem EBox.cells {w : World} {g : Nat} {x : El} (h : EBox w g x) : w.cell? ⟨g, 0, none⟩ = some (.int .i64 x.op) ∧ w.cell? ⟨g, 1, none⟩ = some (.bool x.resp) ∧ w.cell? ⟨g, 2, none⟩ = some (.bool x.bad) ∧ w.cell? ⟨g, 3, none⟩ = some (.int .i64 x.as_) ∧ w.cell? ⟨g, 4, none⟩ = some (.int .u32 (x.ts : Int)) ∧ w.cell? ⟨g, 5, none⟩ = some (.int .u32 (x.fs : Int)) ∧ w.cell? ⟨g, 6, none⟩ = some (.slice x.A x.n x.c) ∧ w.cell? ⟨g, 7, none⟩ = some (.slice x.B x.m x.e) := by
  have h' : w.heap[g]? = _ := h
  refine ⟨?_, ?_, ?_, ?_, ?_, ?_, ?_, ?_⟩ <;> simp [World.cell?, h']
theorem below_drewN' {w0 w : World} {B : Nat} (h : RowKit.Below B w0 w) (n : Nat) : RowKit.Below B w0 (w.drewN n) := ⟨h.os, h.tape, h.output, h.size, h.block⟩
theorem bthen {B : Nat} {w0 w w' : World} (h : RowKit.Below B w0 w) (k : RowKit.Below w.heap.size w w') (hB : B ≤ w0.heap.size) : RowKit.Below B w0 w' := h.trans (k.mono (Nat.le_trans hB h.size))
theorem w64_succ {j n : Nat} (h : j < n) (hn : n ≤ 4096) : wrap64 ((j : Int) + 1) = ((j + 1 : Nat) : Int) := by unfold wrap64; omega
theorem w64_sum {k k2 k3 : Nat} (h : k3 = k + k2) (hn : k3 ≤ 4096 * 2147483680) : wrap64 (((48 + k : Nat) : Int) + (k2 : Nat)) = ((48 + k3 : Nat) : Int) := by unfold wrap64; omega
def szf (x : El) : Nat := 24 + fld x.n + fld x.m
theorem fld_lim (n : Nat) : n ≤ fld n ∧ fld n ≤ n + 3 := by unfold fld; omega
theorem szf_any (x : El) (hn : x.n ≤ 1073741824) (hm : x.m ≤ 1073741824) (w : World) : Calls Tryz.prog 75 #[elV x] w fun e w' => e = .returned (.int .i64 (szf x : Nat)) ∧ RowKit.Below w.heap.size w w' := by
  obtain ⟨p, hp⟩ : ∃ p, p = fld x.n := ⟨_, rfl⟩
  obtain ⟨q, hq⟩ : ∃ p, p = fld x.m := ⟨_, rfl⟩
  have l1 := fld_lim x.n
  have l2 := fld_lim x.m
  have H1 := Lib.hid (fun w => (hp ▸ filled_any (n := x.n) (by omega) w : Calls Tryz.prog 104 #[.int .i64 (x.n : Int)] w fun e w' => e = .returned (.int .i64 (p : Int)) ∧ w' = w))
  have H2 := Lib.hid (fun w => (hq ▸ filled_any (n := x.m) (by omega) w : Calls Tryz.prog 104 #[.int .i64 (x.m : Int)] w fun e w' => e = .returned (.int .i64 (q : Int)) ∧ w' = w))
  rw [← hp] at l1
  rw [← hq] at l2
  have HV := Lib.hid (show szf x = 24 + p + q by unfold szf; rw [← hp, ← hq])
  have s1 : wrap64 (24 + (p : Int)) = 24 + p := by unfold wrap64; omega
  have s2 : wrap64 (24 + (p : Int) + q) = 24 + p + q := by unfold wrap64; omega
  have hbw := (Below.refl w.heap.size w).alloc (Nat.le_refl _) (.cells #[.int .i64 x.op, .bool x.resp, .bool x.bad, .int .i64 x.as_, .int .u32 (x.ts : Int), .int .u32 (x.fs : Int), .slice x.A x.n x.c, .slice x.B x.m x.e] 45)
  have HB := Lib.hid hbw
  clear hp hq hbw l1 l2
  have heq : w.alloc (.cells #[.int .i64 x.op, .bool x.resp, .bool x.bad, .int .i64 x.as_, .int .u32 (x.ts : Int), .int .u32 (x.fs : Int), .slice x.A x.n x.c, .slice x.B x.m x.e] 45) = w.alloc (.cells #[.int .i64 x.op, .bool x.resp, .bool x.bad, .int .i64 x.as_, .int .u32 (x.ts : Int), .int .u32 (x.fs : Int), .slice x.A x.n x.c, .slice x.B x.m x.e] 45) := rfl
  obtain ⟨W, hW⟩ : ∃ W, W = w.alloc (.cells #[.int .i64 x.op, .bool x.resp, .bool x.bad, .int .i64 x.as_, .int .u32 (x.ts : Int), .int .u32 (x.fs : Int), .slice x.A x.n x.c, .slice x.B x.m x.e] 45) := ⟨_, rfl⟩
  have x1 : EBox W w.heap.size x := by rw [hW]; exact heap_alloc_new w _
  have HB2 : RowKit.Below w.heap.size w W := by rw [hW]; exact HB.out
  obtain ⟨c0, c1, c2, c3, c4, c5, c6, c7⟩ := x1.cells
  have HB3 := Lib.hid HB2
  clear x1 heq HB HB2
  go_enter Tryz.func75, Tryz.ntmps75
  go_wp2_with fail
  rw [← hW]
  clear hW
  go_quiet ((go_at_call 104; first | with_reducible exact Calls.quiet_of_same (H1.out _) | with_reducible exact Calls.quiet_of_same (H2.out _)))
  go_wp2_with fail
  go_ret
  refine ⟨?_, below_drewN' HB3.out _⟩
  rw [HV.out]
  show Ending.returned (Value.int _ _) = Ending.returned (Value.int _ _)
  congr 2
/-- a row of fields that can be read -/
def Es (w : World) (B : Nat) (A : Option Addr) (n : Nat) (xs : List El) : Prop :=
  xs.length = n ∧ (∀ x ∈ xs, Nb w B x.A x.n x.c x.xs ∧ Nb w B x.B x.m x.e x.ys) ∧ (n = 0 ∨ ∃ g off, A = some ⟨g, off, none⟩ ∧ g < B ∧ ∀ i x, xs[i]? = some x →
    w.cell? ⟨g, off + i * 8, none⟩ = some (.int .i64 x.op) ∧ w.cell? ⟨g, off + i * 8 + 1, none⟩ = some (.bool x.resp) ∧ w.cell? ⟨g, off + i * 8 + 2, none⟩ = some (.bool x.bad) ∧ w.cell? ⟨g, off + i * 8 + 3, none⟩ = some (.int .i64 x.as_) ∧
    w.cell? ⟨g, off + i * 8 + 4, none⟩ = some (.int .u32 (x.ts : Int)) ∧ w.cell? ⟨g, off + i * 8 + 5, none⟩ = some (.int .u32 (x.fs : Int)) ∧ w.cell? ⟨g, off + i * 8 + 6, none⟩ = some (.slice x.A x.n x.c) ∧ w.cell? ⟨g, off + i * 8 + 7, none⟩ = some (.slice x.B x.m x.e))
theorem Es.below {w w' : World} {B C n : Nat} {A : Option Addr} {xs : List El} (h : Es w B A n xs) (b : RowKit.Below C w w') (hB : B ≤ C) : Es w' B A n xs := by
  have bb : RowKit.Below B w w' := b.mono hB
  refine ⟨h.1, fun x hx => ⟨(h.2.1 x hx).1.below bb, (h.2.1 x hx).2.below bb⟩, h.2.2.imp id ?_⟩
  rintro ⟨g, off, rfl, hg, hc⟩
  refine ⟨g, off, rfl, hg, fun i x hx => ?_⟩
  obtain ⟨c0, c1, c2, c3, c4, c5, c6, c7⟩ := hc i x hx
  have e : ∀ j, w'.cell? ⟨g, j, none⟩ = w.cell? ⟨g, j, none⟩ := fun j => bb.cell (p := ⟨g, j, none⟩) hg
  exact ⟨(e _).trans c0, (e _).trans c1, (e _).trans c2, (e _).trans c3, (e _).trans c4, (e _).trans c5, (e _).trans c6, (e _).trans c7⟩
/-- how many bytes some fields have -/
def szs (l : List El) : Nat := (l.map szf).sum
theorem szs_take {l : List El} {j : Nat} {x : El} (h : l[j]? = some x) : szs (l.take (j + 1)) = szs (l.take j) + szf x := by
  unfold szs
  rw [List.take_add_one, h]; simp
theorem sum_le {xs : List El} {b : Nat} (h : ∀ x ∈ xs, szf x ≤ b) : (xs.map szf).sum ≤ xs.length * b := by
  induction xs with
  | nil => simp
  | cons x xs ih =>
    have a1 := h x (by simp)
    have a2 := ih (fun y hy => h y (by simp [hy]))
    simp only [List.map_cons, List.sum_cons, List.length_cons]
    rw [Nat.add_mul]; omega
def szp (p : Pk) (l : List El) : Nat := 48 + szs l + (if p.m.has then 4 + p.m.n else 0)
theorem size_any (p : Pk) (l : List El) {w : World} (h : Es w w.heap.size p.A p.n l) (hn : p.n ≤ 4096) (hl : ∀ x ∈ l, x.n ≤ 1073741824 ∧ x.m ≤ 1073741824) (hm : p.m.n ≤ 1099511627776) :
    Calls Tryz.prog 38 #[pkV p] w fun e w' => e = .returned (.int .i64 (szp p l : Nat)) ∧ RowKit.Below w.heap.size w w' := by
  obtain ⟨W, hW⟩ : ∃ W, W = w.alloc (.cells #[.int .i64 p.h.lp, .int .i64 p.h.ve, .int .i64 p.h.mo, .int .i64 p.h.st, .int .i64 p.h.po, .int .i64 p.h.pr, .int .u32 (p.h.dl : Int), .int .u32 (p.h.di : Int), .int .u32 (p.h.rf : Int), .int .u64 (p.h.re : Int), .int .u64 (p.h.og : Int), .int .u64 (p.h.rc : Int), .int .u64 (p.h.xm : Int), .slice p.A p.n p.c, .bool p.m.has, .int .u32 (p.m.key : Int), .slice p.m.A p.m.n p.m.c] 51) := ⟨_, rfl⟩
  have x1 : PBox W w.heap.size p := by rw [hW]; exact heap_alloc_new w _
  have hb : RowKit.Below w.heap.size w W := by rw [hW]; exact (Below.refl _ _).alloc (Nat.le_refl _) _
  have hs1 : w.heap.size < W.heap.size := x1.lt
  have HE := Lib.hid (h.below hb (Nat.le_refl _))
  have HL := Lib.hid hl
  have HX := Lib.hid x1
  have HB := Lib.hid hb
  have HS := Lib.hid hs1
  have hlen : l.length = p.n := h.1
  have HSZ := Lib.hid (show ∀ j, szs (l.take j) ≤ j * 2147483680 by
    intro j
    unfold szs
    refine Nat.le_trans (sum_le (fun q hq => ?_) : _ ≤ (l.take j).length * 2147483680) (Nat.mul_le_mul_right _ (by simp; omega))
    have := hl q (List.mem_of_mem_take hq)
    unfold szf; have a1 := fld_lim q.n; have a2 := fld_lim q.m; omega)
  have HLn := Lib.hid hlen
  obtain ⟨c0, c1, c2, c3, c4, c5, c6, c7, c8, c9, c10, c11, c12, c13, c14, c15, c16⟩ := x1.cells
  clear h hl x1 hb hlen hs1
  go_enter Tryz.func38, Tryz.ntmps38
  go_wp2_with fail
  rw [← hW]
  clear hW
  go_wp2_with fail
  clear c0 c1 c2 c3 c4 c5 c6 c7 c8 c9 c10 c11 c12 c13 c14 c15 c16
  go_loopw [9, 3] (fun i v wr => ∃ j : Nat, j ≤ p.n ∧ i = .int .i64 (j : Int) ∧ v = .int .i64 ((48 + szs (l.take j) : Nat) : Int) ∧ RowKit.Below W.heap.size W wr) (fun i _ _ => (p.n - (match i with | .int _ z => z.toNat | _ => 0)))
  case atStart => exact ⟨0, by omega, rfl, rfl, Below.refl _ _⟩
  case round =>
    obtain ⟨j, hjn, rfl, rfl, hb⟩ := hrel
    have HB2 := Lib.hid hb
    clear hb
    have l1 := HSZ.out j
    have l1b := HSZ.out (j + 1)
    by_cases hj : j < p.n
    · have e1 : (j : Int) < (p.n : Int) := by omega
      obtain ⟨x, hx⟩ : ∃ x, l[j]? = some x := ⟨_, List.getElem?_eq_getElem (by have := HLn.out; omega)⟩
      obtain ⟨he1, he2, he3⟩ := HE.out.below HB2.out (Nat.le_of_lt HS.out)
      rcases he3 with he3 | ⟨g, off, hA, hg, hcl⟩
      · omega
      obtain ⟨d0, d1, d2, d3, d4, d5, d6, d7⟩ := hcl j x hx
      have hxl := HL.out x (List.mem_of_getElem? hx)
      have HC := Lib.hid (fun w => szf_any x hxl.1 hxl.2 w)
      have HT := Lib.hid (szs_take hx)
      have l2 := szs_take hx
      clear hcl hx hxl he1 he2
      rw [hA]
      have HJ := Lib.hid (⟨hjn, hj⟩ : j ≤ p.n ∧ j < p.n)
      generalize hk : szs (l.take j) = k at *
      generalize hk2 : szf x = k2 at *
      generalize hk3 : szs (l.take (j + 1)) = k3 at *
      have s1 := w64_sum l2 (Nat.le_trans l1b (Nat.mul_le_mul_right _ (Nat.le_trans hj hn)))
      have HK := Lib.hid hk3
      have s0 := w64_succ hj hn
      clear hk hk2 hk3 l1 l1b l2 HT hn hm
      go_wp2_with fail
      refine (HC.out _).mono ?_
      rintro e w2 ⟨rfl, b2⟩
      have HB3 := Lib.hid (HB2.out.trans (((Below.refl _ wr).alloc HB2.out.size _).trans (b2.mono (Nat.le_trans HB2.out.size ((Below.refl wr.heap.size wr).alloc (Nat.le_refl _) _).size))))
      clear b2 d0 d1 d2 d3 d4 d5 d6 d7
      go_wp2_with fail
      exact ⟨⟨j + 1, by omega, congrArg (Value.int _) s0, by rw [HK.out]; exact congrArg (Value.int _) s1, HB3.out⟩, by show p.n - (wrap64 ((j : Int) + 1)).toNat < p.n - (j : Int).toNat; rw [s0]; omega⟩
    · have e1' : ((j : Int) < (p.n : Int)) = False := by simp only [eq_iff_iff, iff_false]; omega
      obtain ⟨c0, c1, c2, c3, c4, c5, c6, c7, c8, c9, c10, c11, c12, c13, c14, c15, c16⟩ := (HX.out.below HB2.out).cells
      have HF := Lib.hid (bthen HB.out HB2.out (Nat.le_refl _))
      have hall : l.take j = l := List.take_of_length_le (by have := HLn.out; omega)
      rw [hall] at l1 ⊢
      have HV := Lib.hid (show szp p l = 48 + szs l + (if p.m.has then 4 + p.m.n else 0) from rfl)
      generalize szs l = k at *
      have s1 : wrap64 (4 + (p.m.n : Int)) = 4 + (p.m.n : Int) := by unfold wrap64; omega
      have s2 : wrap64 (((48 + k : Nat) : Int) + (4 + (p.m.n : Int))) = ((48 + k : Nat) : Int) + (4 + (p.m.n : Int)) := by unfold wrap64; omega
      generalize p.m.has = hh at *
      cases hh with
      | false =>
        go_wp2_with fail
        go_ret
        exact ⟨by rw [HV.out]; rfl, HF.out⟩
      | true =>
        go_wp2_with fail
        go_ret
        refine ⟨?_, HF.out⟩
        rw [HV.out]
        show Ending.returned (Value.int _ _) = Ending.returned (Value.int _ _)
        congr 2
end Go.Proofs.YthipdagebijbiaaGreatDoor.Wi
namespace Go.Proofs.YthipdagebijbiaaGreatDoor.Wi
open Go.RowKit
set_option linter.unusedVariables false
set_option maxRecDepth 100000
theorem Gb.empty (w : World) (base : Nat) (h : base ≤ w.heap.size) : Gb (w.alloc (.cells #[] 5)) base (some ⟨w.heap.size, 0, none⟩) 0 0 [] :=
  ⟨rfl, rfl, .inr ⟨w.heap.size, 0, #[], rfl, h, heap_alloc_new w _, Nat.le_refl _, Nat.zero_le _, rfl, rfl⟩⟩
theorem eql_nil (A : Option Addr) (n c : Nat) (W : World) : (binOp BinOp.eql 23 (.slice A n c) (.slice none 0 0)).run Tryz.prog W = .ok (.bool A.isNone) W := by
  cases A <;> simp [binOp] <;> rfl
theorem clone_any {w : World} {B n c : Nat} {A : Option Addr} {xs : List Nat} (h : Nb w B A n c xs) (hB : B ≤ w.heap.size) (hn : n ≤ 1073741824) :
    Calls Tryz.prog 29 #[.slice A n c] w fun e w' => ∃ A' c', e = .returned (.slice A' n c') ∧ Nb w' w'.heap.size A' n c' xs ∧ (∀ ad, A' = some ad → w.heap.size ≤ ad.block) ∧ RowKit.Below w.heap.size w w' := by
  have heq := eql_nil A n c
  cases A with
  | none =>
    have hn0 : n = 0 := by
      rcases Nat.eq_zero_or_pos n with h0 | h0
      · exact h0
      · obtain ⟨b, off, e, _⟩ := h.cell h0
        cases e
    subst hn0
    have hx : xs = [] := List.eq_nil_of_length_eq_zero h.len
    subst hx
    clear h
    rw [Option.isNone_none] at heq
    go_enter Tryz.func29, Tryz.ntmps29
    go_wp2_with fail
    go_ret
    exact ⟨none, 0, rfl, Nb.nil _ _ 0 (by omega) none, (fun ad e => by cases e), Below.refl _ _⟩
  | some ad =>
    have HN := Lib.hid h
    have HG := Lib.hid (Gb.empty w w.heap.size (Nat.le_refl _))
    have HB := Lib.hid ((Below.refl w.heap.size w).alloc (Nat.le_refl _) (.cells #[] 5))
    have HNa := Lib.hid (h.keep (w' := w.alloc (.cells #[] 5)) fun p hp => HB.out.cell (Nat.lt_of_lt_of_le hp hB))
    clear h
    rw [Option.isNone_some] at heq
    go_enter Tryz.func29, Tryz.ntmps29
    go_wp2_with (at_builtin; refine wpList_app_row_b (w0 := w) _ rfl (.tmp 5) (.tmp 6) rfl rfl HG.out rfl HNa.out (by omega) HB.out (by simp) ?_; intro A1 c1 w1 hg1 hb1)
    rw [Nat.zero_add, List.nil_append] at hg1
    go_ret
    exact ⟨A1, c1, by simp, hg1.nb HN.out.lim, (fun ad e => by
      rcases hg1.2.2 with ⟨e2, _⟩ | ⟨g, cap, cur, e2, hg, _⟩
      · rw [e] at e2; cases e2
      · rw [e] at e2; cases e2; exact hg), hb1⟩
/-- a text with its length ahead, and what stands behind it -/
def txt (xs : List Nat) : Option (List Nat × List Nat) :=
  if xs.length < 4 then none
  else if 2048 < num (xs.take 4) ∨ (xs.drop 4).length < fld (num (xs.take 4)) then none
  else if (((xs.drop 4).drop (num (xs.take 4))).take (fld (num (xs.take 4)) - num (xs.take 4))).all (· == 0) then some ((xs.drop 4).take (num (xs.take 4)), (xs.drop 4).drop (fld (num (xs.take 4))))
  else none
def TxtPost (xs : List Nat) (w : World) (e : Ending) (w' : World) : Prop :=
  RowKit.Below w.heap.size w w' ∧
  match txt xs with
  | none => e = .returned (.tuple #[.slice none 0 0, .slice none 0 0, .bool false])
  | some (t, r) => ∃ A1 c1 A2 c2, e = .returned (.tuple #[.slice A1 t.length c1, .slice A2 r.length c2, .bool true]) ∧ (∀ ad, A1 = some ad → w.heap.size ≤ ad.block) ∧ Nb w' w'.heap.size A1 t.length c1 t ∧ Nb w' w'.heap.size A2 r.length c2 r
theorem meas {d j : Nat} (h : j < d) : d - (((j + 1 : Nat) : Int)).toNat < d - ((j : Int)).toNat := by omega
theorem w64_sub {f L : Nat} (h : L ≤ f) (hf : f ≤ 4294967296) : wrap64 ((f : Int) - (L : Int)) = ((f - L : Nat) : Int) := by unfold wrap64; omega
theorem w64_one {j : Nat} (h : j ≤ 4294967296) : wrap64 ((j : Int) + 1) = ((j + 1 : Nat) : Int) := by unfold wrap64; omega
theorem fld_ge (n : Nat) : n ≤ fld n := (fld_lim n).1
set_option maxHeartbeats 2000000 in
theorem text_of_any {w : World} {B n c : Nat} {A : Option Addr} {xs : List Nat} (h : Nb w B A n c xs) (hB : B ≤ w.heap.size) (hn : n ≤ 1073741824) :
    Calls Tryz.prog 108 #[.slice A n c] w (TxtPost xs w) := by
  by_cases h4 : n < 4
  · have e1 : (n : Int) < 4 := by omega
    have HV := Lib.hid (show txt xs = none by unfold txt; rw [if_pos (by rw [h.len]; exact h4)])
    clear h h4
    go_enter Tryz.func108, Tryz.ntmps108
    go_wp2_with fail
    go_ret3
    exact ⟨Below.refl _ _, by rw [HV.out]; rfl⟩
  · have e1 : ((n : Int) < 4) = False := by simp only [eq_iff_iff, iff_false]; omega
    have hcap := h.cap
    have hP4 := h.part 0 4 (by omega) (by omega)
    have hPr := h.part 4 n (by omega) (Nat.le_refl _)
    rw [List.drop_zero, Nat.sub_zero, Nat.sub_zero] at hP4
    have hA0 : pa A c 0 = A := pa_zero A c fun ad e => by
      obtain ⟨b, off, e2, _⟩ := h.cell (by omega)
      exact ⟨b, off, Option.some.inj (e.symm.trans e2)⟩
    rw [hA0] at hP4
    have hs1 : ∀ W, (Instr.slice 23 (.slice A n c) none (some (.int .i64 4)) none).run Tryz.prog W = .ok (.slice A 4 c) W := fun W => by
      have := sl_to A n c 4 .i64 (by omega) W
      rw [hA0] at this; exact this
    have hs2 : ∀ W, (Instr.slice 23 (.slice A n c) (some (.int .i64 4)) none none).run Tryz.prog W = .ok (.slice (pa A c 4) (n - 4) (c - 4)) W := fun W => sl_from A n c 4 .i64 (by omega) W
    have hs3 : ∀ W, (Instr.sliceAt 23 (.slice A n c) none (some (.int .i64 4)) none).run Tryz.prog W = .ok (.slice A 4 c) W := fun W => (sl_at _ _ _ _ _ W).trans (hs1 W)
    have hs4 : ∀ W, (Instr.sliceAt 23 (.slice A n c) (some (.int .i64 4)) none none).run Tryz.prog W = .ok (.slice (pa A c 4) (n - 4) (c - 4)) W := fun W => (sl_at _ _ _ _ _ W).trans (hs2 W)
    have HNum := Lib.hid (fun W => number_any (w := W) (B := B) (A := A) (n := 4) (c := c) (xs := xs.take 4))
    have HP4 := Lib.hid hP4
    have HPr := Lib.hid hPr
    have hL := pow4 (xs := xs.take 4) (h.lim.take 4) (by simp; omega)
    have HXl := Lib.hid h.len
    have HXL := Lib.hid h.lim
    generalize pa A c 4 = Ar at *
    have HV := Lib.hid (show txt xs = _ from by unfold txt; rw [if_neg (by rw [h.len]; exact h4)])
    generalize num (xs.take 4) = L at *
    have hP4' : (xs.drop 4).take (n - 4) = xs.drop 4 := List.take_of_length_le (by rw [List.length_drop, h.len]; exact Nat.le_refl _)
    rw [hP4'] at HPr
    have HH := Lib.hid h
    clear h hP4 hPr hA0 hP4'
    go_enter Tryz.func108, Tryz.ntmps108
    go_upto_region 3 with fail
    go_quiet ((go_at_call 106; exact Calls.quiet_of_same (HNum.out _ (HP4.out.keep fun _ _ => rfl) (by omega))))
    generalize hwq : w.drewN nq = wq
    have HBq := Lib.hid (show RowKit.Below w.heap.size w wq by rw [← hwq]; exact below_drewN' (Below.refl _ _) _)
    clear hwq hs1 hs2 hs3 hs4
    by_cases hL1 : 2048 < L
    · have k1 : 2048 < (L : Int) := by omega
      have HV2 := Lib.hid (show txt xs = none by rw [HV.out, if_pos (.inl hL1)])
      clear hL1
      go_wp2_with fail
      go_ret3
      exact ⟨HBq.out, by rw [HV2.out]; rfl⟩
    · have k1 : (2048 < (L : Int)) = False := by simp only [eq_iff_iff, iff_false]; omega
      have k2 : IntKind.i64.wrap (L : Int) = (L : Int) := by rw [IntKind.wrap_i64]; omega
      have HF := Lib.hid (fun W => filled_any (n := L) (by omega) W)
      have hfl := fld_lim L
      by_cases hL2 : n - 4 < fld L
      · have k3 : ((n - 4 : Nat) : Int) < ((fld L : Nat) : Int) := by omega
        have HV2 := Lib.hid (show txt xs = none by rw [HV.out, if_pos (.inr (by rw [List.length_drop, HXl.out]; exact hL2))])
        generalize fld L = f at *
        go_wp2_with (go_at_call 104; refine (HF.out _).mono ?_; rintro e w1 ⟨rfl, rfl⟩)
        go_ret3
        exact ⟨HBq.out, by rw [HV2.out]; rfl⟩
      · have k3 : (((n - 4 : Nat) : Int) < ((fld L : Nat) : Int)) = False := by simp only [eq_iff_iff, iff_false]; omega
        have hyl : (xs.drop 4).length = n - 4 := by rw [List.length_drop, HXl.out]
        have HV2 := Lib.hid (show txt xs = _ from by rw [HV.out, if_neg (by rw [hyl]; omega)])
        have hr := HPr.out
        have hcr := hr.cap
        generalize xs.drop 4 = ys at *
        generalize n - 4 = m at *
        generalize c - 4 = cr at *
        obtain ⟨f, hf⟩ : ∃ f, f = fld L := ⟨_, rfl⟩
        rw [← hf] at HF hfl HV2 k3 hL2
        have hd : fld L - L = f - L := by rw [hf]
        have N1 := hr.part 0 L (by omega) (by omega)
        have N2 := hr.part L m (by omega) (Nat.le_refl _)
        rw [List.drop_zero, Nat.sub_zero, Nat.sub_zero] at N1
        rw [List.take_of_length_le (show (ys.drop L).length ≤ m - L by rw [List.length_drop, hyl]; exact Nat.le_refl _)] at N2
        have g1 : ∀ W, (Instr.slice 23 (.slice Ar m cr) none (some (.int .u64 (L : Int))) none).run Tryz.prog W = .ok (.slice (pa Ar cr 0) L cr) W := fun W => sl_to Ar m cr L .u64 (by omega) W
        have g2 : ∀ W, (Instr.slice 23 (.slice Ar m cr) (some (.int .u64 (L : Int))) none none).run Tryz.prog W = .ok (.slice (pa Ar cr L) (m - L) (cr - L)) W := fun W => sl_from Ar m cr L .u64 (by omega) W
        generalize pa Ar cr 0 = A1 at *
        generalize pa Ar cr L = A2 at *
        have N3 := N2.part 0 (f - L) (by omega) (by omega)
        have N4 := N2.part (f - L) (m - L) (by omega) (Nat.le_refl _)
        rw [List.drop_zero, Nat.sub_zero, Nat.sub_zero] at N3
        rw [List.drop_drop, List.take_of_length_le (by rw [List.length_drop, hyl]; omega), show L + (f - L) = f by omega, show m - L - (f - L) = m - f by omega, show cr - L - (f - L) = cr - f by omega] at N4
        have g3 : ∀ W, (Instr.slice 23 (.slice A2 (m - L) (cr - L)) none (some (.int .i64 ((f - L : Nat) : Int))) none).run Tryz.prog W = .ok (.slice (pa A2 (cr - L) 0) (f - L) (cr - L)) W := fun W => sl_to A2 (m - L) (cr - L) (f - L) .i64 (by omega) W
        have g4 : ∀ W, (Instr.slice 23 (.slice A2 (m - L) (cr - L)) (some (.int .i64 ((f - L : Nat) : Int))) none none).run Tryz.prog W = .ok (.slice (pa A2 (cr - L) (f - L)) (m - f) (cr - f)) W := fun W => by
          have := sl_from A2 (m - L) (cr - L) (f - L) .i64 (by omega) W
          rw [show m - L - (f - L) = m - f by omega, show cr - L - (f - L) = cr - f by omega] at this
          exact this
        generalize pa A2 (cr - L) 0 = A3 at *
        generalize pa A2 (cr - L) (f - L) = A4 at *
        have s1 : wrap64 ((f : Int) - (L : Int)) = ((f - L : Nat) : Int) := w64_sub hfl.1 (by omega)
        have g1' : ∀ W, (Instr.sliceAt 23 (.slice Ar m cr) none (some (.int .u64 (L : Int))) none).run Tryz.prog W = _ := fun W => (sl_at _ _ _ _ _ W).trans (g1 W)
        have g2' : ∀ W, (Instr.sliceAt 23 (.slice Ar m cr) (some (.int .u64 (L : Int))) none none).run Tryz.prog W = _ := fun W => (sl_at _ _ _ _ _ W).trans (g2 W)
        have g3' : ∀ W, (Instr.sliceAt 23 (.slice A2 (m - L) (cr - L)) none (some (.int .i64 ((f - L : Nat) : Int))) none).run Tryz.prog W = _ := fun W => (sl_at _ _ _ _ _ W).trans (g3 W)
        have g4' : ∀ W, (Instr.sliceAt 23 (.slice A2 (m - L) (cr - L)) (some (.int .i64 ((f - L : Nat) : Int))) none none).run Tryz.prog W = _ := fun W => (sl_at _ _ _ _ _ W).trans (g4 W)
        obtain ⟨d, hdd⟩ : ∃ d, d = f - L := ⟨_, rfl⟩
        rw [← hdd] at N3 g3 g4 g3' g4' s1
        have HV3 := Lib.hid (show txt xs = if (((ys.drop L).take d).all fun x => x == 0) = true then some (ys.take L, ys.drop f) else none by rw [HV2.out, hdd])
        have HN1 := Lib.hid N1
        have HN3 := Lib.hid N3
        have HN4 := Lib.hid N4
        have HFl := Lib.hid hfl
        have HDd := Lib.hid hdd
        have hyf : (ys.drop f).length = m - f := by rw [List.length_drop, hyl]
        have hyL : (ys.take L).length = L := N1.len
        have HYf := Lib.hid hyf
        have HYL := Lib.hid hyL
        have hdm : d ≤ 3 := by omega
        have hLm : L ≤ 2048 := by omega
        clear hf hd hfl hdd N1 N2 N3 N4 hr hyf hyL hL2 hcr
        go_upto_region 6 with (go_at_call 104; refine (HF.out _).mono ?_; rintro e w1 ⟨rfl, hw1⟩; subst w1)
        go_quiet (fail)
        generalize hwr : wq.drewN nq = wr
        have HBr := Lib.hid (show RowKit.Below w.heap.size w wr by rw [← hwr]; exact below_drewN' HBq.out _)
        clear hwr
        go_wp2_with (go_at_call 104; refine (HF.out _).mono ?_; rintro e w1 ⟨rfl, hw1⟩; subst w1)
        go_loop [45] (fun i => ∃ j : Nat, j ≤ d ∧ i = .int .i64 (j : Int) ∧ (((ys.drop L).take d).take j).all (fun x => x == 0) = true) (fun i => (d - (match i with | .int _ z => z.toNat | _ => 0)))
        case atStart => exact ⟨0, by omega, rfl, rfl⟩
        case round =>
          obtain ⟨j, hjd, rfl, hz⟩ := hrel
          have HZ := Lib.hid hz
          clear hz
          by_cases hj : j < d
          · have e5 : (j : Int) < (d : Int) := by omega
            obtain ⟨b, off, hA3, hb, hc⟩ := (HN3.out.below (HBr.out.mono hB)).at_ hj
            have hl3 : j < ((ys.drop L).take d).length := by have := HN3.out.len; omega
            have HT := Lib.hid (take_next _ j hl3)
            subst hA3
            generalize ((ys.drop L).take d).getD j 0 = x at *
            have s0 : wrap64 ((j : Int) + 1) = ((j + 1 : Nat) : Int) := w64_one (by omega)
            have HJ := Lib.hid hj
            clear hl3 hj hb
            by_cases hx : x = 0
            · subst hx
              have HZ2 := Lib.hid (show (((ys.drop L).take d).take (j + 1)).all (fun x => x == 0) = true by rw [HT.out, List.all_append, HZ.out]; rfl)
              go_wp2_with fail
              go_round
              case rel => exact ⟨j + 1, HJ.out, by rw [s0], HZ2.out⟩
              case measure => show d - (wrap64 ((j : Int) + 1)).toNat < d - (j : Int).toNat; rw [s0]; exact meas HJ.out
            · have hx' : ((x : Int) == 0) = false := by simp; omega
              have hx2 : ((x : Int) != 0) = true := by simp; omega
              have hx3 : (x == 0) = false := by simpa using hx
              have HV4 := Lib.hid (show txt xs = none by
                rw [HV3.out, if_neg]
                intro hall
                rw [List.all_eq_true] at hall
                have hm : x ∈ (((ys.drop L).take d).take (j + 1)) := by rw [HT.out]; simp
                have := hall x (List.mem_of_mem_take hm)
                rw [hx3] at this; cases this)
              clear hx hx3
              go_wp2_with fail
              go_ret3
              exact ⟨HBr.out, by rw [HV4.out]; rfl⟩
          · have e5 : ((j : Int) < (d : Int)) = False := by simp only [eq_iff_iff, iff_false]; omega
            have HV4 := Lib.hid (show txt xs = some (ys.take L, ys.drop f) by
              have h3 : (((ys.drop L).take d).take j) = (ys.drop L).take d := List.take_of_length_le (by have := HN3.out.len; omega)
              have := HZ.out
              rw [h3] at this
              rw [HV3.out, if_pos this])
            have HC := Lib.hid (fun W (hb : RowKit.Below wr.heap.size wr W) => clone_any (w := W) ((HN1.out.below (HBr.out.mono hB)).below (hb.mono (Nat.le_trans hB HBr.out.size))) (Nat.le_trans (Nat.le_trans hB HBr.out.size) hb.size) (by omega))
            go_upto_region 14 with fail
            go_region_held3 (fun W => True) (trivial)
              (first
                | (go_at_call 29; refine (HC.out _ (Below.refl _ _).drew).mono ?_
                   rintro e w4 ⟨A5, c5, rfl, hn5, ha5, hb5⟩
                   have HN5 := Lib.hid hn5
                   have HA5 := Lib.hid ha5
                   have HB5 := Lib.hid (bthen HBr.out (((Below.refl wr.heap.size wr).drew).trans hb5) (Nat.le_refl _))
                   clear hn5 hb5 ha5))
            go_wp2_with fail
            go_ret3
            refine ⟨HB5.out, ?_⟩
            rw [HV4.out]
            refine ⟨A5, c5, A4, cr - f, ?_, fun ad e => Nat.le_trans HBr.out.size (HA5.out ad e), by rw [HYL.out]; exact HN5.out, ?_⟩
            · show _ = Ending.returned (.tuple #[.slice A5 (ys.take L).length c5, .slice A4 (ys.drop f).length (cr - f), .bool true])
              rw [HYL.out, HYf.out]; rfl
            · show Nb _ _ A4 (ys.drop f).length _ _
              rw [HYf.out]
              exact (HN4.out.below (HB5.out.mono hB)).more (Nat.le_trans hB HB5.out.size)
end Go.Proofs.YthipdagebijbiaaGreatDoor.Wi
