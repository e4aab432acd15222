/- ROWS OF ROWS OF BYTES AND ROWS OF NUMBERS THAT CAME IN: for ShaTakes. -/
import Derived.Deep.Matrix
import Derived.Test.YtnkkjfkchmlogaaDoorShell
import Derived.Test.YtnkkjfkchmlogaaDoorSteps
import Derived.Test.YtnkkjfkchmlogaaDoorOwn
namespace Go.Proofs.YtnkkjfkchmlogaaDoor
open Go.ChangeShapes Go.WideShapes Go.ChangeAt Go.RowKit Go.Deep
set_option linter.unusedVariables false
set_option maxRecDepth 100000

theorem weights_all {H : Type} {P : Program} {e : TypeId} {d : DataW H} {n : Nat} (hn : n ∈ d.weights P e) : ∀ {l : List (DataW H)}, d ∈ l → n ∈ DataW.weightsAll P e l
  | x :: l, hd => by
    rw [DataW.weightsAll]
    rcases List.mem_cons.1 hd with rfl | h
    · exact List.mem_append_left _ hn
    · exact List.mem_append_right _ (weights_all hn h)
  | [], hd => by cases hd

theorem add_at (b off j : Nat) : (⟨b, off, none⟩ : Addr).add j = ⟨b, off + j, none⟩ := by
  unfold Addr.add
  split <;> simp_all

/-- Rows of bytes that came in. -/
structure Rb (w : World) (B : Nat) (A : Option Addr) (n c : Nat) (xs : List (List Nat)) : Prop where
  len : xs.length = n
  cap : n ≤ c
  room : c ≤ 9223372036854775807
  cell : 0 < n → ∃ b off, A = some ⟨b, off, none⟩ ∧ b < B ∧ ∀ (j : Nat) (x : List Nat), xs[j]? = some x → ∃ A1 m k, w.cell? ⟨b, off + j, none⟩ = some (.slice A1 m k) ∧ Nb w B A1 m k x ∧ m ≤ 140737488351232

/-- Numbers that came in. -/
structure Ib (w : World) (B : Nat) (A : Option Addr) (n c : Nat) (xs : List Int) : Prop where
  len : xs.length = n
  cap : n ≤ c
  room : c ≤ 9223372036854775807
  lim : ∀ x ∈ xs, -9223372036854775808 ≤ x ∧ x ≤ 9223372036854775807
  cell : 0 < n → ∃ b off, A = some ⟨b, off, none⟩ ∧ b < B ∧ ∀ (j : Nat) (x : Int), xs[j]? = some x → w.cell? ⟨b, off + j, none⟩ = some (.int .i64 x)

theorem Rb.below {w w' : World} {B : Nat} {A : Option Addr} {n c : Nat} {xs : List (List Nat)} (h : Rb w B A n c xs) (hb : Below B w w') : Rb w' B A n c xs :=
  ⟨h.len, h.cap, h.room, fun h0 => by
    obtain ⟨b, off, e, lt, hc⟩ := h.cell h0
    refine ⟨b, off, e, lt, fun j x hj => ?_⟩
    obtain ⟨A1, m, k, h1, h2, h3⟩ := hc j x hj
    exact ⟨A1, m, k, by rw [hb.cell (by simpa using lt)]; exact h1, h2.below hb, h3⟩⟩
theorem Ib.below {w w' : World} {B : Nat} {A : Option Addr} {n c : Nat} {xs : List Int} (h : Ib w B A n c xs) (hb : Below B w w') : Ib w' B A n c xs :=
  ⟨h.len, h.cap, h.room, h.lim, fun h0 => by
    obtain ⟨b, off, e, lt, hc⟩ := h.cell h0
    exact ⟨b, off, e, lt, fun j x hj => by rw [hb.cell (by simpa using lt)]; exact hc j x hj⟩⟩
theorem Rb.at_ {w : World} {B : Nat} {A : Option Addr} {n c : Nat} {xs : List (List Nat)} (h : Rb w B A n c xs) {i : Nat} (hi : i < n) :
    ∃ b off A1 m k, A = some ⟨b, off, none⟩ ∧ b < B ∧ w.cell? ⟨b, off + i, none⟩ = some (.slice A1 m k) ∧ Nb w B A1 m k (xs.getD i []) ∧ m ≤ 140737488351232 := by
  obtain ⟨b, off, e, lt, hc⟩ := h.cell (by omega)
  have hl : i < xs.length := by rw [h.len]; exact hi
  obtain ⟨A1, m, k, h1, h2, h3⟩ := hc i xs[i] (List.getElem?_eq_getElem hl)
  exact ⟨b, off, A1, m, k, e, lt, h1, by simpa [List.getD, List.getElem?_eq_getElem hl] using h2, h3⟩
theorem Ib.at_ {w : World} {B : Nat} {A : Option Addr} {n c : Nat} {xs : List Int} (h : Ib w B A n c xs) {i : Nat} (hi : i < n) :
    ∃ b off, A = some ⟨b, off, none⟩ ∧ b < B ∧ w.cell? ⟨b, off + i, none⟩ = some (.int .i64 (xs.getD i 0)) := by
  obtain ⟨b, off, e, lt, hc⟩ := h.cell (by omega)
  have hl : i < xs.length := by rw [h.len]; exact hi
  exact ⟨b, off, e, lt, by simpa [List.getD, List.getElem?_eq_getElem hl] using hc i xs[i] (List.getElem?_eq_getElem hl)⟩

theorem rb_of_rows {H : Type} {enc : TypeId × Value → H} {W : World} {base fuel : Nat} {held : Bool} {a : Option Addr} {len cap : Nat} {d : DataW H} {p : List MemPlace}
    (h : DataW.trod enc Tryd.prog W base (fun _ => true) held fuel 33 (Value.slice a len cap).cells.toList = some (d, p)) (hw : ∀ n ∈ d.weights Tryd.prog 33, n ≤ reachBytes) :
    ∃ xs, Rb W W.heap.size a len cap xs := by
  rcases open_int_rows Tryd.underlying33 Tryd.underlying22 Tryd.underlying5 (by kernel_rfl) (by kernel_rfl) h with ⟨hcs, _⟩ | ⟨x, l, c, A, L, C, Z, hcs, _, hl, hm, hd, hr⟩
  · simp [Value.cells] at hcs
    obtain ⟨rfl, rfl, rfl⟩ := hcs
    exact ⟨[], rfl, Nat.le_refl _, by omega, fun h0 => absurd h0 (Nat.lt_irrefl _)⟩
  · simp [Value.cells] at hcs
    obtain ⟨rfl, rfl, rfl⟩ := hcs
    have hd1 := congrArg Prod.fst hd
    simp only at hd1
    subst hd1
    have hlen : ∀ r, r < len → L r ≤ 140737488351232 := fun r hrl => by
      obtain ⟨_, hLC, _, hz, _, hnone, _⟩ := hr r (by omega)
      cases hA : A r with
      | none => have := hnone hA; omega
      | some a1 =>
        have hmem : intRow (H := H) .u8 (A r) (L r) (Z r) ∈ (List.range len).map fun r => intRow (H := H) .u8 (A r) (L r) (Z r) := List.mem_map.2 ⟨r, List.mem_range.2 hrl, rfl⟩
        have hin : (Z r).length * 1 ∈ (intRow (H := H) .u8 (A r) (L r) (Z r)).weights Tryd.prog 22 := by
          rw [hA]
          simp only [intRow, DataW.weights, Tryd.underlying22]
          refine List.mem_cons.2 (Or.inl ?_)
          rw [show Tryd.prog.bytesOf 5 = 1 by kernel_rfl]
          simp only [lits, List.length_map, List.length_take, List.length_drop]
          omega
        have := hw _ (by
          simp only [DataW.weights, Tryd.underlying33]
          exact List.mem_cons_of_mem _ (List.mem_append_left _ (weights_all hin hmem)))
        simp only [reachBytes] at this
        omega
    refine ⟨(List.range len).map fun r => ((Z r).take (L r)).map Int.toNat, by simp, hl, hm, fun h0 => ?_⟩
    have hc0 := (hr 0 (by omega)).1
    obtain ⟨b, off, spot⟩ := x
    have hspot : spot = none := by simpa [Addr.add] using World.cell?_spot hc0
    subst hspot
    have hlt := World.block_lt_of_cell? W _ hc0
    refine ⟨b, off, rfl, by simpa [Addr.add] using hlt, fun j y hj => ?_⟩
    simp only [List.getElem?_map, Option.map_eq_some_iff] at hj
    obtain ⟨r, hr0, rfl⟩ := hj
    have hjl : j < len := by
      rcases Nat.lt_or_ge j len with h | h
      · exact h
      · rw [List.getElem?_eq_none (by simpa using h)] at hr0; cases hr0
    rw [List.getElem?_range hjl] at hr0
    cases hr0
    obtain ⟨h1, hLC, hC, hz, hwz, hnone, hsome⟩ := hr j (by omega)
    refine ⟨A j, L j, C j, by rw [← add_at]; exact h1, ?_, hlen j hjl⟩
    cases hA : A j with
    | none =>
      have e0 := hnone hA
      have e1 : L j = 0 := by omega
      rw [e1, e0]
      simpa using Nb.nil W W.heap.size 0 (by omega) none
    | some a1 =>
      exact nb_of_row hLC hC hz (fun i hi => (hsome a1 hA).2 i (by omega)) hwz

theorem ib_of_row {H : Type} {enc : TypeId × Value → H} {W : World} {base fuel : Nat} {held : Bool} {a : Option Addr} {len cap : Nat} {d : DataW H} {p : List MemPlace}
    (h : DataW.trod enc Tryd.prog W base (fun _ => true) held fuel 34 (Value.slice a len cap).cells.toList = some (d, p)) :
    ∃ xs, Ib W W.heap.size a len cap xs := by
  rcases open_ints Tryd.underlying34 Tryd.underlying3 (by kernel_rfl) h with ⟨hcs, _⟩ | ⟨x, l, c, zs, hcs, _, hl, hm, hz, hd, hcell, hwz⟩
  · simp [Value.cells] at hcs
    obtain ⟨rfl, rfl, rfl⟩ := hcs
    exact ⟨[], rfl, Nat.le_refl _, by omega, by simp, fun h0 => absurd h0 (Nat.lt_irrefl _)⟩
  · simp [Value.cells] at hcs
    obtain ⟨rfl, rfl, rfl⟩ := hcs
    have hz' : zs.length = cap := by simpa using hz
    refine ⟨zs.take len, by simp; omega, hl, hm, fun y hy => ?_, fun h0 => ?_⟩
    · have := hwz y (List.mem_of_mem_take hy)
      simp [Lit.wf, IntKind.min, IntKind.max, IntKind.signed, IntKind.bits] at this
      omega
    · have hc0 := hcell 0 (by omega)
      obtain ⟨b, off, spot⟩ := x
      have hspot : spot = none := by simpa [Addr.add] using World.cell?_spot hc0
      subst hspot
      have hlt := World.block_lt_of_cell? W _ hc0
      refine ⟨b, off, rfl, by simpa [Addr.add] using hlt, fun j y hj => ?_⟩
      rw [List.getElem?_take] at hj
      split at hj
      · have hj2 : j < zs.length := by omega
        have h1 := hcell j hj2
        have h2 : zs.getD j 0 = y := by simp [List.getD, hj]
        rw [h2, add_at] at h1
        exact h1
      · cases hj
theorem Gb.at_block {w : World} {base n c : Nat} {A : Option Addr} {xs : List Nat} (h : Gb w base A n c xs) : ∀ q, (Value.slice A n c).ownBlock = some q → base ≤ q ∧ q < w.heap.size := fun q hq => h.2.lt q hq
theorem Gb.kept {w w' : World} {base n c : Nat} {A : Option Addr} {xs : List Nat} {row : Option Nat} (h : Gb w base A n c xs) (hg : w.grownBy w' row) (hne : ∀ q, row = some q → (Value.slice A n c).ownBlock ≠ some q) : Gb w' base A n c xs := by
  refine ⟨h.1, h.2.kept hg ?_⟩
  cases hq : (Value.slice A n c).ownBlock with
  | none => exact Or.inl rfl
  | some q => exact Or.inr fun e => hne q e.symm hq
theorem wpList_app_row_g (w : World) {ops : Array Oper} {rest : List Oper} {o : Oper} {a : Act} {Q : Exit → Act → World → Prop} (hgd : o.guard = none) (s x : Operand)
    (ho : o.op = .call { callee := .builtin .append, args := #[s, x], argTypes := #[22, 22] }) {base n c B m c2 : Nat} {A A2 : Option Addr} {xs ys : List Nat}
    (hs : a.eval s = .slice A n c) (hown : Gb w base A n c xs) (hx : a.eval x = .slice A2 m c2) (hr : Nb w B A2 m c2 ys)
    (hn : n + m ≤ 1099511627776) (hbase : base ≤ w.heap.size)
    (h : ∀ A' c' w', Gb w' base A' (n + m) c' (xs ++ ys) → w.grownBy w' (Value.slice A n c).ownBlock → wpList Tryd.prog ops Q rest (a.put o.dst (.slice A' (n + m) c')) w') : wpList Tryd.prog ops Q (o :: rest) a w := by
  obtain ⟨i0, hi, hz0, hz1, hz2⟩ := info_parts Tryd.info5'
  rcases A2 with _ | ad
  · have hm : m = 0 := by
      rcases Nat.eq_zero_or_pos m with h0 | h0
      · exact h0
      · obtain ⟨b, off, e, _⟩ := hr.cell h0
        cases e
    subst hm
    have hy : ys = [] := List.eq_nil_of_length_eq_zero hr.len
    subst hy
    refine wpList_plain hgd fun K hK => ?_
    have hrun := run_app_nil (P := Tryd.prog) w base 22 o.type 5 i0 1 Tryd.underlying22 hi (.slice A n c) n (bs xs) hown.2 c2
    unfold Oper.wp
    simp [execOp, ho, resolve, invoke, builtin, hs, hx, hrun, Result.andThen]
    exact hK _ _ (h A c w (by simpa using hown) ⟨rfl, rfl, rfl, Nat.le_refl _, fun _ _ _ => rfl⟩)
  · refine wpList_append_own w hgd s x 22 ho base 5 i0 (.int .u8 0) 1 1 Tryd.underlying22 hi hz0 hz1 hz2 rfl (by decide) _ n (bs xs) hs hown.2 ad m c2 (bs ys) hx (by simp [bs, hr.len]) ?_ (bs_one ys) (by unfold maxLen; omega) (by omega) hbase ?_
    · exact Nb.olds hr
    · intro v' w' hown' hgrow _
      obtain ⟨A', c', rfl⟩ := own_shape hown'
      exact h A' c' w' ⟨by simp [hown.1, hr.len], by rw [bs_append]; exact hown'⟩ hgrow
theorem gb_set {w' : World} {base n c i y : Nat} {A : Option Addr} {P : List Nat} (hl : P.length = n) (h : w'.ownsRow base 5 1 (.slice A n c) n ((bs P).set i (.int .u8 ((y : Nat) : Int)))) : Gb w' base A n c (P.set i y) :=
  ⟨by simpa using hl, by rw [show bs (P.set i y) = (bs P).set i (.int .u8 ((y : Nat) : Int)) by simp [bs, List.map_set]]; exact h⟩
end Go.Proofs.YtnkkjfkchmlogaaDoor
