/- A row with room behind it, one sample more. -/
import Derived.Test.YtofieoklcegddaaK6
import Derived.Deep.AppendSrc
import Derived.Deep.Upon
namespace Go.Proofs.Ytofieoklcegddaa
open Go.RowKit Go.Sort Go.Shelf Go.Lib
set_option linter.unusedVariables false
set_option linter.unusedSimpArgs false
set_option maxRecDepth 100000

/-- a row of the call's own, wherever it begins, with room behind it -/
structure Ow (w : World) (base h : Nat) (A : Option Addr) (n c : Nat) (xs : List S4) : Prop where
  len : xs.length = n
  room : n ≤ c
  cmax : c ≤ maxLen
  lies : (A = none ∧ c = 0) ∨ ∃ g off, A = some ⟨g, off, none⟩ ∧ base ≤ g ∧ g ≠ h ∧ g < w.heap.size ∧ (∀ j u, (sc xs)[j]? = some u → w.cell? ⟨g, off + j, none⟩ = some u) ∧
    (∀ j, j < (c - n) * 4 → (w.cell? ⟨g, off + n * 4 + j, none⟩).isSome = true ∧ w.frozen? ⟨g, off + n * 4 + j, none⟩ = false)
theorem below_setCells {base b : Nat} (hb : base ≤ b) : ∀ (vs : List Value) (o : Nat) (w0 w : World), RowKit.Below base w0 w → RowKit.Below base w0 (w.setCells b o vs)
  | [], _, _, _, h => h
  | v :: r, o, w0, w, h => below_setCells hb r (o + 1) w0 _ (below_set h hb o v)
theorem app_one {w : World} {base h : Nat} {A : Option Addr} {n c gx : Nat} {xs : List S4} {s : S4} (ty : TypeId) (ho : Ow w base h A n c xs) (hx : Box w gx s) (hn : n ≤ 1000) (hbase : base ≤ w.heap.size) (hh : h < w.heap.size) :
    ∃ A' c' w', (Builtin.append_ #[36, 36] ty #[.slice A n c, .slice (some ⟨gx, 0, none⟩) 1 1]).run Try.prog w = .ok (.slice A' (n + 1) c') w' ∧ Ow w' base h A' (n + 1) c' (xs ++ [s]) ∧ RowKit.Below base w w' ∧ w'.heap[h]? = w.heap[h]? := by
  obtain ⟨i0, hi, hz0, hz1, hz2⟩ := info_parts Try.info23
  have hx' : w.heap[gx]? = _ := hx
  have hsrc : Src Try.prog 4 36 (.slice (some ⟨gx, 0, none⟩) 1 1) 1 (sc [s]) w := Src.ofSlice w Try.underlying36 ⟨gx, 0, none⟩ 1 1 (sc [s]) (by rw [sc_len]; rfl) (World.news_of_block hx') (sc_one _)
  have hl4 : (sc xs).length = n * 4 := by rw [sc_len, ho.len]; omega
  by_cases hroom : n + 1 ≤ c
  · rcases ho.lies with ⟨_, h0⟩ | ⟨g, off, rfl, hb, hgh, hgl, hc, hsp⟩
    · omega
    · have hsz : (sc [s]).length = 4 := by rw [sc_len]; rfl
      have hr := run_append_room_src (P := Try.prog) w 36 36 ty 23 i0 Try.underlying36 hi g off n c (.slice (some ⟨gx, 0, none⟩) 1 1) 1 (sc [s]) (by rw [hz1]; exact hsrc) hroom (by rw [hz1, hsz]; exact fun j hj => (hsp j (by omega)).1) (by rw [hz1, hsz]; exact fun j hj => (hsp j (by omega)).2)
      rw [hz1] at hr
      have hin : ∀ j, j < 4 → (w.setCells g (off + n * 4) (sc [s])).cell? ⟨g, off + n * 4 + j, none⟩ = (sc [s])[j]? := fun j hj => by
        have := World.cell?_setCells_in g (sc [s]) (off + n * 4) w (fun j hj => (hsp j (by omega)).1) j (by omega)
        rw [this, List.getElem?_eq_getElem (by omega)]
      refine ⟨_, _, _, hr, ⟨by simp [ho.len], hroom, ho.cmax, .inr ⟨g, off, rfl, hb, hgh, by simpa using hgl, fun j u hj => ?_, fun j hj => ?_⟩⟩, below_setCells hb _ _ _ _ (Below.refl _ _), World.heap_setCells_other w g _ _ hh (fun e => hgh e.symm)⟩
      · rw [sc_append] at hj
        rcases Nat.lt_or_ge j (n * 4) with h1 | h1
        · rw [List.getElem?_append_left (by omega)] at hj
          rw [World.cell?_setCells_out g _ _ _ _ (fun _ _ => .inl (by show off + j < off + n * 4; omega))]
          exact hc j u hj
        · rw [List.getElem?_append_right (by omega), hl4] at hj
          have h4 : j - n * 4 < 4 := by
            have := (List.getElem?_eq_some_iff.1 hj).1
            omega
          have := hin (j - n * 4) h4
          rw [hj, show off + n * 4 + (j - n * 4) = off + j by omega] at this
          exact this
      · have e : off + (n + 1) * 4 + j = off + n * 4 + (4 + j) := by omega
        rw [e, World.frozen?_setCells, World.cell?_setCells_out g _ _ _ _ (fun _ _ => .inr (by show off + n * 4 + (sc [s]).length ≤ off + n * 4 + (4 + j); omega))]
        exact hsp (4 + j) (by omega)
  · have hold : (Builtin.firstCells i0.size n (.slice A n c)).run Try.prog w.drew = .ok (sc xs).toArray w.drew := by
      rw [hz1]
      rcases ho.lies with ⟨rfl, h0⟩ | ⟨g, off, rfl, hb, hgh, hgl, hc, hsp⟩
      · have hn0 : n = 0 := by have := ho.room; omega
        have hx0 : xs = [] := List.length_eq_zero_iff.1 (by have := ho.len; omega)
        rw [hx0]
        exact run_firstCells_none w.drew 4 n n c
      · exact run_firstCells_some w.drew 4 n ⟨g, off, none⟩ n c (sc xs) hl4 (fun j v hj => by rw [Addr.add_mid]; exact hc j v hj)
    have hr := run_append_grow_src (P := Try.prog) w 36 36 ty 23 i0 _ Try.underlying36 hi hz0 A n c (sc xs) hold (.slice (some ⟨gx, 0, none⟩) 1 1) 1 (sc [s]) (by rw [hz1]; exact hsrc) (by omega) (by omega) (growslice_fits (by omega) (by rw [hz2]; omega))
    have hge := grownCap_ge w (n + 1) c 23
    have hle := grownCap_le_maxLen w (n + 1) c 23 (by unfold maxLen; omega)
    have hL : (sc xs ++ sc [s]).length = (n + 1) * 4 := by rw [List.length_append, hl4, sc_len]; show n * 4 + 4 * 1 = _; omega
    refine ⟨_, _, _, hr, ⟨by simp [ho.len], hge, hle, .inr ⟨w.heap.size, 0, rfl, hbase, by omega, by rw [World.size_alloc]; exact Nat.lt_succ_self _, fun j u hj => ?_, fun j hj => ⟨?_, ?_⟩⟩⟩, ((Below.refl _ _).drew).alloc (by exact hbase) _, Below.heap_alloc w.drew _ h hh⟩
    · have e1 : (w.drew.alloc (.cells ((sc xs ++ sc [s]).toArray ++ Builtin.zeroCells (Value.agg #[.int .i64 0, .int .i64 0, .int .i64 0, .int .i64 0]).cells (grownCap w (n + 1) c 23 - (n + 1))) 23)).cell? ⟨w.heap.size, j, none⟩ = _ := World.cell?_alloc_new w.drew _ _ j
      rw [Nat.zero_add, e1, ← sc_append]
      have hjl := (List.getElem?_eq_some_iff.1 hj).1
      rw [Array.getElem?_append_left (by simpa using hjl), List.getElem?_toArray]
      exact hj
    · have e1 : (w.drew.alloc (.cells ((sc xs ++ sc [s]).toArray ++ Builtin.zeroCells (Value.agg #[.int .i64 0, .int .i64 0, .int .i64 0, .int .i64 0]).cells (grownCap w (n + 1) c 23 - (n + 1))) 23)).cell? ⟨w.heap.size, 0 + (n + 1) * 4 + j, none⟩ = _ := World.cell?_alloc_new w.drew _ _ _
      rw [e1]
      have hsz : ((sc xs ++ sc [s]).toArray ++ Builtin.zeroCells (Value.agg #[.int .i64 0, .int .i64 0, .int .i64 0, .int .i64 0]).cells (grownCap w (n + 1) c 23 - (n + 1))).size = grownCap w (n + 1) c 23 * 4 := by
        rw [Array.size_append, List.size_toArray, hL, size_zeroCells]
        show (n + 1) * 4 + (grownCap w (n + 1) c 23 - (n + 1)) * 4 = _
        omega
      rw [Array.getElem?_eq_getElem (by rw [hsz]; omega)]
      rfl
    · exact World.frozen?_alloc_new w.drew _ _ _
/-- .. at a step of a region that draws -/
theorem step_app_one {w : World} {ops : Array Oper} {o : Oper} {a : Act} {K : Act → World → Prop} {Q : Exit → Act → World → Prop} {E : Prop} (hgd : o.guard = none) (s x : Operand)
    (ho : o.op = .call { callee := .builtin .append, args := #[s, x], argTypes := #[36, 36] }) {base h : Nat} {A : Option Addr} {n c gx : Nat} {xs : List S4} {y : S4}
    (hs : a.eval s = .slice A n c) (hown : Ow w base h A n c xs) (hx : a.eval x = .slice (some ⟨gx, 0, none⟩) 1 1) (hb : Box w gx y) (hn : n ≤ 1000) (hbase : base ≤ w.heap.size) (hh : h < w.heap.size)
    (k : ∀ A' c' w', Ow w' base h A' (n + 1) c' (xs ++ [y]) → RowKit.Below base w w' → w'.heap[h]? = w.heap[h]? → K (a.put o.dst (.slice A' (n + 1) c')) w') :
    if Region.wanted o (yielded ops a.tmps) = true then Oper.wp Try.prog o a w K Q else E := by
  have hw : Region.wanted o (yielded ops a.tmps) = true := by simp [Region.wanted, hgd]
  rw [if_pos hw]
  obtain ⟨A', c', w', hr, h2, h3, h4⟩ := app_one o.type hown hb hn hbase hh
  unfold Oper.wp execOp
  simp only [ho, resolve, invoke, builtin, Sem.run_bind, Sem.run_pure, Result.andThen_ok, List.map_toArray, List.map_cons, List.map_nil, hs, hx, hr]
  exact k A' c' w' h2 h3 h4
/-- without its first one -/
theorem Ow.rest {w : World} {base h : Nat} {g off n c : Nat} {x : S4} {xs : List S4} (ho : Ow w base h (some ⟨g, off, none⟩) (n + 1) c (x :: xs)) : Ow w base h (some ⟨g, off + 4, none⟩) n (c - 1) xs := by
  have hr := ho.room
  refine ⟨by have := ho.len; simpa using this, by omega, by have := ho.cmax; omega, ?_⟩
  rcases ho.lies with ⟨e, _⟩ | ⟨g', off', e, hb, hgh, hgl, hc, hsp⟩
  · cases e
  · cases e
    refine .inr ⟨g, off + 4, rfl, hb, hgh, hgl, fun j u hj => ?_, fun j hj => ?_⟩
    · have := hc (4 + j) u (by rw [sc_cons, List.getElem?_append_right (by show 4 ≤ 4 + j; omega)]; rw [show 4 + j - x.cs.length = j by show 4 + j - 4 = j; omega]; exact hj)
      rwa [show off + (4 + j) = off + 4 + j by omega] at this
    · have := hsp j (by omega)
      rwa [show off + (n + 1) * 4 + j = off + 4 + n * 4 + j by omega] at this
theorem Ow.below {w w' : World} {base h n c : Nat} {A : Option Addr} {xs : List S4} (ho : Ow w base h A n c xs) (b : RowKit.Below w.heap.size w w') : Ow w' base h A n c xs := by
  refine ⟨ho.len, ho.room, ho.cmax, ho.lies.imp id ?_⟩
  rintro ⟨g, off, rfl, hb, hgh, hgl, hc, hsp⟩
  have e := b.block g hgl
  exact ⟨g, off, rfl, hb, hgh, Nat.lt_of_lt_of_le hgl b.size, fun j u hj => (World.cell?_of_block e).trans (hc j u hj), fun j hj => by
    have := hsp j hj
    exact ⟨by rw [World.cell?_of_block (a := ⟨g, off + n * 4 + j, none⟩) e]; exact this.1, by rw [World.frozen?_of_block (a := ⟨g, off + n * 4 + j, none⟩) e]; exact this.2⟩⟩
/-- .. another block's cell is stored into -/
theorem Ow.set {w : World} {base h n c : Nat} {A : Option Addr} {xs : List S4} (ho : Ow w base h A n c xs) (i : Nat) (v : Value) : Ow (w.setCell ⟨h, i, none⟩ v) base h A n c xs := by
  refine ⟨ho.len, ho.room, ho.cmax, ho.lies.imp id ?_⟩
  rintro ⟨g, off, rfl, hb, hgh, hgl, hc, hsp⟩
  have e := set_far w h i v hgh
  exact ⟨g, off, rfl, hb, hgh, by rw [World.size_setCell]; exact hgl, fun j u hj => (World.cell?_of_block e).trans (hc j u hj), fun j hj => by
    have := hsp j hj
    exact ⟨by rw [World.cell?_of_block (a := ⟨g, off + n * 4 + j, none⟩) e]; exact this.1, by rw [World.frozen?_of_block (a := ⟨g, off + n * 4 + j, none⟩) e]; exact this.2⟩⟩
theorem Ow.rd {w : World} {base h n c : Nat} {A : Option Addr} {xs : List S4} (ho : Ow w base h A n c xs) : Rd w w.heap.size A n xs := by
  refine ⟨ho.len, ?_⟩
  rcases ho.lies with ⟨_, h0⟩ | ⟨g, off, rfl, hb, hgh, hgl, hc, hsp⟩
  · exact .inl (by have := ho.room; omega)
  · refine .inr ⟨g, off, rfl, hgl, fun i s hs => ?_⟩
    have H : ∀ q, q < 4 → (sc xs)[4 * i + q]? = s.cs[q]? := fun q hq => sc_get hs q hq
    have G : ∀ q v, q < 4 → s.cs[q]? = some v → w.cell? ⟨g, off + i * 4 + q, none⟩ = some v := fun q v hq hv => by
      have := hc (4 * i + q) v (by rw [H q hq]; exact hv)
      rwa [show off + (4 * i + q) = off + i * 4 + q by omega] at this
    exact ⟨G 0 _ (by omega) rfl, G 1 _ (by omega) rfl, G 2 _ (by omega) rfl, G 3 _ (by omega) rfl⟩
end Go.Proofs.Ytofieoklcegddaa
