/- wire: the document's own Copy. -/
import Derived.Test.YthflafcjinpmnaaW14
import Derived.Maps.AppendAt
import Derived.Deep.RegionLaw
namespace Go.Proofs.Ythflafcjinpmnaa
open Go.RowKit
set_option linter.unusedVariables false
set_option linter.unusedSimpArgs false
set_option maxRecDepth 100000
theorem wpList_push (w : World) {ops : Array Oper} {rest : List Oper} {o : Oper} {a : Act} {P : Program} {Q : Exit → Act → World → Prop} (hgd : o.guard = none) (s x : Operand) (t : TypeId)
    (ho : o.op = .call { callee := .builtin .append, args := #[s, x], argTypes := #[t, t] }) {base e size bytes : Nat} {z : Value} (ht : P.underlying t = some (.slice e))
    (hinf : (P.info? e).map (fun i => (i.zero, i.size, i.bytes)) = some (some z, size, bytes)) (hzs : z.cells.size = size) (hsz : 0 < size) (hby : bytes ≤ 128)
    {n c g : Nat} {A : Option Addr} {cs : List Value} (news : List Value) {t2 : TypeId}
    (hs : a.eval s = .slice A n c) (hown : Gw w base e size A n c cs) (hx : a.eval x = .slice (some ⟨g, 0, none⟩) 1 1) (hl : news.length = size)
    (hc : w.heap[g]? = some (.cells news.toArray t2 (0, 0))) (h1 : ∀ u ∈ news, u.oneCell' = true) (hn : n ≤ 1099511627775) (hbase : base ≤ w.heap.size)
    (h : ∀ A' c' w', Gw w' base e size A' (n + 1) c' (cs ++ news) → Gr w A w' A' → wpList P ops Q rest (a.put o.dst (.slice A' (n + 1) c')) w') : wpList P ops Q (o :: rest) a w := by
  obtain ⟨i0, hi, hz0, hz1, hz2⟩ := info_parts hinf
  refine wpList_append_own_at w hgd s x t ho base e i0 z size bytes ht hi hz0 hz1 hz2 hzs hsz _ n cs hs hown ⟨g, 0, none⟩ 1 1 news hx (by omega) (World.news_of_block hc) h1 (by unfold maxLen; omega)
    (by have := Nat.mul_le_mul (show n + 1 ≤ 1099511627776 by omega) hby; omega) hbase ?_
  intro v' w' h2 h3 _ h5
  obtain ⟨A', c', rfl⟩ := own_shape' h2
  rw [own_blk] at h3
  rw [own_blk, own_blk] at h5
  exact h A' c' w' h2 ⟨h3, h5.imp id fun e => ⟨_, e, Nat.le_refl _⟩⟩
theorem es_of2 {w : World} {base n c : Nat} {A : Option Addr} {els : List El} (hn : els.length = n) (h : Gw w base 47 8 A n c (els.flatMap El.cs)) (hf : ∀ x ∈ els, Nb w w.heap.size x.A x.n x.c x.xs ∧ Nb w w.heap.size x.B x.m x.e x.ys) : Es w w.heap.size A n els := by
  refine ⟨hn, hf, ?_⟩
  rcases Nat.eq_zero_or_pos n with h0 | h0
  · exact .inl h0
  · obtain ⟨g, hA, _, hg, hc⟩ := h.cell h0 (by decide)
    refine .inr ⟨g, 0, hA, hg, fun i x hx => ?_⟩
    have q : ∀ r u, r < 8 → x.cs[r]? = some u → w.cell? ⟨g, i * 8 + r, none⟩ = some u := fun r u hr hu => hc _ u ((flat_get hx hr).trans hu)
    simp only [Nat.zero_add]
    exact ⟨q 0 _ (by decide) rfl, q 1 _ (by decide) rfl, q 2 _ (by decide) rfl, q 3 _ (by decide) rfl, q 4 _ (by decide) rfl, q 5 _ (by decide) rfl, q 6 _ (by decide) rfl, q 7 _ (by decide) rfl⟩
/-- a field without its signed numbers: its texts alone -/
def txs (x : El) : El := { x with op := 0, as_ := 0 }
/-- behind some fields: the copy's box at g; all else is as it was -/
structure Cp (W0 W : World) (g : Nat) (p : Pk) (k : List El) : Prop where
  fr : Fr W0 W g g
  box : ∃ (A : Option Addr) (c : Nat) (els : List El), els.map El.says = k.map El.says ∧ (∀ x ∈ els, x.xs.length = x.n ∧ x.ys.length = x.m) ∧ PBox W g ⟨p.h, A, k.length, c, p.m⟩ ∧ Gw W W0.heap.size 47 8 A k.length c (els.flatMap El.cs) ∧ ∀ x ∈ els, Ft W A W0.heap.size (txs x)
/-- one field more -/
theorem Cp.grow {W0 W W' : World} {g : Nat} {p : Pk} {k : List El} {A A' : Option Addr} {c c' : Nat} {els : List El} {x y : El} (hfr : Fr W0 W g g) (hg : g < W0.heap.size)
    (h1 : els.map El.says = k.map El.says) (hl : ∀ x ∈ els, x.xs.length = x.n ∧ x.ys.length = x.m) (hl2 : x.xs.length = x.n ∧ x.ys.length = x.m) (hxy : x.says = y.says) (h2 : PBox W g ⟨p.h, A, k.length, c, p.m⟩) (hbk : ∀ q, blk A = some q → W0.heap.size ≤ q) (h4 : ∀ z ∈ els, Ft W A W0.heap.size (txs z)) (hx : Ft W A W0.heap.size (txs x))
    (hG : Gw W' W0.heap.size 47 8 A' (k.length + 1) c' (els.flatMap El.cs ++ x.cs)) (hgr : Gr W A W' A') :
    Cp W0 (W'.setCell ⟨g, 13, none⟩ (.slice A' (k.length + 1) c')) g p (k ++ [y]) := by
  have hsz : (W'.setCell ⟨g, 13, none⟩ (.slice A' (k.length + 1) c')).heap.size = W'.heap.size := by simp
  have hoth : ∀ q, q ≠ g → (W'.setCell ⟨g, 13, none⟩ (.slice A' (k.length + 1) c')).heap[q]? = W'.heap[q]? := fun q a => heap_setCell_other _ _ _ _ (by exact a)
  have np : ∀ q, q < W0.heap.size → blk A ≠ some q := fun q hq e' => by have := hbk q e'; omega
  have hP : W'.heap[g]? = _ := (hgr.1.block g h2.lt fun e' => np g hg e'.symm).trans h2
  have fr1 : Fr W0 W' g g := hfr.grown hgr.1 fun r e' => .inl (hbk r e')
  have hkeep : ∀ z, Ft W A W0.heap.size (txs z) → Ft (W'.setCell ⟨g, 13, none⟩ (.slice A' (k.length + 1) c')) A' W0.heap.size (txs z) := fun z hz =>
    hz.keep (by rw [hsz]; exact hgr.1.size) (fun q hq hlo hne => (hoth q (by omega)).trans (hgr.1.block q hq fun e' => hne e'.symm)) hgr.2
  refine ⟨⟨fr1.os, fr1.tape, fr1.output, by rw [hsz]; exact fr1.size, fun q hq a b => (hoth q a).trans (fr1.block q hq a b)⟩, A', c', els ++ [x], by rw [List.map_append, List.map_append, h1]; simp [hxy], ?_, ?_, ?_, ?_⟩
  · intro z hz
    rcases List.mem_append.1 hz with hz | hz
    · exact hl z hz
    · simp at hz; subst hz; exact hl2
  · unfold PBox
    rw [heap_setCell_same _ _ _ _ _ _ hP, List.length_append]
    rfl
  · rw [List.length_append, List.flatMap_append]
    refine Gw.keep (w := W') (by simpa using hG) fun q hk => hoth q ?_
    rcases hgr.2 with h5 | ⟨k', h5, hk'⟩
    · have := hbk q (h5.symm.trans hk); omega
    · rw [h5] at hk; cases hk
      have := hfr.size; omega
  · intro z hz
    rcases List.mem_append.1 hz with hz | hz
    · exact hkeep z (h4 z hz)
    · simp at hz; subst hz; exact hkeep z hx
/-- what a copy is -/
def CpyPost (p : Pk) (l : List El) (ms : List Nat) (w : World) (e : Ending) (w' : World) : Prop :=
  RowKit.Below w.heap.size w w' ∧ ∃ (q : Pk) (els : List El), e = .returned (pkV q) ∧ q.h = p.h ∧ q.n = p.n ∧ q.m.has = p.m.has ∧ q.m.key = p.m.key ∧ q.m.n = p.m.n ∧ els.map El.says = l.map El.says ∧ Es w' w'.heap.size q.A q.n els ∧ Nb w' w'.heap.size q.m.A q.m.n q.m.c ms
set_option maxHeartbeats 8000000 in
theorem copy_any {w : World} (p : Pk) (l : List El) (ms : List Nat) (hE : Es w w.heap.size p.A p.n l) (hM : Nb w w.heap.size p.m.A p.m.n p.m.c ms) (hli : light p l) : Calls Try.prog 9 #[pkV p] w (CpyPost p l ms w) := by
  obtain ⟨W1, hW1⟩ : ∃ W1, W1 = w.alloc (.cells #[.int .i64 p.h.lp, .int .i64 p.h.ve, .int .i64 p.h.mo, .int .i64 p.h.st, .int .i64 p.h.po, .int .i64 p.h.pr, .int .u32 (p.h.dl : Int), .int .u32 (p.h.di : Int), .int .u32 (p.h.rf : Int), .int .u64 (p.h.re : Int), .int .u64 (p.h.og : Int), .int .u64 (p.h.rc : Int), .int .u64 (p.h.xm : Int), .slice p.A p.n p.c, .bool p.m.has, .int .u32 (p.m.key : Int), .slice p.m.A p.m.n p.m.c] 29) := ⟨_, rfl⟩
  obtain ⟨W2, hW2⟩ : ∃ W2, W2 = W1.alloc (.cells #[.int .i64 0, .int .i64 0, .int .i64 0, .int .i64 0, .int .i64 0, .int .i64 0, .int .u32 0, .int .u32 0, .int .u32 0, .int .u64 0, .int .u64 0, .int .u64 0, .int .u64 0, .slice none 0 0, .bool false, .int .u32 0, .slice none 0 0] 29) := ⟨_, rfl⟩
  obtain ⟨W3, hW3⟩ : ∃ W3, W3 = (W2.alloc (.cells #[.int .i64 0, .int .i64 0, .int .i64 0, .int .i64 0, .int .i64 0, .int .i64 0, .int .u32 0, .int .u32 0, .int .u32 0, .int .u64 0, .int .u64 0, .int .u64 0, .int .u64 0, .slice none 0 0, .bool false, .int .u32 0, .slice none 0 0] 29)).setRow W2.heap.size (pkC p) := ⟨_, rfl⟩
  have s1 : W1.heap.size = w.heap.size + 1 := by rw [hW1]; simp
  have s2 : W2.heap.size = w.heap.size + 2 := by rw [hW2]; simp [s1]
  have s3 : W3.heap.size = w.heap.size + 3 := by rw [hW3]; simp [World.setRow, s2]
  have x1 : PBox W1 w.heap.size p := by rw [hW1]; exact heap_alloc_new w _
  have x2 : PBox W2 w.heap.size p := by rw [hW2]; exact (Below.heap_alloc _ _ _ (by omega)).trans x1
  have y2 : PBox W2 (w.heap.size + 1) pk0 := by rw [hW2, ← s1]; exact heap_alloc_new W1 _
  have b3 : RowKit.Below W2.heap.size W2 W3 := by rw [hW3]; exact below_setRow ((Below.refl _ _).alloc (Nat.le_refl _) _) (Nat.le_refl _) _
  have x3 : PBox W3 w.heap.size p := (b3.block _ (by omega)).trans x2
  have y3 : PBox W3 (w.heap.size + 1) pk0 := (b3.block _ (by omega)).trans y2
  have z3 : PBox W3 (w.heap.size + 2) p := by rw [hW3, ← s2]; exact setRow_heap _ _ _ _ _ _ (heap_alloc_new W2 _)
  have b02 : RowKit.Below w.heap.size w W2 := by rw [hW2, hW1]; exact ((Below.refl _ _).alloc (Nat.le_refl _) _).alloc (by simp) _
  have b0 : RowKit.Below w.heap.size w W3 := b02.trans (b3.mono (by omega))
  have HW2 := Lib.hid (hW1 ▸ hW2)
  have HW3 := Lib.hid hW3
  have HX2 := Lib.hid x2
  have HS := Lib.hid s3
  have HS2 := Lib.hid s2
  have HX3 := Lib.hid x3
  have HY3 := Lib.hid y3
  have HZ3 := Lib.hid z3
  have HB := Lib.hid b0
  have HLi := Lib.hid hli
  have HLn := Lib.hid hE.1
  clear hW1 hW2 hW3 x1 x2 y2 b3 x3 y3 z3 b02 b0 hli s1 s2 s3
  go_enter Try.func9, Try.ntmps9
  go_upto_region 1 with fail
  rw [← HW2.out]
  go_upto_region 2 with (first
    | (refine wpList_load_row rfl 29 (.tmp 1) rfl w.heap.size rfl 29 (pkC p) (0, 0) _ HX2.out Try.underlying29 rfl s29 ?_)
    | (refine wpList_store_row rfl 29 (.tmp 3) (.tmp 9) rfl W2.heap.size (pkC p) rfl rfl 29 _ (heap_alloc_new W2 _) s29 rfl (pk_all _) ?_; rw [← HW3.out]))
  rw [HS2.out]
  obtain ⟨-, -, -, -, -, -, -, -, -, -, -, -, -, c13, -⟩ := HZ3.out.cells
  have f13 : W3.frozen? ⟨w.heap.size + 2, 13, none⟩ = false := frozen_of_row W3 _ 13 _ 29 HZ3.out
  go_upto_region 4 with fail
  obtain ⟨W0, hW0⟩ : ∃ W0, W0 = W3.setCell ⟨w.heap.size + 2, 13, none⟩ (.slice none 0 0) := ⟨_, rfl⟩
  have z0 : PBox W0 (w.heap.size + 2) ⟨p.h, none, 0, 0, p.m⟩ := by rw [hW0]; exact heap_setCell_same _ _ _ _ _ _ HZ3.out
  have o0 : ∀ q, q ≠ w.heap.size + 2 → W0.heap[q]? = W3.heap[q]? := fun q hq => by rw [hW0]; exact heap_setCell_other _ _ _ _ (by exact hq)
  have s0 : W0.heap.size = w.heap.size + 3 := by rw [hW0]; simp [HS.out]
  have b0 : RowKit.Below w.heap.size w W0 := by rw [hW0]; exact HB.out.setCell (by dsimp only; omega) _
  rw [← hW0]
  have HX0 := Lib.hid (show PBox W0 w.heap.size p from (o0 _ (by omega)).trans HX3.out)
  have HY0 := Lib.hid (show PBox W0 (w.heap.size + 1) pk0 from (o0 _ (by omega)).trans HY3.out)
  have HB0 := Lib.hid b0
  have HS0 := Lib.hid s0
  have HCp := Lib.hid (show Cp W0 W0 (w.heap.size + 2) p [] from ⟨Fr.refl _ _ _, none, 0, [], rfl, (fun x hx => by cases hx), z0, Gw.nil _ _ _ _, fun x hx => by cases hx⟩)
  clear hW0 z0 o0 s0 b0 c13 f13 HX2 HX3 HY3 HZ3 HB HS HS2 HW2 HW3
  have HE0 := Lib.hid hE
  have HM0 := Lib.hid hM
  clear hE hM
  go_loopw [4] (fun i wr => ∃ j : Nat, j ≤ p.n ∧ i = .int .i64 (j : Int) ∧ Hid (Cp W0 wr (w.heap.size + 2) p (l.take j))) (fun i _ => (p.n - (match i with | .int _ z => z.toNat | _ => 0)))
  case atStart => exact ⟨0, by omega, rfl, Lib.hid HCp.out⟩
  case round =>
    obtain ⟨j, hjn, rfl, HCr⟩ := hrel
    have hBw : RowKit.Below w.heap.size w wr := by
      have f := HCr.out.fr
      have := HS0.out
      exact ⟨f.os.trans HB0.out.os, f.tape.trans HB0.out.tape, f.output.trans HB0.out.output, Nat.le_trans HB0.out.size f.size, fun q hq => (f.block q (by omega) (by omega) (by omega)).trans (HB0.out.block q hq)⟩
    have hX : PBox wr w.heap.size p := (HCr.out.fr.block _ (by have := HS0.out; omega) (by omega) (by omega)).trans HX0.out
    obtain ⟨c0, c1, c2, c3, c4, c5, c6, c7, c8, c9, c10, c11, c12, c13, c14, c15, c16⟩ := hX.cells
    have HBw := Lib.hid hBw
    by_cases hj : j < p.n
    · clear c0 c1 c2 c3 c4 c5 c6 c7 c8 c9 c10 c11 c12  c14 c15 c16
      have e1 : (j : Int) < (p.n : Int) := by omega
      obtain ⟨x, hx⟩ : ∃ x, l[j]? = some x := ⟨_, List.getElem?_eq_getElem (by have := HLn.out; omega)⟩
      have hEw := HE0.out.below hBw (Nat.le_refl _)
      have HNx := Lib.hid (hEw.2.1 x (List.mem_of_getElem? hx))
      obtain ⟨g, off, hA, hg, hcl⟩ := hEw.2.2.resolve_left (by omega)
      obtain ⟨d0, d1, d2, d3, d4, d5, d6, d7⟩ := hcl j x hx
      have HTk := Lib.hid (show l.take (j + 1) = l.take j ++ [x] by rw [List.take_add_one, hx]; rfl)
      have HLx := Lib.hid (HLi.out.2.2 x (List.mem_of_getElem? hx))
      have HJ := Lib.hid (⟨hjn, hj⟩ : j ≤ p.n ∧ j < p.n)
      have HLj := Lib.hid (show (l.take j).length = j by rw [List.length_take]; have := HLn.out; omega)
      have s0 := w64_one40 (j := j) (by have := HJ.out; have := HLi.out.1; omega)
      rw [hA] at c13
      obtain ⟨V, hV⟩ : ∃ V, V = wr.alloc (.cells #[.int .i64 x.op, .bool x.resp, .bool x.bad, .int .i64 x.as_, .int .u32 (x.ts : Int), .int .u32 (x.fs : Int), .slice x.A x.n x.c, .slice x.B x.m x.e] 47) := ⟨_, rfl⟩
      have xV : EBox V wr.heap.size x := by rw [hV]; exact heap_alloc_new wr _
      have bV : RowKit.Below wr.heap.size wr V := by rw [hV]; exact (Below.refl _ _).alloc (Nat.le_refl _) _
      have HV := Lib.hid hV
      have HbV := Lib.hid bV
      have HXV := Lib.hid xV
      have HNV := Lib.hid (⟨HNx.out.1.below (bV.mono hBw.size), HNx.out.2.below (bV.mono hBw.size)⟩ : Nb V w.heap.size x.A x.n x.c x.xs ∧ Nb V w.heap.size x.B x.m x.e x.ys)
      clear hcl hx hA hj hjn hg hEw hV xV bV hBw hX
      go_upto_region 8 with fail
      rw [← HV.out]
      clear d0 d1 d2 d3 d4 d5 d6 d7 c13
      obtain ⟨d0, d1, d2, d3, d4, d5, d6, d7⟩ := HXV.out.cells
      have fr6 : V.frozen? ⟨wr.heap.size, 6, none⟩ = false := frozen_of_row V _ 6 _ 47 HXV.out
      have fr7 : V.frozen? ⟨wr.heap.size, 7, none⟩ = false := frozen_of_row V _ 7 _ 47 HXV.out
      clear d0 d1 d2 d3 d4 d5
      have hN1 := Lib.hid (show Nb V.drew w.heap.size x.A x.n x.c x.xs from HNV.out.1.below (Below.refl w.heap.size V).drew)
      have hN2 := Lib.hid (show Nb V.drew w.heap.size x.B x.m x.e x.ys from HNV.out.2.below (Below.refl w.heap.size V).drew)
      have hG0 := Lib.hid (Gb.nil V.drew V.heap.size)
      have hB0 := Lib.hid (Below.refl V.heap.size V.drew)
      have hl1 : 0 + x.n ≤ 1099511627776 := by have := HLx.out; omega
      have hl2 : 0 + x.m ≤ 1099511627776 := by have := HLx.out; omega
      have HwV := Lib.hid (show w.heap.size ≤ V.heap.size from Nat.le_trans HBw.out.size HbV.out.size)
      have hs1 : V.heap.size ≤ V.drew.heap.size := Nat.le_refl _
      go_region_law (first
        | (refine wp_row_b (w0 := V.drew) _ (.tmp 23) (.tmp 25) rfl rfl hG0.out rfl hN1.out hl1 hB0.out hs1 ?_
           intro A6 k6 w6 hg6 hb6
           have hx6 := (hb6.block _ HXV.out.lt).trans (show V.drew.heap[wr.heap.size]? = _ from HXV.out)
           obtain ⟨-, -, -, -, -, -, p6, p7⟩ := EBox.cells hx6
           have HX6 := Lib.hid hx6
           have HG6 := Lib.hid hg6
           have HB6 := Lib.hid hb6
           clear hx6 hg6 hb6)
        | (refine wp_row_b (w0 := w6) _ (.tmp 27) (.tmp 29) rfl rfl (Gb.nil w6 w6.heap.size) rfl (hN2.out.below (HB6.out.mono HwV.out)) hl2 (Below.refl _ _) (Nat.le_refl _) ?_
           intro A7 k7 w7 hg7 hb7
           have hx7 := (hb7.block _ (EBox.lt HX6.out)).trans HX6.out
           obtain ⟨-, -, -, -, -, -, q6, q7⟩ := EBox.cells hx7
           have r6 : w7.frozen? ⟨wr.heap.size, 6, none⟩ = false := frozen_of_row w7 _ 6 _ 47 hx7
           have r7 : w7.frozen? ⟨wr.heap.size, 7, none⟩ = false := frozen_of_row w7 _ 7 _ 47 hx7
           have HX7 := Lib.hid hx7
           have HG7 := Lib.hid hg7
           have HB7 := Lib.hid hb7
           clear hx7 hg7 hb7))
      all_goals
        obtain ⟨U, hU⟩ : ∃ U, U = (w7.setCell ⟨wr.heap.size, 6, none⟩ (.slice A6 x.n k6)).setCell ⟨wr.heap.size, 7, none⟩ (.slice A7 x.m k7) := ⟨_, rfl⟩
        have hVs : V.heap.size = wr.heap.size + 1 := by rw [HV.out]; simp
        have hb67 : RowKit.Below V.heap.size V w7 := ((Below.refl V.heap.size V).drew).trans (HB6.out.trans (HB7.out.mono HB6.out.size))
        have bU : RowKit.Below wr.heap.size wr U := by rw [hU]; exact ((HbV.out.trans (hb67.mono (by omega))).setCell (by exact Nat.le_refl _) _).setCell (by exact Nat.le_refl _) _
        have xU : EBox U wr.heap.size { x with A := A6, c := k6, B := A7, e := k7 } := by rw [hU]; exact heap_setCell_same _ _ _ _ _ _ (heap_setCell_same _ _ _ _ _ _ HX7.out)
        have oU : ∀ q, q ≠ wr.heap.size → U.heap[q]? = w7.heap[q]? := fun q hq => by rw [hU]; exact (heap_setCell_other _ _ _ _ (by exact hq)).trans (heap_setCell_other _ _ _ _ (by exact hq))
        have sU : U.heap.size = w7.heap.size := by rw [hU]; simp
        rw [← hU]
        have hg6 := HG6.out
        have hg7 := HG7.out
        rw [Nat.zero_add, List.nil_append] at hg6 hg7
        have own6 : ∀ q, blk A6 = some q → V.heap.size ≤ q := hg6.own
        have own7 : ∀ q, blk A7 = some q → w6.heap.size ≤ q := hg7.own
        have h6s := HB6.out.size
        have h7s := HB7.out.size
        have n6 : Nb U U.heap.size A6 x.n k6 x.xs := ((hg6.nb HNx.out.1.lim).far HB7.out).keepn (by omega) fun _ ad ea => oU _ (by have := own6 ad.block (by rw [ea]; rfl); omega)
        have n7 : Nb U U.heap.size A7 x.m k7 x.ys := (hg7.nb HNx.out.2.lim).keepn (by omega) fun _ ad ea => oU _ (by have := own7 ad.block (by rw [ea]; rfl); have : V.drew.heap.size ≤ w6.heap.size := h6s; have : V.drew.heap.size = V.heap.size := rfl; omega)
        obtain ⟨A3, c3, els, h31, h32, h33', h34', h35'⟩ := HCr.out.box
        have hblt := h34'.blk_lt
        have h33 := h33'.below bU
        have h34 := h34'.below bU
        have h35 : ∀ y ∈ els, Ft U A3 W0.heap.size (txs y) := fun y hy => (h35' y hy).keep bU.size (fun q hq _ _ => bU.block q hq) (.inl rfl)
        have hwr := HCr.out.fr.size
        have hFx : Ft U A3 W0.heap.size (txs { x with A := A6, c := k6, B := A7, e := k7 }) :=
          ⟨n6, n7, fun _ ad ea => ⟨by have := own6 ad.block (by rw [show A6 = some ad from ea]; rfl); omega, fun e2 => by have := own6 ad.block (by rw [show A6 = some ad from ea]; rfl); have := (hblt _ e2).2; omega⟩,
            fun _ ad ea => ⟨by have := own7 ad.block (by rw [show A7 = some ad from ea]; rfl); have : V.drew.heap.size ≤ w6.heap.size := h6s; have : V.drew.heap.size = V.heap.size := rfl; omega, fun e2 => by have := own7 ad.block (by rw [show A7 = some ad from ea]; rfl); have := (hblt _ e2).2; have : V.drew.heap.size ≤ w6.heap.size := h6s; have : V.drew.heap.size = V.heap.size := rfl; omega⟩, ⟨Int.le_refl _, Int.le_refl _⟩⟩
        have HFx := Lib.hid hFx
        have HFr := Lib.hid (HCr.out.fr.below bU)
        have H31 := Lib.hid h31
        have H32 := Lib.hid h32
        have H33 := Lib.hid h33
        have H34 := Lib.hid h34
        have H35 := Lib.hid h35
        have HXU := Lib.hid xU
        have HBlk := Lib.hid (fun q e => (hblt q e).1)
        have HUs := Lib.hid (show W0.heap.size ≤ U.heap.size by omega)
        clear hU hVs hb67 bU xU oU sU hg6 hg7 own6 own7 h6s h7s n6 n7 h31 h32 h33' h34' h35' hblt h33 h34 h35 hwr hFx p6 p7 q6 q7 r6 r7 d6 d7 fr6 fr7
        obtain ⟨y, hy⟩ : ∃ y : El, y = { x with A := A6, c := k6, B := A7, e := k7 } := ⟨_, rfl⟩
        rw [← hy] at HXU HFx
        have HYs := Lib.hid (show y.says = x.says by rw [hy]; rfl)
        have HYl := Lib.hid (show y.xs.length = y.n ∧ y.ys.length = y.m by rw [hy]; exact ⟨HNx.out.1.len, HNx.out.2.len⟩)
        clear hy HG6 HG7 HX6 HX7
        obtain ⟨-, -, -, -, -, -, -, -, -, -, -, -, -, c13, -⟩ := H33.out.cells
        have c13' : U.cell? ⟨w.heap.size + 2, 13, none⟩ = some (.slice A3 (l.take j).length c3) := c13
        clear c13
        rw [HLj.out] at c13'
        have hbs : W0.heap.size ≤ (U.alloc (.cells #[.int .i64 y.op, .bool y.resp, .bool y.bad, .int .i64 y.as_, .int .u32 (y.ts : Int), .int .u32 (y.fs : Int), .slice y.A y.n y.c, .slice y.B y.m y.e] 47)).heap.size := Nat.le_trans HUs.out (by simp)
        have hjb : j ≤ 1099511627775 := by have := HJ.out; have := HLi.out.1; omega
        go_wp2_with (first
          | (refine wpList_load_row rfl 47 (.tmp 5) rfl wr.heap.size rfl 47 (elC y) (0, 0) _ HXU.out Try.underlying47 rfl s47 ?_)
          | (at_builtin; (refine wpList_push _ rfl (.tmp 34) (.tmp 36) 24 rfl Try.underlying24 i47 rfl (by decide) (by decide) (El.cs y) rfl ((HLj.out ▸ H34.out).alloc _) rfl rfl (heap_alloc_new _ _) (cs_one _) hjb hbs ?_)
             intro A' c' w12 hG' hgr
             have hP12 : w12.heap[w.heap.size + 2]? = _ := (hgr.1.block _ (Nat.lt_of_lt_of_le H33.out.lt (by simp)) (fun e' => by have := HBlk.out _ e'.symm; have := HS0.out; omega)).trans ((Below.heap_alloc _ _ _ H33.out.lt).trans H33.out)
             have m13 : w12.cell? ⟨w.heap.size + 2, 13, none⟩ = some (.slice A3 (l.take j).length c3) := (PBox.cells hP12).2.2.2.2.2.2.2.2.2.2.2.2.2.1
             have n13 : w12.frozen? ⟨w.heap.size + 2, 13, none⟩ = false := frozen_of_row w12 _ 13 _ 29 hP12
             have HG' := Lib.hid hG'
             have HGr := Lib.hid hgr
             clear hG' hgr hP12))
        have hjs := HJ.out
        have hl2 : (U.alloc (.cells #[.int .i64 y.op, .bool y.resp, .bool y.bad, .int .i64 y.as_, .int .u32 (y.ts : Int), .int .u32 (y.fs : Int), .slice y.A y.n y.c, .slice y.B y.m y.e] 47)).heap.size = U.heap.size + 1 := by simp
        have hC := Cp.grow (y := x) (HFr.out.below ((Below.refl _ _).alloc (Nat.le_refl _) (.cells #[.int .i64 y.op, .bool y.resp, .bool y.bad, .int .i64 y.as_, .int .u32 (y.ts : Int), .int .u32 (y.fs : Int), .slice y.A y.n y.c, .slice y.B y.m y.e] 47))) (by have := HS0.out; omega) H31.out H32.out HYl.out HYs.out
          ((Below.heap_alloc _ _ _ H33.out.lt).trans H33.out) HBlk.out (fun z hz => (H35.out z hz).keep ((Below.refl _ _).alloc (Nat.le_refl _) _).size (fun q hq _ _ => Below.heap_alloc _ _ _ hq) (.inl rfl)) (HFx.out.keep ((Below.refl _ _).alloc (Nat.le_refl _) _).size (fun q hq _ _ => Below.heap_alloc _ _ _ hq) (.inl rfl))
          (HLj.out.symm ▸ HG'.out) HGr.out
        rw [HLj.out, ← HTk.out] at hC
        exact ⟨⟨j + 1, by omega, rfl, Lib.hid hC⟩, by show p.n - ((j : Int) + 1).toNat < p.n - (j : Int).toNat; omega⟩
    · have e1 : ((j : Int) < (p.n : Int)) = False := by simp only [eq_iff_iff, iff_false]; omega
      have hEq := (List.take_of_length_le (by have := HLn.out; omega) : l.take j = l)
      rw [hEq] at HCr
      have hN := HM0.out.below hBw
      have hlm : 0 + p.m.n ≤ 1099511627776 := by have := HLi.out.2.1; omega
      have hbr := Below.refl wr.heap.size wr
      have HFr := Lib.hid HCr.out.fr
      obtain ⟨A3, cc3, els, h31, h32, h33, h34, h35⟩ := HCr.out.box
      have HBlk := Lib.hid h34.blk_lt
      have H31 := Lib.hid h31
      have H33 := Lib.hid h33
      have H34 := Lib.hid h34
      have H35 := Lib.hid h35
      have H32 := Lib.hid h32
      have hY : PBox wr (w.heap.size + 1) pk0 := (HCr.out.fr.block _ (by have := HS0.out; omega) (by omega) (by omega)).trans HY0.out
      have HY := Lib.hid hY
      have hsr := HCr.out.fr.size
      have HSr := Lib.hid hsr
      clear c0 c1 c2 c3 c4 c5 c6 c7 c8 c9 c10 c11 c12  c14 c15  hEq hj hjn h31 h32 h33 h34 h35 hY hX hBw hsr
      go_upto_region 12 with (first
        | (at_builtin; (refine wpList_app_row_b (w0 := wr) _ rfl (.tmp 39) (.tmp 42) rfl rfl (Gb.nil wr wr.heap.size) rfl hN hlm hbr (Nat.le_refl _) ?_)
           intro A9 k9 w9 hg9 hb9
           have hP9 : w9.heap[w.heap.size + 2]? = _ := (hb9.block _ H33.out.lt).trans H33.out
           have m16 : w9.cell? ⟨w.heap.size + 2, 16, none⟩ = some (.slice p.m.A p.m.n p.m.c) := (PBox.cells hP9).2.2.2.2.2.2.2.2.2.2.2.2.2.2.2.2
           have n16 : w9.frozen? ⟨w.heap.size + 2, 16, none⟩ = false := frozen_of_row w9 _ 16 _ 29 hP9
           have HP9 := Lib.hid hP9
           have HG9 := Lib.hid hg9
           have HB9 := Lib.hid hb9
           clear hP9 hg9 hb9))
      obtain ⟨U, hU⟩ : ∃ U, U = w9.setCell ⟨w.heap.size + 2, 16, none⟩ (.slice A9 p.m.n k9) := ⟨_, rfl⟩
      have q3 : PBox U (w.heap.size + 2) ⟨p.h, A3, l.length, cc3, ⟨p.m.has, p.m.key, A9, p.m.n, k9⟩⟩ := by rw [hU]; exact heap_setCell_same _ _ _ _ _ _ HP9.out
      have oU : ∀ q, q ≠ w.heap.size + 2 → U.heap[q]? = w9.heap[q]? := fun q hq => by rw [hU]; exact heap_setCell_other _ _ _ _ (by exact hq)
      have sU : U.heap.size = w9.heap.size := by rw [hU]; simp
      have q2 : PBox U (w.heap.size + 1) pk0 := (oU _ (by omega)).trans ((HB9.out.block _ HY.out.lt).trans HY.out)
      rw [← hU]
      obtain ⟨q, hq⟩ : ∃ q : Pk, q = ⟨p.h, A3, l.length, cc3, ⟨p.m.has, p.m.key, A9, p.m.n, k9⟩⟩ := ⟨_, rfl⟩
      rw [← hq] at q3
      have HQ3 := Lib.hid q3
      have HQ2 := Lib.hid q2
      have HU := Lib.hid hU
      have HQ := Lib.hid hq
      clear q3 q2 m16 n16 hU hq
      go_wp2_with (first
        | (refine wpList_load_row rfl 29 (.tmp 3) rfl (w.heap.size + 2) rfl 29 (pkC q) (0, 0) _ HQ3.out Try.underlying29 rfl s29 ?_)
        | (refine wpList_store_row rfl 29 (.tmp 2) (.tmp 46) rfl (w.heap.size + 1) (pkC q) rfl rfl 29 _ HQ2.out s29 rfl (pk_all _) ?_))
      obtain ⟨Z, hZ⟩ : ∃ Z, Z = U.setRow (w.heap.size + 1) (pkC q) := ⟨_, rfl⟩
      have z2 : Z.heap[w.heap.size + 1]? = some (.cells (pkC q) 29 (0, 0)) := by rw [hZ]; exact setRow_heap _ _ _ _ _ _ HQ2.out
      have oZ : ∀ x, x ≠ w.heap.size + 1 → x ≠ w.heap.size + 2 → Z.heap[x]? = w9.heap[x]? := fun x h1 h2 => by rw [hZ]; exact (setRow_other _ _ _ _ h1).trans (oU x h2)
      have sZ : Z.heap.size = w9.heap.size := by rw [hZ]; simp [World.setRow, sU]
      have rl1 := run_loadVar_row (P := Try.prog) Z (w.heap.size + 1) 29 29 _ (0, 0) _ z2 Try.underlying29 rfl s29
      have f := HFr.out
      have hs0 := HS0.out
      have hsr := HSr.out
      have h9s := HB9.out.size
      have bZ : RowKit.Below w.heap.size w Z := by
        have b1 : RowKit.Below w.heap.size w wr := HBw.out
        have b2 := bthen b1 HB9.out (Nat.le_refl _)
        rw [hZ, HU.out]
        exact below_setRow (b2.setCell (by dsimp only; omega) _) (by omega) _
      have hg9 := HG9.out
      rw [Nat.zero_add, List.nil_append] at hg9
      have own9 : ∀ x, blk A9 = some x → wr.heap.size ≤ x := hg9.own
      have hNs : Nb Z Z.heap.size A9 p.m.n k9 ms := (hg9.nb HM0.out.lim).keepn (by omega) fun _ ad ea => oZ _ (by have := own9 ad.block (by rw [ea]; rfl); omega) (by have := own9 ad.block (by rw [ea]; rfl); omega)
      have kZ : ∀ x, W0.heap.size ≤ x → x < wr.heap.size → Z.heap[x]? = wr.heap[x]? := fun x h1 h2 => (oZ x (by omega) (by omega)).trans (HB9.out.block x h2)
      have hGz : Gw Z W0.heap.size 47 8 A3 l.length cc3 (els.flatMap El.cs) := H34.out.keep fun x hx => kZ x (HBlk.out x hx).1 (HBlk.out x hx).2
      have hEz : Es Z Z.heap.size A3 l.length els := es_of2 (by have := congrArg List.length H31.out; simpa using this) hGz fun x hx =>
        ⟨((H35.out x hx).keep (by omega) (fun z hz hlo _ => kZ z hlo hz) (.inl rfl)).one, ((H35.out x hx).keep (by omega) (fun z hz hlo _ => kZ z hlo hz) (.inl rfl)).two⟩
      rw [← hZ]
      refine bodyPost_ret (v := pkV q) ?_ rfl ⟨bZ, q, els, rfl, by rw [HQ.out], by rw [HQ.out]; exact HLn.out, by rw [HQ.out], by rw [HQ.out], by rw [HQ.out], H31.out, by rw [HQ.out]; exact hEz, by rw [HQ.out]; exact hNs⟩
      simp [results, Try.results9, asAddr, Act.put, rl1]
end Go.Proofs.Ythflafcjinpmnaa
