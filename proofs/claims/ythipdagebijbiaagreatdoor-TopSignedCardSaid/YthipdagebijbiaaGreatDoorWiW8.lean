/- wire: Write. -/
import Derived.Test.YthipdagebijbiaaGreatDoorWiW4
import Derived.Test.YthipdagebijbiaaGreatDoorWiW7
namespace Go.Proofs.YthipdagebijbiaaGreatDoor.Wi
set_option linter.unusedSimpArgs false
set_option linter.unusedVariables false
open Go.RowKit
set_option linter.unusedVariables false
set_option maxRecDepth 100000
/-- a head's first byte -/
def fh (h : Hd) : Int := h.lp * 64 + h.ve * 8 + h.mo
/-- a Mac's bytes -/
def macW (p : Pk) (ms : List Nat) : List Nat := if p.m.has then be 4 (p.m.key : Nat) ++ ms else []
/-- a head's bytes -/
def headW (h : Hd) : List Nat := be 1 (fh h) ++ be 1 h.st ++ be 1 h.po ++ be 1 h.pr ++ be 4 (h.dl : Nat) ++ be 4 (h.di : Nat) ++ be 4 (h.rf : Nat) ++ be 8 (h.re : Nat) ++ be 8 (h.og : Nat) ++ be 8 (h.rc : Nat) ++ be 8 (h.xm : Nat)
/-- a packet's bytes -/
def packW (p : Pk) (l : List El) (ms : List Nat) : List Nat := headW p.h ++ l.flatMap extB ++ macW p ms
theorem head_lim {h : Hd} (q : headB h = true) : 0 ≤ h.lp ∧ h.lp ≤ 3 ∧ h.ve = 4 ∧ 1 ≤ h.mo ∧ h.mo ≤ 5 := by
  unfold headB kindB wi at q
  simp only [Bool.and_eq_true, decide_eq_true_eq] at q
  omega
theorem right_parts {p : Pk} {l : List El} (h : rightB p l = true) : headB p.h = true ∧ macB p.m = true ∧ p.n ≤ 8 ∧ (∀ x ∈ l, fieldB x = true) ∧ szp p l ≤ 8192 := by
  unfold rightB at h
  simp only [Bool.and_eq_true, decide_eq_true_eq, List.all_eq_true] at h
  exact ⟨h.1, h.2.1, h.2.2.1, h.2.2.2.1, h.2.2.2.2⟩
theorem st19 {W w : World} {A : Option Addr} {n c : Nat} {xs : List Nat} (s : Nat) (zs : List Int) (m : Nat) (hm : zs.length = m) (t : TypeId) (h : Gb w W.heap.size A n c xs) (b : RowKit.Below W.heap.size W w) (hs : 0 < s) (hs8 : s ≤ 8) (hm4 : m ≤ 4096) (hn : n ≤ 1073741824) :
    Calls Tryz.prog 39 #[.slice A n c, .int .i64 (s : Nat), .slice (some ⟨w.heap.size, 0, none⟩) m m] (w.alloc (.cells (zs.map (Value.int .i64)).toArray t)) fun e w' => ∃ A' c', e = .returned (.slice A' (n + m * s) c') ∧ Gb w' W.heap.size A' (n + m * s) c' (xs ++ zs.flatMap (be s)) ∧ RowKit.Below W.heap.size W w' := by
  refine (put_any s (h.alloc _) (Nat.le_trans b.size (by simp)) hs hs8 (zs_new w .i64 zs t m hm) (.inr (own_ne h (Nat.le_refl _))) hm4 hn (d := m)).mono ?_
  rintro e w' ⟨A', c', rfl, hg, hr⟩
  exact ⟨A', c', rfl, hg, Gr.below (((Gr.refl w A).alloc _).trans hr) b b.size h.own⟩
theorem st20 {W w : World} {A : Option Addr} {n c : Nat} {xs : List Nat} (s : Nat) (zs : List Int) (m : Nat) (hm : zs.length = m) (t : TypeId) (h : Gb w W.heap.size A n c xs) (b : RowKit.Below W.heap.size W w) (hs : 0 < s) (hs8 : s ≤ 4) (hp : ∀ z ∈ zs, 0 ≤ z) (hm4 : m ≤ 4096) (hn : n ≤ 1073741824) :
    Calls Tryz.prog 40 #[.slice A n c, .int .i64 (s : Nat), .slice (some ⟨w.heap.size, 0, none⟩) m m] (w.alloc (.cells (zs.map (Value.int .u32)).toArray t)) fun e w' => ∃ A' c', e = .returned (.slice A' (n + m * s) c') ∧ Gb w' W.heap.size A' (n + m * s) c' (xs ++ zs.flatMap (be s)) ∧ RowKit.Below W.heap.size W w' := by
  refine (put20_any s (h.alloc _) (Nat.le_trans b.size (by simp)) hs hs8 (zs_new w .u32 zs t m hm) (.inr (own_ne h (Nat.le_refl _))) hp hm4 hn (d := m)).mono ?_
  rintro e w' ⟨A', c', rfl, hg, hr⟩
  exact ⟨A', c', rfl, hg, Gr.below (((Gr.refl w A).alloc _).trans hr) b b.size h.own⟩
theorem st21 {W w : World} {A : Option Addr} {n c : Nat} {xs : List Nat} (s : Nat) (zs : List Int) (m : Nat) (hm : zs.length = m) (t : TypeId) (h : Gb w W.heap.size A n c xs) (b : RowKit.Below W.heap.size W w) (hs : 0 < s) (hs8 : s ≤ 8) (hp : ∀ z ∈ zs, 0 ≤ z) (hm4 : m ≤ 4096) (hn : n ≤ 1073741824) :
    Calls Tryz.prog 41 #[.slice A n c, .int .i64 (s : Nat), .slice (some ⟨w.heap.size, 0, none⟩) m m] (w.alloc (.cells (zs.map (Value.int .u64)).toArray t)) fun e w' => ∃ A' c', e = .returned (.slice A' (n + m * s) c') ∧ Gb w' W.heap.size A' (n + m * s) c' (xs ++ zs.flatMap (be s)) ∧ RowKit.Below W.heap.size W w' := by
  refine (put21_any s (h.alloc _) (Nat.le_trans b.size (by simp)) hs hs8 (zs_new w .u64 zs t m hm) (.inr (own_ne h (Nat.le_refl _))) hp hm4 hn (d := m)).mono ?_
  rintro e w' ⟨A', c', rfl, hg, hr⟩
  exact ⟨A', c', rfl, hg, Gr.below (((Gr.refl w A).alloc _).trans hr) b b.size h.own⟩
theorem st20d {W w : World} {A : Option Addr} {n c : Nat} {xs : List Nat} (s : Nat) (zs : List Int) (m : Nat) (hm : zs.length = m) (t : TypeId) (h : Gb w W.heap.size A n c xs) (b : RowKit.Below W.heap.size W w) (hs : 0 < s) (hs8 : s ≤ 4) (hp : ∀ z ∈ zs, 0 ≤ z) (hm4 : m ≤ 4096) (hn : n ≤ 1073741824) :
    Calls Tryz.prog 40 #[.slice A n c, .int .i64 (s : Nat), .slice (some ⟨w.heap.size, 0, none⟩) m m] (w.alloc (.cells (zs.map (Value.int .u32)).toArray t)).drew fun e w' => ∃ A' c', e = .returned (.slice A' (n + m * s) c') ∧ Gb w' W.heap.size A' (n + m * s) c' (xs ++ zs.flatMap (be s)) ∧ RowKit.Below W.heap.size W w' := by
  have b1 := ((Below.refl w.heap.size w).alloc (Nat.le_refl _) (.cells (zs.map (Value.int .u32)).toArray t)).drew
  have z1 : Zs (w.alloc (.cells (zs.map (Value.int .u32)).toArray t)).drew .u32 (some ⟨w.heap.size, 0, none⟩) m zs := zs_new w .u32 zs t m hm
  have hAg := h.below b1
  refine (put20_any s hAg (Nat.le_trans b.size b1.size) hs hs8 z1 (.inr (own_ne h (Nat.le_refl _))) hp hm4 hn (d := m)).mono ?_
  rintro e w' ⟨A', c', rfl, hg, hr⟩
  exact ⟨A', c', rfl, hg, Gr.below (Gr.of_below b1 hr) b b.size h.own⟩
theorem hbits : ∀ a m : Fin 8, bits BinOp.or IntKind.i64 (bits BinOp.or IntKind.i64 ((a.val : Int) * 64) 32) (m.val : Int) = (a.val : Int) * 64 + 32 + m.val := by decide +kernel
theorem fh_eq {h : Hd} (q : 0 ≤ h.lp ∧ h.lp ≤ 3 ∧ h.ve = 4 ∧ 1 ≤ h.mo ∧ h.mo ≤ 5) : bits BinOp.or IntKind.i64 (bits BinOp.or IntKind.i64 (wrap64 (h.lp * 64)) (wrap64 (h.ve * 8))) h.mo = fh h := by
  obtain ⟨h1, h2, h3, h4, h5⟩ := q
  unfold fh
  obtain ⟨a, ha⟩ : ∃ a : Nat, h.lp = (a : Int) := ⟨h.lp.toNat, by omega⟩
  obtain ⟨m, hm⟩ : ∃ m : Nat, h.mo = (m : Int) := ⟨h.mo.toNat, by omega⟩
  rw [ha] at h2
  rw [hm] at h5
  rw [ha, hm, h3]
  have e1 : wrap64 ((a : Int) * 64) = (a : Int) * 64 := by unfold wrap64; omega
  have e2 : wrap64 (4 * 8) = 32 := by unfold wrap64; omega
  rw [e1, e2]
  exact hbits ⟨a, by omega⟩ ⟨m, by omega⟩
theorem flat_take {l : List El} {j : Nat} {x : El} (h : l[j]? = some x) : (l.take (j + 1)).flatMap extB = (l.take j).flatMap extB ++ extB x := by
  rw [List.take_add_one, h, List.flatMap_append]; simp
theorem op_lim {x : El} (h : fieldB x = true) : 0 ≤ x.op ∧ x.op < 64 := by
  unfold fieldB wi at h
  simp only [Bool.and_eq_true, decide_eq_true_eq] at h
  omega
theorem szf_lim {x : El} (h : fieldB x = true) : szf x ≤ 4136 := by
  have := field_lim h
  unfold szf fld; omega
theorem szs_lim : ∀ {l : List El}, (∀ x ∈ l, fieldB x = true) → szs l ≤ l.length * 4136
  | [], _ => by simp [szs]
  | x :: l, h => by
    have h1 := szf_lim (h x (by simp))
    have h2 := szs_lim (fun y hy => h y (by simp [hy]) : ∀ y ∈ l, fieldB y = true)
    simp only [szs, List.map_cons, List.sum_cons, List.length_cons, Nat.add_mul] at h2 ⊢
    omega
theorem wp_row_b (w : World) {o : Oper} {a : Act} {K : Act → World → Prop} {Q : Exit → Act → World → Prop} (s x : Operand)
    (ho : o.op = .call { callee := .builtin .append, args := #[s, x], argTypes := #[23, 23] }) {base n c B m c2 : Nat} {A A2 : Option Addr} {xs ys : List Nat} {w0 : World}
    (hs : a.eval s = .slice A n c) (hown : Gb w base A n c xs) (hx : a.eval x = .slice A2 m c2) (hr : Nb w B A2 m c2 ys)
    (hn : n + m ≤ 1099511627776) (hb : RowKit.Below base w0 w) (hbase : base ≤ w.heap.size)
    (h : ∀ A' c' w', Gb w' base A' (n + m) c' (xs ++ ys) → RowKit.Below base w0 w' → K (a.put o.dst (.slice A' (n + m) c')) w') : Oper.wp Tryz.prog o a w K Q := by
  obtain ⟨i0, hi, hz0, hz1, hz2⟩ := info_parts Tryz.info5'
  rcases A2 with _ | ad
  · have hm : m = 0 := by
      rcases Nat.eq_zero_or_pos m with h0 | h0
      · exact h0
      · obtain ⟨b, off, e, _⟩ := hr.cell h0
        cases e
    subst hm
    have hy : ys = [] := List.eq_nil_of_length_eq_zero hr.len
    subst hy
    have hrun := run_app_nil (P := Tryz.prog) w base 23 o.type 5 i0 1 Tryz.underlying23 hi (.slice A n c) n (bs xs) hown.2 c2
    unfold Oper.wp execOp
    simp only [ho, resolve, invoke, builtin, Sem.run_bind, Sem.run_pure, Result.andThen_ok, List.map_toArray, List.map_cons, List.map_nil, hs, hx, hrun]
    exact h A c w (by simpa using hown) hb
  · obtain ⟨v', w', hrun, h2, h3, _⟩ := run_append_own (P := Tryz.prog) w base 23 o.type 5 i0 (.int .u8 0) 1 1 Tryz.underlying23 hi hz0 hz1 hz2 rfl (by decide) _ n (bs xs) hown.2 ad m c2 (bs ys) (by simp [bs, hr.len]) (Nb.olds hr) (bs_one ys) (by unfold maxLen; omega) (by omega) hbase
    obtain ⟨A', c', rfl⟩ := own_shape h2
    unfold Oper.wp execOp
    simp only [ho, resolve, invoke, builtin, Sem.run_bind, Sem.run_pure, Result.andThen_ok, List.map_toArray, List.map_cons, List.map_nil, hs, hx, hrun]
    exact h A' c' w' ⟨by simp [hown.1, hr.len], by rw [bs_append]; exact h2⟩ (hb.grown h3 hbase fun k hk => (hown.2.lt k hk).1)
theorem Gb.weak {w : World} {b b' n c : Nat} {A : Option Addr} {xs : List Nat} (h : Gb w b A n c xs) (hb : b' ≤ b) : Gb w b' A n c xs :=
  ⟨h.1, h.2.1, h.2.2.imp id fun ⟨g, cap, cur, e, hg, r⟩ => ⟨g, cap, cur, e, Nat.le_trans hb hg, r⟩⟩
theorem made {W w : World} (S : Nat) (hS : S ≤ 8192) (b : RowKit.Below W.heap.size W w) : ∃ w', (Instr.makeSlice 23 (.int .i64 0) (.int .i64 (S : Int))).run Tryz.prog w = .ok (.slice (some ⟨w.heap.size, 0, none⟩) 0 S) w' ∧ Gb w' W.heap.size (some ⟨w.heap.size, 0, none⟩) 0 S [] ∧ RowKit.Below W.heap.size W w' := by
  obtain ⟨i0, hi, hz0, hz1, hz2⟩ := info_parts Tryz.info5'
  obtain ⟨w', h1, h2, h3⟩ := run_makeSlice_owned (P := Tryz.prog) w W.heap.size 23 5 i0 (.int .u8 0) 1 Tryz.underlying23 hi hz0 hz1 .i64 .i64 S (by omega) (by rw [hz2]; omega) (by unfold maxLen; omega) b.size
  exact ⟨w', h1, ⟨rfl, h2⟩, b.grown h3 b.size (fun k hk => by cases hk)⟩
theorem write_any (p : Pk) (l : List El) (ms : List Nat) {w : World} (h : Es w w.heap.size p.A p.n l) (hm : Nb w w.heap.size p.m.A p.m.n p.m.c ms) :
    Calls Tryz.prog 16 #[pkV p] w fun e w' => (rightB p l = false ∧ e = .returned (.tuple #[.slice none 0 0, .int .i64 3]) ∧ RowKit.Below w.heap.size w w') ∨
      (rightB p l = true ∧ ∃ A c, e = .returned (.tuple #[.slice A (szp p l) c, .int .i64 0]) ∧ Gb w' w.heap.size A (szp p l) c (packW p l ms) ∧ RowKit.Below w.heap.size w w') := by
  obtain ⟨W, hW⟩ : ∃ W, W = w.alloc (.cells #[.int .i64 p.h.lp, .int .i64 p.h.ve, .int .i64 p.h.mo, .int .i64 p.h.st, .int .i64 p.h.po, .int .i64 p.h.pr, .int .u32 (p.h.dl : Int), .int .u32 (p.h.di : Int), .int .u32 (p.h.rf : Int), .int .u64 (p.h.re : Int), .int .u64 (p.h.og : Int), .int .u64 (p.h.rc : Int), .int .u64 (p.h.xm : Int), .slice p.A p.n p.c, .bool p.m.has, .int .u32 (p.m.key : Int), .slice p.m.A p.m.n p.m.c] 51) := ⟨_, rfl⟩
  have x1 : PBox W w.heap.size p := by rw [hW]; exact heap_alloc_new w _
  have hb : RowKit.Below w.heap.size w W := by rw [hW]; exact (Below.refl _ _).alloc (Nat.le_refl _) _
  have hs1 : w.heap.size < W.heap.size := x1.lt
  have HE := Lib.hid ((h.below hb (Nat.le_refl _)).more (Nat.le_of_lt hs1))
  have HM := Lib.hid ((hm.below hb).more (Nat.le_of_lt hs1))
  have HX := Lib.hid x1
  have HB := Lib.hid hb
  have HS := Lib.hid hs1
  have HR := Lib.hid (right_any p l HE.out)
  obtain ⟨c0, c1, c2, c3, c4, c5, c6, c7, c8, c9, c10, c11, c12, c13, c14, c15, c16⟩ := x1.cells
  clear h hm x1 hb hs1
  go_enter Tryz.func16, Tryz.ntmps16
  go_wp2_with fail
  rw [← hW]
  clear hW
  refine HR.out.mono ?_
  rintro e w1 ⟨rfl, b1⟩
  have HB1 := Lib.hid b1
  clear c0 c1 c2 c3 c4 c5 c6 c7 c8 c9 c10 c11 c12 c13 c14 c15 c16
  obtain ⟨c0, c1, c2, c3, c4, c5, c6, c7, c8, c9, c10, c11, c12, c13, c14, c15, c16⟩ := (HX.out.below HB1.out).cells
  cases hr : rightB p l with
  | false =>
    have HRr := Lib.hid hr
    clear b1 hr
    unfold erI
    go_wp2_with fail
    go_ret2
    exact .inl ⟨HRr.out, rfl, bthen HB.out HB1.out (Nat.le_refl _)⟩
  | true =>
    obtain ⟨rh, rm, rn, rf, rs⟩ := right_parts hr
    have HH := Lib.hid (head_lim rh)
    have HZ := Lib.hid (fun w2 (b : RowKit.Below W.heap.size W w2) => size_any p l ((HE.out.below b (Nat.le_refl _)).more b.size) (Nat.le_trans rn (by decide)) (fun x hx => by have := field_lim (rf x hx); omega) (by have := mac_lim rm; omega))
    have HRr := Lib.hid hr
    have HF := Lib.hid rf
    have HMl := Lib.hid (mac_lim rm)
    have Hn := Lib.hid rn
    clear b1 hr rh rm rn rf
    unfold erI
    go_wp2_with fail
    refine (HZ.out _ HB1.out).mono ?_
    rintro e w2 ⟨rfl, b2⟩
    have HB2 := Lib.hid (bthen HB1.out b2 (Nat.le_refl _))
    clear c0 c1 c2 c3 c4 c5 c6 c7 c8 c9 c10 c11 c12 c13 c14 c15 c16 b2
    obtain ⟨c0, c1, c2, c3, c4, c5, c6, c7, c8, c9, c10, c11, c12, c13, c14, c15, c16⟩ := (HX.out.below HB2.out).cells
    obtain ⟨S, hS⟩ : ∃ S, S = szp p l := ⟨_, rfl⟩
    rw [← hS] at rs ⊢
    clear hS
    obtain ⟨w3, hmk, hg3, hb3⟩ := made S rs HB2.out
    have HB3 := Lib.hid hb3
    have HG3 := Lib.hid hg3
    clear hb3 hg3
    clear c0 c1 c2 c3 c4 c5 c6 c7 c8 c9 c10 c11 c12 c13 c14 c15 c16
    obtain ⟨c0, c1, c2, c3, c4, c5, c6, c7, c8, c9, c10, c11, c12, c13, c14, c15, c16⟩ := (HX.out.below HB2.out).cells
    obtain ⟨d0, d1, d2, d3, d4, d5, d6, d7, d8, d9, d10, d11, d12, d13, d14, d15, d16⟩ := (HX.out.below HB3.out).cells
    have HQ3 := Lib.hid (show ∀ f, f = fh p.h → Calls Tryz.prog 39 #[.slice (some ⟨w2.heap.size, 0, none⟩) 0 S, .int .i64 1, .slice (some ⟨w3.heap.size, 0, none⟩) 4 4] (w3.alloc (.cells #[.int .i64 f, .int .i64 p.h.st, .int .i64 p.h.po, .int .i64 p.h.pr] 3)) fun e w' => ∃ A' c', e = .returned (.slice A' 4 c') ∧ Gb w' W.heap.size A' 4 c' (be 1 (fh p.h) ++ be 1 p.h.st ++ be 1 p.h.po ++ be 1 p.h.pr) ∧ RowKit.Below W.heap.size W w' by
      intro f hf
      subst hf
      refine (st19 1 [fh p.h, p.h.st, p.h.po, p.h.pr] 4 rfl 3 HG3.out HB3.out (by omega) (by omega) (by omega) (by omega)).mono ?_
      rintro e w' ⟨A', c', rfl, hg, hb⟩
      exact ⟨A', c', rfl, by simpa using hg, hb⟩)
    have hfh := Lib.hid (fh_eq HH.out)
    go_wp2_with fail
    refine (HQ3.out _ hfh.out).mono ?_
    rintro e w4 ⟨A4, k4, rfl, hg4, hb4⟩
    have HG4 := Lib.hid hg4
    have HB4 := Lib.hid hb4
    clear c0 c1 c2 c3 c4 c5 c6 c7 c8 c9 c10 c11 c12 c13 c14 c15 c16 d0 d1 d2 d3 d4 d5 d6 d7 d8 d9 d10 d11 d12 d13 d14 d15 d16 hg4 hb4 hmk
    obtain ⟨c0, c1, c2, c3, c4, c5, c6, c7, c8, c9, c10, c11, c12, c13, c14, c15, c16⟩ := (HX.out.below HB4.out).cells
    have HQ4 := Lib.hid (show Calls Tryz.prog 40 #[.slice A4 4 k4, .int .i64 4, .slice (some ⟨w4.heap.size, 0, none⟩) 3 3] (w4.alloc (.cells #[.int .u32 (p.h.dl : Int), .int .u32 (p.h.di : Int), .int .u32 (p.h.rf : Int)] 22)) fun e w' => ∃ A' c', e = .returned (.slice A' 16 c') ∧ Gb w' W.heap.size A' 16 c' ((be 1 (fh p.h) ++ be 1 p.h.st ++ be 1 p.h.po ++ be 1 p.h.pr) ++ (be 4 (p.h.dl : Nat) ++ be 4 (p.h.di : Nat) ++ be 4 (p.h.rf : Nat))) ∧ RowKit.Below W.heap.size W w' by
      refine (st20 4 [(p.h.dl : Int), (p.h.di : Int), (p.h.rf : Int)] 3 rfl 22 HG4.out HB4.out (by omega) (by omega) (by intro z hz; simp at hz; omega) (by omega) (by omega)).mono ?_
      rintro e w' ⟨A', c', rfl, hg, hb⟩
      exact ⟨A', c', rfl, by simpa using hg, hb⟩)
    go_wp2_with fail
    refine HQ4.out.mono ?_
    rintro e w5 ⟨A5, k5, rfl, hg5, hb5⟩
    have HG5 := Lib.hid hg5
    have HB5 := Lib.hid hb5
    clear c0 c1 c2 c3 c4 c5 c6 c7 c8 c9 c10 c11 c12 c13 c14 c15 c16 hg5 hb5
    obtain ⟨c0, c1, c2, c3, c4, c5, c6, c7, c8, c9, c10, c11, c12, c13, c14, c15, c16⟩ := (HX.out.below HB5.out).cells
    have HQ5 := Lib.hid (show Calls Tryz.prog 41 #[.slice A5 16 k5, .int .i64 8, .slice (some ⟨w5.heap.size, 0, none⟩) 4 4] (w5.alloc (.cells #[.int .u64 (p.h.re : Int), .int .u64 (p.h.og : Int), .int .u64 (p.h.rc : Int), .int .u64 (p.h.xm : Int)] 47)) fun e w' => ∃ A' c', e = .returned (.slice A' 48 c') ∧ Gb w' W.heap.size A' 48 c' (headW p.h) ∧ RowKit.Below W.heap.size W w' by
      refine (st21 8 [(p.h.re : Int), (p.h.og : Int), (p.h.rc : Int), (p.h.xm : Int)] 4 rfl 47 HG5.out HB5.out (by omega) (by omega) (by intro z hz; simp at hz; omega) (by omega) (by omega)).mono ?_
      rintro e w' ⟨A', c', rfl, hg, hb⟩
      exact ⟨A', c', rfl, by unfold headW; simpa using hg, hb⟩)
    go_wp2_with fail
    refine HQ5.out.mono ?_
    rintro e w6 ⟨A6, k6, rfl, hg6, hb6⟩
    have HG6 := Lib.hid hg6
    have HB6 := Lib.hid hb6
    clear c0 c1 c2 c3 c4 c5 c6 c7 c8 c9 c10 c11 c12 c13 c14 c15 c16 hg6 hb6
    obtain ⟨c0, c1, c2, c3, c4, c5, c6, c7, c8, c9, c10, c11, c12, c13, c14, c15, c16⟩ := (HX.out.below HB6.out).cells
    go_wp2_with fail
    clear c0 c1 c2 c3 c4 c5 c6 c7 c8 c9 c10 c11 c12 c13 c14 c15 c16
    have HLn := Lib.hid (HE.out.1 : l.length = p.n)
    go_loopw [58, 5] (fun i b wr => ∃ j A' c', j ≤ p.n ∧ i = .int .i64 ((j : Nat) : Int) ∧ b = .slice A' (48 + szs (l.take j)) c' ∧ Gb wr W.heap.size A' (48 + szs (l.take j)) c' (headW p.h ++ (l.take j).flatMap extB) ∧ RowKit.Below W.heap.size W wr) (fun i _ _ => (p.n - (match i with | .int _ z => z.toNat | _ => 0)))
    case atStart => exact ⟨0, A6, k6, by omega, rfl, rfl, by simpa [szs] using HG6.out, HB6.out⟩
    case round =>
      obtain ⟨j, A7, k7, hjn, rfl, rfl, hg7, hb7⟩ := hrel
      have HG7 := Lib.hid hg7
      have HB7 := Lib.hid hb7
      clear hg7 hb7
      have hn8 : p.n ≤ 8 := Hn.out
      by_cases hj : j < p.n
      · have e1 : (j : Int) < (p.n : Int) := by omega
        obtain ⟨x, hx⟩ : ∃ x, l[j]? = some x := ⟨_, List.getElem?_eq_getElem (by have := HLn.out; omega)⟩
        obtain ⟨he1, he2, he3⟩ := HE.out.below HB7.out (Nat.le_refl _)
        rcases he3 with he3 | ⟨g, off, hA, hg, hcl⟩
        · omega
        obtain ⟨d0, d1, d2, d3, d4, d5, d6, d7⟩ := hcl j x hx
        have hxl := List.mem_of_getElem? hx
        have HNx := Lib.hid (he2 x hxl)
        have hfx := HF.out x hxl
        have hlim : szs (l.take j) ≤ 33088 := Nat.le_trans (szs_lim fun y hy => HF.out y (List.mem_of_mem_take hy)) (by
          have : (l.take j).length ≤ 8 := by simp; omega
          omega)
        have HT1 := Lib.hid (szs_take hx)
        have HT2 := Lib.hid (flat_take hx)
        obtain ⟨K, hK⟩ : ∃ K, K = 48 + szs (l.take j) := ⟨_, rfl⟩
        rw [← hK] at HG7 ⊢
        have HK := Lib.hid hK
        have HP := Lib.hid (show ∀ o, Calls Tryz.prog 42 #[.slice A7 K k7, elV x] (wr.alloc o) fun e w' => ∃ A' c', e = .returned (.slice A' (K + szf x) c') ∧ Gb w' W.heap.size A' (K + szf x) c' (headW p.h ++ (l.take j).flatMap extB ++ extB x) ∧ RowKit.Below W.heap.size W w' by
          intro o
          have hbo := HB7.out.alloc HB7.out.size o
          have fl := field_lim hfx
          refine (fp_any x (HG7.out.alloc o) hbo.size ((HNx.out.1).below ((Below.refl _ _).alloc HB7.out.size o)) ((HNx.out.2).below ((Below.refl _ _).alloc HB7.out.size o)) (op_lim hfx) (by omega) (by omega) (by omega)).mono ?_
          rintro e w' ⟨A', c', rfl, hg, hr⟩
          exact ⟨A', c', rfl, hg, Gr.below hr hbo hbo.size (HG7.out.own)⟩)
        clear hcl hx he1 he2 hxl hfx hlim hK
        rw [hA]
        go_wp2_with fail
        refine (HP.out _).mono ?_
        rintro e w8 ⟨A8, k8, rfl, hg8, hb8⟩
        have HG8 := Lib.hid (show Gb w8 W.heap.size A8 (48 + szs (l.take (j + 1))) k8 (headW p.h ++ (l.take (j + 1)).flatMap extB) by
          rw [HT1.out, HT2.out, ← List.append_assoc, ← Nat.add_assoc, ← HK.out]; exact hg8)
        have HE8 := Lib.hid (show K + szf x = 48 + szs (l.take (j + 1)) by rw [HT1.out, HK.out]; omega)
        have HB8 := Lib.hid hb8
        clear hg8 hb8 d0 d1 d2 d3 d4 d5 d6 d7
        go_wp2_with fail
        exact ⟨⟨j + 1, A8, k8, by omega, rfl, by rw [HE8.out], HG8.out, HB8.out⟩, by show p.n - ((j : Int) + 1).toNat < p.n - (j : Int).toNat; omega⟩
      · have e1' : ((j : Int) < (p.n : Int)) = False := by simp only [eq_iff_iff, iff_false]; omega
        obtain ⟨c0, c1, c2, c3, c4, c5, c6, c7, c8, c9, c10, c11, c12, c13, c14, c15, c16⟩ := (HX.out.below HB7.out).cells
        have hall : l.take j = l := List.take_of_length_le (by have := HLn.out; omega)
        rw [hall] at HG7 ⊢
        have HWB := Lib.hid (fun w' (b : RowKit.Below W.heap.size W w') => bthen HB.out b (Nat.le_refl _))
        clear hall
        generalize hh : p.m.has = mh at *
        cases mh with
        | false =>
          have hSz : szp p l = 48 + szs l := by unfold szp; rw [hh]; rfl
          have hPk : packW p l ms = headW p.h ++ l.flatMap extB := by unfold packW macW; rw [hh]; simp
          have HSz := Lib.hid hSz
          have HPk := Lib.hid hPk
          clear hSz hPk hh
          go_wp2_with fail
          go_ret2
          exact .inr ⟨HRr.out, A7, k7, by rw [HSz.out]; rfl, by rw [HSz.out, HPk.out]; exact HG7.out.weak (Nat.le_of_lt HS.out), HWB.out _ HB7.out⟩
        | true =>
          have hSz : szp p l = 48 + szs l + (4 + p.m.n) := by unfold szp; rw [hh]; rfl
          have hPk : packW p l ms = headW p.h ++ l.flatMap extB ++ be 4 (p.m.key : Nat) ++ ms := by unfold packW macW; rw [hh]; simp
          have HSz := Lib.hid hSz
          have HPk := Lib.hid hPk
          clear hSz hPk hh
          have hlim : szs l ≤ 33088 := Nat.le_trans (szs_lim HF.out) (by
            have := HLn.out
            omega)
          have HQ9 := Lib.hid (show Calls Tryz.prog 40 #[.slice A7 (48 + szs l) k7, .int .i64 4, .slice (some ⟨wr.heap.size, 0, none⟩) 1 1] (wr.alloc (.cells #[.int .u32 (p.m.key : Int)] 22)).drew fun e w' => ∃ A' c', e = .returned (.slice A' (48 + szs l + 4) c') ∧ Gb w' W.heap.size A' (48 + szs l + 4) c' (headW p.h ++ l.flatMap extB ++ be 4 (p.m.key : Nat)) ∧ RowKit.Below W.heap.size W w' by
            refine (st20d 4 [(p.m.key : Int)] 1 rfl 22 HG7.out HB7.out (by omega) (by omega) (by intro z hz; simp at hz; omega) (by omega) (by omega)).mono ?_
            rintro e w' ⟨A', c', rfl, hg, hb⟩
            exact ⟨A', c', rfl, by simpa using hg, hb⟩)
          have HLm := HMl.out
          have hnm : 48 + szs l + 4 + p.m.n ≤ 1099511627776 := by omega
          go_wp2_with fail
          go_region_held3 (fun w' => w'.cell? ⟨w.heap.size, 15, none⟩ = some (.int .u32 (p.m.key : Int)) ∧ w'.cell? ⟨w.heap.size, 16, none⟩ = some (.slice p.m.A p.m.n p.m.c))
            (first | exact ⟨c15, c16⟩ | exact (HX.out.below (HB7.out.alloc HB7.out.size _)).cells.2.2.2.2.2.2.2.2.2.2.2.2.2.2.2 | exact (HX.out.below (HB7.out.alloc HB7.out.size _).drew).cells.2.2.2.2.2.2.2.2.2.2.2.2.2.2.2 | exact (HX.out.below HB10.out).cells.2.2.2.2.2.2.2.2.2.2.2.2.2.2.2 | exact (HX.out.below HB9.out).cells.2.2.2.2.2.2.2.2.2.2.2.2.2.2.2)
            (first
              | (go_at_call 40; (with_reducible refine HQ9.out.mono ?_)
                 rintro e w9 ⟨A9, k9, rfl, hg9, hb9⟩
                 have HG9 := Lib.hid hg9
                 have HB9 := Lib.hid hb9
                 clear hg9 hb9)
              | (refine wp_row_b _ (.tmp 74) (.tmp 77) rfl rfl HG9.out rfl (HM.out.below HB9.out) hnm HB9.out HB9.out.size ?_; intro A10 k10 w10 hg10 hb10
                 have HG10 := Lib.hid hg10
                 have HB10 := Lib.hid hb10
                 clear hg10 hb10))
          have HE10 := Lib.hid (show 48 + szs l + 4 + p.m.n = szp p l by rw [HSz.out]; omega)
          go_wp2_with fail
          go_ret2
          exact .inr ⟨HRr.out, A10, k10, by rw [← HE10.out]; rfl, by rw [← HE10.out, HPk.out]; exact HG10.out.weak (Nat.le_of_lt HS.out), HWB.out _ HB10.out⟩
end Go.Proofs.YthipdagebijbiaaGreatDoor.Wi
