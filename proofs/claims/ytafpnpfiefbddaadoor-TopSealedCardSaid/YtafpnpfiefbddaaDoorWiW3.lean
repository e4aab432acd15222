/- wire: fields; which may be, how many bytes they have. -/
import Derived.Test.YtafpnpfiefbddaaDoorWiW2
import Derived.Deep.QuietTactic
import Derived.BigQuiet
namespace Go.Proofs.YtafpnpfiefbddaaDoor.Wi
set_option linter.unusedSimpArgs false
set_option linter.unusedVariables false
open Go.RowKit
set_option linter.unusedVariables false
set_option maxRecDepth 100000
/-- a field as it lies in memory: its numbers, its two rows, and the bytes that these hold -/
structure El where
  op : Int
  resp : Bool
  bad : Bool
  as_ : Int
  (ts fs : Nat)
  (A : Option Addr)
  (n c : Nat)
  (B : Option Addr)
  (m e : Nat)
  (xs ys : List Nat)
abbrev elV (x : El) : Value := .agg #[.int .i64 x.op, .bool x.resp, .bool x.bad, .int .i64 x.as_, .int .u32 (x.ts : Int), .int .u32 (x.fs : Int), .slice x.A x.n x.c, .slice x.B x.m x.e]
def El.cs (x : El) : List Value := [.int .i64 x.op, .bool x.resp, .bool x.bad, .int .i64 x.as_, .int .u32 (x.ts : Int), .int .u32 (x.fs : Int), .slice x.A x.n x.c, .slice x.B x.m x.e]
/-- may a right packet have such a field? -/
def fieldB (x : El) : Bool := wi x.op 1 63 && (wi x.as_ 0 65535 && (decide (x.n ≤ 2048) && decide (x.m ≤ 2048)))
theorem field_any (x : El) (w : World) : Calls Tryd.prog 31 #[elV x] w fun e w' => e = .returned (.bool (fieldB x)) ∧ RowKit.Below w.heap.size w w' := by
  obtain ⟨b1, e1⟩ : ∃ b, b = wi x.op 1 63 := ⟨_, rfl⟩
  obtain ⟨b2, e2⟩ : ∃ b, b = wi x.as_ 0 65535 := ⟨_, rfl⟩
  have HV := Lib.hid (show fieldB x = (b1 && (b2 && (decide (x.n ≤ 2048) && decide (x.m ≤ 2048)))) by unfold fieldB; rw [e1, e2])
  have H1 := Lib.hid (fun w => (e1 ▸ within_any x.op 1 63 w : Calls Tryd.prog 51 #[.int .i64 x.op, .int .i64 1, .int .i64 63] w fun e w' => e = .returned (.bool b1) ∧ w' = w))
  have H2 := Lib.hid (fun w => (e2 ▸ within_any x.as_ 0 65535 w : Calls Tryd.prog 51 #[.int .i64 x.as_, .int .i64 0, .int .i64 65535] w fun e w' => e = .returned (.bool b2) ∧ w' = w))
  have hbw := (Below.refl w.heap.size w).alloc (Nat.le_refl _) (.cells #[.int .i64 x.op, .bool x.resp, .bool x.bad, .int .i64 x.as_, .int .u32 (x.ts : Int), .int .u32 (x.fs : Int), .slice x.A x.n x.c, .slice x.B x.m x.e] 45)
  have HB := Lib.hid hbw
  clear e1 e2 hbw
  by_cases h1 : x.n ≤ 2048
  · have h1' : (x.n : Int) ≤ 2048 := by omega
    by_cases h2 : x.m ≤ 2048
    · have h2' : (x.m : Int) ≤ 2048 := by omega
      rw [decide_eq_true h1, decide_eq_true h2] at HV
      clear h1 h2
      go_enter Tryd.func31, Tryd.ntmps31
      go_wp2_with fail
      refine (H1.out _).mono ?_
      rintro e w1 ⟨rfl, rfl⟩
      cases b1 with
      | false =>
        go_wp2_with fail
        go_ret
        exact ⟨by rw [HV.out]; rfl, HB.out⟩
      | true =>
        go_wp2_with fail
        refine (H2.out _).mono ?_
        rintro e w1 ⟨rfl, rfl⟩
        cases b2 with
        | false =>
          go_wp2_with fail
          go_ret
          exact ⟨by rw [HV.out]; rfl, HB.out⟩
        | true =>
          go_wp2_with fail
          go_ret
          exact ⟨by rw [HV.out]; rfl, HB.out⟩
    · have h2' : ((x.m : Int) ≤ 2048) = False := by rw [eq_iff_iff]; exact ⟨fun q => h2 (by omega), False.elim⟩
      rw [decide_eq_true h1, decide_eq_false h2] at HV
      clear h1 h2
      go_enter Tryd.func31, Tryd.ntmps31
      go_wp2_with fail
      refine (H1.out _).mono ?_
      rintro e w1 ⟨rfl, rfl⟩
      cases b1 with
      | false =>
        go_wp2_with fail
        go_ret
        exact ⟨by rw [HV.out]; rfl, HB.out⟩
      | true =>
        go_wp2_with fail
        refine (H2.out _).mono ?_
        rintro e w1 ⟨rfl, rfl⟩
        cases b2 with
        | false =>
          go_wp2_with fail
          go_ret
          exact ⟨by rw [HV.out]; rfl, HB.out⟩
        | true =>
          go_wp2_with fail
          go_ret
          exact ⟨by rw [HV.out]; rfl, HB.out⟩
  · have h1' : ((x.n : Int) ≤ 2048) = False := by rw [eq_iff_iff]; exact ⟨fun q => h1 (by omega), False.elim⟩
    rw [decide_eq_false h1] at HV
    clear h1
    go_enter Tryd.func31, Tryd.ntmps31
    go_wp2_with fail
    refine (H1.out _).mono ?_
    rintro e w1 ⟨rfl, rfl⟩
    cases b1 with
    | false =>
      go_wp2_with fail
      go_ret
      exact ⟨by rw [HV.out]; rfl, HB.out⟩
    | true =>
      go_wp2_with fail
      refine (H2.out _).mono ?_
      rintro e w1 ⟨rfl, rfl⟩
      cases b2 with
      | false =>
        go_wp2_with fail
        go_ret
        exact ⟨by rw [HV.out]; rfl, HB.out⟩
      | true =>
        go_wp2_with fail
        go_ret
        exact ⟨by rw [HV.out]; rfl, HB.out⟩
def fld (n : Nat) : Nat := (n + 3) / 4 * 4
theorem filled_any {n : Nat} (hn : n ≤ 1099511627776) (w : World) : Calls Tryd.prog 52 #[.int .i64 (n : Int)] w fun e w' => e = .returned (.int .i64 (fld n : Nat)) ∧ w' = w := by
  have a1 : wrap64 ((n : Int) + 3) = (n : Int) + 3 := by unfold wrap64; omega
  have a2 : ((n : Int) + 3).tdiv 4 = ((n + 3) / 4 : Nat) := by rw [Int.tdiv_eq_ediv_of_nonneg (by omega)]; omega
  have a3 : wrap64 (((n + 3) / 4 : Nat) * 4) = ((fld n : Nat) : Int) := by unfold fld wrap64; push_cast; omega
  have A3 := Lib.hid a3
  go_enter Tryd.func52, Tryd.ntmps52
  go_wp2_with fail
  go_ret
  exact ⟨by show Ending.returned (Value.int _ (((n : Int) + 3) / 4 * 4)) = _; unfold fld; push_cast; rfl, rfl⟩
/-- a field in a box of its own -/
def EBox (w : World) (g : Nat) (x : El) : Prop := w.heap[g]? = some (.cells #[.int .i64 x.op, .bool x.resp, .bool x.bad, .int .i64 x.as_, .int .u32 (x.ts : Int), .int .u32 (x.fs : Int), .slice x.A x.n x.c, .slice x.B x.m x.e] 45 (0, 0))
theorem EBox.lt {w : World} {g : Nat} {x : El} (h : EBox w g x) : g < w.heap.size := (Array.getElem?_eq_some_iff.1 h).1
theorem EBox.below {w w' : World} {g : Nat} {x : El} (h : EBox w g x) (b : RowKit.Below w.heap.size w w') : EBox w' g x := (b.block g h.lt).trans h
theorem EBox.cells {w : World} {g : Nat} {x : El} (h : EBox w g x) : w.cell? ⟨g, 0, none⟩ = some (.int .i64 x.op) ∧ w.cell? ⟨g, 1, none⟩ = some (.bool x.resp) ∧ w.cell? ⟨g, 2, none⟩ = some (.bool x.bad) ∧ w.cell? ⟨g, 3, none⟩ = some (.int .i64 x.as_) ∧ w.cell? ⟨g, 4, none⟩ = some (.int .u32 (x.ts : Int)) ∧ w.cell? ⟨g, 5, none⟩ = some (.int .u32 (x.fs : Int)) ∧ w.cell? ⟨g, 6, none⟩ = some (.slice x.A x.n x.c) ∧ w.cell? ⟨g, 7, none⟩ = some (.slice x.B x.m x.e) := by
  have h' : w.heap[g]? = _ := h
  refine ⟨?_, ?_, ?_, ?_, ?_, ?_, ?_, ?_⟩ <;> simp [World.cell?, h']
theorem below_drewN' {w0 w : World} {B : Nat} (h : RowKit.Below B w0 w) (n : Nat) : RowKit.Below B w0 (w.drewN n) := ⟨h.os, h.tape, h.output, h.size, h.block⟩
theorem bthen {B : Nat} {w0 w w' : World} (h : RowKit.Below B w0 w) (k : RowKit.Below w.heap.size w w') (hB : B ≤ w0.heap.size) : RowKit.Below B w0 w' := h.trans (k.mono (Nat.le_trans hB h.size))
theorem w64_succ {j n : Nat} (h : j < n) (hn : n ≤ 4096) : wrap64 ((j : Int) + 1) = ((j + 1 : Nat) : Int) := by unfold wrap64; omega
theorem w64_sum {k k2 k3 : Nat} (h : k3 = k + k2) (hn : k3 ≤ 4096 * 2147483680) : wrap64 (((48 + k : Nat) : Int) + (k2 : Nat)) = ((48 + k3 : Nat) : Int) := by unfold wrap64; omega
def szf (x : El) : Nat := 24 + fld x.n + fld x.m
theorem fld_lim (n : Nat) : n ≤ fld n ∧ fld n ≤ n + 3 := by unfold fld; omega
theorem szf_any (x : El) (hn : x.n ≤ 1073741824) (hm : x.m ≤ 1073741824) (w : World) : Calls Tryd.prog 32 #[elV x] w fun e w' => e = .returned (.int .i64 (szf x : Nat)) ∧ RowKit.Below w.heap.size w w' := by
  obtain ⟨p, hp⟩ : ∃ p, p = fld x.n := ⟨_, rfl⟩
  obtain ⟨q, hq⟩ : ∃ p, p = fld x.m := ⟨_, rfl⟩
  have l1 := fld_lim x.n
  have l2 := fld_lim x.m
  have H1 := Lib.hid (fun w => (hp ▸ filled_any (n := x.n) (by omega) w : Calls Tryd.prog 52 #[.int .i64 (x.n : Int)] w fun e w' => e = .returned (.int .i64 (p : Int)) ∧ w' = w))
  have H2 := Lib.hid (fun w => (hq ▸ filled_any (n := x.m) (by omega) w : Calls Tryd.prog 52 #[.int .i64 (x.m : Int)] w fun e w' => e = .returned (.int .i64 (q : Int)) ∧ w' = w))
  rw [← hp] at l1
  rw [← hq] at l2
  have HV := Lib.hid (show szf x = 24 + p + q by unfold szf; rw [← hp, ← hq])
  have s1 : wrap64 (24 + (p : Int)) = 24 + p := by unfold wrap64; omega
  have s2 : wrap64 (24 + (p : Int) + q) = 24 + p + q := by unfold wrap64; omega
  have hbw := (Below.refl w.heap.size w).alloc (Nat.le_refl _) (.cells #[.int .i64 x.op, .bool x.resp, .bool x.bad, .int .i64 x.as_, .int .u32 (x.ts : Int), .int .u32 (x.fs : Int), .slice x.A x.n x.c, .slice x.B x.m x.e] 45)
  have HB := Lib.hid hbw
  clear hp hq hbw l1 l2
  have heq : w.alloc (.cells #[.int .i64 x.op, .bool x.resp, .bool x.bad, .int .i64 x.as_, .int .u32 (x.ts : Int), .int .u32 (x.fs : Int), .slice x.A x.n x.c, .slice x.B x.m x.e] 45) = w.alloc (.cells #[.int .i64 x.op, .bool x.resp, .bool x.bad, .int .i64 x.as_, .int .u32 (x.ts : Int), .int .u32 (x.fs : Int), .slice x.A x.n x.c, .slice x.B x.m x.e] 45) := rfl
  obtain ⟨W, hW⟩ : ∃ W, W = w.alloc (.cells #[.int .i64 x.op, .bool x.resp, .bool x.bad, .int .i64 x.as_, .int .u32 (x.ts : Int), .int .u32 (x.fs : Int), .slice x.A x.n x.c, .slice x.B x.m x.e] 45) := ⟨_, rfl⟩
  have x1 : EBox W w.heap.size x := by rw [hW]; exact heap_alloc_new w _
  have HB2 : RowKit.Below w.heap.size w W := by rw [hW]; exact HB.out
  obtain ⟨c0, c1, c2, c3, c4, c5, c6, c7⟩ := x1.cells
  have HB3 := Lib.hid HB2
  clear x1 heq HB HB2
  go_enter Tryd.func32, Tryd.ntmps32
  go_wp2_with fail
  rw [← hW]
  clear hW
  go_quiet ((go_at_call 52; first | with_reducible exact Calls.quiet_of_same (H1.out _) | with_reducible exact Calls.quiet_of_same (H2.out _)))
  go_wp2_with fail
  go_ret
  refine ⟨?_, below_drewN' HB3.out _⟩
  rw [HV.out]
  show Ending.returned (Value.int _ _) = Ending.returned (Value.int _ _)
  congr 2
/-- a row of fields that can be read -/
def Es (w : World) (B : Nat) (A : Option Addr) (n : Nat) (xs : List El) : Prop :=
  xs.length = n ∧ (∀ x ∈ xs, Nb w B x.A x.n x.c x.xs ∧ Nb w B x.B x.m x.e x.ys) ∧ (n = 0 ∨ ∃ g off, A = some ⟨g, off, none⟩ ∧ g < B ∧ ∀ i x, xs[i]? = some x →
    w.cell? ⟨g, off + i * 8, none⟩ = some (.int .i64 x.op) ∧ w.cell? ⟨g, off + i * 8 + 1, none⟩ = some (.bool x.resp) ∧ w.cell? ⟨g, off + i * 8 + 2, none⟩ = some (.bool x.bad) ∧ w.cell? ⟨g, off + i * 8 + 3, none⟩ = some (.int .i64 x.as_) ∧
    w.cell? ⟨g, off + i * 8 + 4, none⟩ = some (.int .u32 (x.ts : Int)) ∧ w.cell? ⟨g, off + i * 8 + 5, none⟩ = some (.int .u32 (x.fs : Int)) ∧ w.cell? ⟨g, off + i * 8 + 6, none⟩ = some (.slice x.A x.n x.c) ∧ w.cell? ⟨g, off + i * 8 + 7, none⟩ = some (.slice x.B x.m x.e))
theorem Es.below {w w' : World} {B C n : Nat} {A : Option Addr} {xs : List El} (h : Es w B A n xs) (b : RowKit.Below C w w') (hB : B ≤ C) : Es w' B A n xs := by
  have bb : RowKit.Below B w w' := b.mono hB
  refine ⟨h.1, fun x hx => ⟨(h.2.1 x hx).1.below bb, (h.2.1 x hx).2.below bb⟩, h.2.2.imp id ?_⟩
  rintro ⟨g, off, rfl, hg, hc⟩
  refine ⟨g, off, rfl, hg, fun i x hx => ?_⟩
  obtain ⟨c0, c1, c2, c3, c4, c5, c6, c7⟩ := hc i x hx
  have e : ∀ j, w'.cell? ⟨g, j, none⟩ = w.cell? ⟨g, j, none⟩ := fun j => bb.cell (p := ⟨g, j, none⟩) hg
  exact ⟨(e _).trans c0, (e _).trans c1, (e _).trans c2, (e _).trans c3, (e _).trans c4, (e _).trans c5, (e _).trans c6, (e _).trans c7⟩
/-- how many bytes some fields have -/
def szs (l : List El) : Nat := (l.map szf).sum
theorem szs_take {l : List El} {j : Nat} {x : El} (h : l[j]? = some x) : szs (l.take (j + 1)) = szs (l.take j) + szf x := by
  unfold szs
  rw [List.take_add_one, h]; simp
theorem sum_le {xs : List El} {b : Nat} (h : ∀ x ∈ xs, szf x ≤ b) : (xs.map szf).sum ≤ xs.length * b := by
  induction xs with
  | nil => simp
  | cons x xs ih =>
    have a1 := h x (by simp)
    have a2 := ih (fun y hy => h y (by simp [hy]))
    simp only [List.map_cons, List.sum_cons, List.length_cons]
    rw [Nat.add_mul]; omega
def szp (p : Pk) (l : List El) : Nat := 48 + szs l + (if p.m.has then 4 + p.m.n else 0)
theorem size_any (p : Pk) (l : List El) {w : World} (h : Es w w.heap.size p.A p.n l) (hn : p.n ≤ 4096) (hl : ∀ x ∈ l, x.n ≤ 1073741824 ∧ x.m ≤ 1073741824) (hm : p.m.n ≤ 1099511627776) :
    Calls Tryd.prog 15 #[pkV p] w fun e w' => e = .returned (.int .i64 (szp p l : Nat)) ∧ RowKit.Below w.heap.size w w' := by
  obtain ⟨W, hW⟩ : ∃ W, W = w.alloc (.cells #[.int .i64 p.h.lp, .int .i64 p.h.ve, .int .i64 p.h.mo, .int .i64 p.h.st, .int .i64 p.h.po, .int .i64 p.h.pr, .int .u32 (p.h.dl : Int), .int .u32 (p.h.di : Int), .int .u32 (p.h.rf : Int), .int .u64 (p.h.re : Int), .int .u64 (p.h.og : Int), .int .u64 (p.h.rc : Int), .int .u64 (p.h.xm : Int), .slice p.A p.n p.c, .bool p.m.has, .int .u32 (p.m.key : Int), .slice p.m.A p.m.n p.m.c] 29) := ⟨_, rfl⟩
  have x1 : PBox W w.heap.size p := by rw [hW]; exact heap_alloc_new w _
  have hb : RowKit.Below w.heap.size w W := by rw [hW]; exact (Below.refl _ _).alloc (Nat.le_refl _) _
  have hs1 : w.heap.size < W.heap.size := x1.lt
  have HE := Lib.hid (h.below hb (Nat.le_refl _))
  have HL := Lib.hid hl
  have HX := Lib.hid x1
  have HB := Lib.hid hb
  have HS := Lib.hid hs1
  have hlen : l.length = p.n := h.1
  have HSZ := Lib.hid (show ∀ j, szs (l.take j) ≤ j * 2147483680 by
    intro j
    unfold szs
    refine Nat.le_trans (sum_le (fun q hq => ?_) : _ ≤ (l.take j).length * 2147483680) (Nat.mul_le_mul_right _ (by simp; omega))
    have := hl q (List.mem_of_mem_take hq)
    unfold szf; have a1 := fld_lim q.n; have a2 := fld_lim q.m; omega)
  have HLn := Lib.hid hlen
  obtain ⟨c0, c1, c2, c3, c4, c5, c6, c7, c8, c9, c10, c11, c12, c13, c14, c15, c16⟩ := x1.cells
  clear h hl x1 hb hlen hs1
  go_enter Tryd.func15, Tryd.ntmps15
  go_wp2_with fail
  rw [← hW]
  clear hW
  go_wp2_with fail
  clear c0 c1 c2 c3 c4 c5 c6 c7 c8 c9 c10 c11 c12 c13 c14 c15 c16
  go_loopw [9, 3] (fun i v wr => ∃ j : Nat, j ≤ p.n ∧ i = .int .i64 (j : Int) ∧ v = .int .i64 ((48 + szs (l.take j) : Nat) : Int) ∧ RowKit.Below W.heap.size W wr) (fun i _ _ => (p.n - (match i with | .int _ z => z.toNat | _ => 0)))
  case atStart => exact ⟨0, by omega, rfl, rfl, Below.refl _ _⟩
  case round =>
    obtain ⟨j, hjn, rfl, rfl, hb⟩ := hrel
    have HB2 := Lib.hid hb
    clear hb
    have l1 := HSZ.out j
    have l1b := HSZ.out (j + 1)
    by_cases hj : j < p.n
    · have e1 : (j : Int) < (p.n : Int) := by omega
      obtain ⟨x, hx⟩ : ∃ x, l[j]? = some x := ⟨_, List.getElem?_eq_getElem (by have := HLn.out; omega)⟩
      obtain ⟨he1, he2, he3⟩ := HE.out.below HB2.out (Nat.le_of_lt HS.out)
      rcases he3 with he3 | ⟨g, off, hA, hg, hcl⟩
      · omega
      obtain ⟨d0, d1, d2, d3, d4, d5, d6, d7⟩ := hcl j x hx
      have hxl := HL.out x (List.mem_of_getElem? hx)
      have HC := Lib.hid (fun w => szf_any x hxl.1 hxl.2 w)
      have HT := Lib.hid (szs_take hx)
      have l2 := szs_take hx
      clear hcl hx hxl he1 he2
      rw [hA]
      have HJ := Lib.hid (⟨hjn, hj⟩ : j ≤ p.n ∧ j < p.n)
      generalize hk : szs (l.take j) = k at *
      generalize hk2 : szf x = k2 at *
      generalize hk3 : szs (l.take (j + 1)) = k3 at *
      have s1 := w64_sum l2 (Nat.le_trans l1b (Nat.mul_le_mul_right _ (Nat.le_trans hj hn)))
      have HK := Lib.hid hk3
      have s0 := w64_succ hj hn
      clear hk hk2 hk3 l1 l1b l2 HT hn hm
      go_wp2_with fail
      refine (HC.out _).mono ?_
      rintro e w2 ⟨rfl, b2⟩
      have HB3 := Lib.hid (HB2.out.trans (((Below.refl _ wr).alloc HB2.out.size _).trans (b2.mono (Nat.le_trans HB2.out.size ((Below.refl wr.heap.size wr).alloc (Nat.le_refl _) _).size))))
      clear b2 d0 d1 d2 d3 d4 d5 d6 d7
      go_wp2_with fail
      exact ⟨⟨j + 1, by omega, congrArg (Value.int _) s0, by rw [HK.out]; exact congrArg (Value.int _) s1, HB3.out⟩, by show p.n - (wrap64 ((j : Int) + 1)).toNat < p.n - (j : Int).toNat; rw [s0]; omega⟩
    · have e1' : ((j : Int) < (p.n : Int)) = False := by simp only [eq_iff_iff, iff_false]; omega
      obtain ⟨c0, c1, c2, c3, c4, c5, c6, c7, c8, c9, c10, c11, c12, c13, c14, c15, c16⟩ := (HX.out.below HB2.out).cells
      have HF := Lib.hid (bthen HB.out HB2.out (Nat.le_refl _))
      have hall : l.take j = l := List.take_of_length_le (by have := HLn.out; omega)
      rw [hall] at l1 ⊢
      have HV := Lib.hid (show szp p l = 48 + szs l + (if p.m.has then 4 + p.m.n else 0) from rfl)
      generalize szs l = k at *
      have s1 : wrap64 (4 + (p.m.n : Int)) = 4 + (p.m.n : Int) := by unfold wrap64; omega
      have s2 : wrap64 (((48 + k : Nat) : Int) + (4 + (p.m.n : Int))) = ((48 + k : Nat) : Int) + (4 + (p.m.n : Int)) := by unfold wrap64; omega
      generalize p.m.has = hh at *
      cases hh with
      | false =>
        go_wp2_with fail
        go_ret
        exact ⟨by rw [HV.out]; rfl, HF.out⟩
      | true =>
        go_wp2_with fail
        go_ret
        refine ⟨?_, HF.out⟩
        rw [HV.out]
        show Ending.returned (Value.int _ _) = Ending.returned (Value.int _ _)
        congr 2
end Go.Proofs.YtafpnpfiefbddaaDoor.Wi
