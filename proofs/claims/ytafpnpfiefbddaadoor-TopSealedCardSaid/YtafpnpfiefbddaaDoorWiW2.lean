/- wire: packets, fields and Macs as values; which may be. -/
import Derived.Test.YtafpnpfiefbddaaDoorWiW1
namespace Go.Proofs.YtafpnpfiefbddaaDoor.Wi
set_option linter.unusedSimpArgs false
set_option linter.unusedVariables false
open Go.RowKit
set_option linter.unusedVariables false
set_option maxRecDepth 100000
/-- a number within bounds -/
def wi (a l m : Int) : Bool := decide (l ≤ a ∧ a ≤ m)
theorem within_any (a l m : Int) (w : World) : Calls Tryd.prog 51 #[.int .i64 a, .int .i64 l, .int .i64 m] w fun e w' => e = .returned (.bool (wi a l m)) ∧ w' = w := by
  go_enter Tryd.func51, Tryd.ntmps51
  by_cases h1 : l ≤ a
  · by_cases h2 : a ≤ m
    · have HV := Lib.hid (show wi a l m = true from decide_eq_true ⟨h1, h2⟩)
      go_wp2_with fail
      go_ret
      exact ⟨by rw [HV.out]; rfl, rfl⟩
    · have HV := Lib.hid (show wi a l m = false from decide_eq_false fun q => h2 q.2)
      have h2' : (a ≤ m) = False := by simp only [h2]
      go_wp2_with fail
      go_ret
      exact ⟨by rw [HV.out]; rfl, rfl⟩
  · have HV := Lib.hid (show wi a l m = false from decide_eq_false fun q => h1 q.1)
    have h1' : (l ≤ a) = False := by simp only [h1]
    go_wp2_with fail
    go_ret
    exact ⟨by rw [HV.out]; rfl, rfl⟩
/-- what a packet has ahead of its fields -/
structure Hd where
  (lp ve mo st po pr : Int)
  (dl di rf : Nat)
  (re og rc xm : Nat)
def Hd.pre (h : Hd) : List Value := [.int .i64 h.lp, .int .i64 h.ve, .int .i64 h.mo, .int .i64 h.st, .int .i64 h.po, .int .i64 h.pr, .int .u32 (h.dl : Int), .int .u32 (h.di : Int), .int .u32 (h.rf : Int), .int .u64 (h.re : Int), .int .u64 (h.og : Int), .int .u64 (h.rc : Int), .int .u64 (h.xm : Int)]
/-- a Mac -/
structure Mc where
  has : Bool
  key : Nat
  (A : Option Addr)
  (n c : Nat)
def Mc.val (m : Mc) : Value := .agg #[.bool m.has, .int .u32 (m.key : Int), .slice m.A m.n m.c]
/-- a packet: its head, its row of fields, its Mac -/
structure Pk where
  h : Hd
  (A : Option Addr)
  (n c : Nat)
  m : Mc
abbrev pkV (p : Pk) : Value := .agg #[.int .i64 p.h.lp, .int .i64 p.h.ve, .int .i64 p.h.mo, .int .i64 p.h.st, .int .i64 p.h.po, .int .i64 p.h.pr, .int .u32 (p.h.dl : Int), .int .u32 (p.h.di : Int), .int .u32 (p.h.rf : Int), .int .u64 (p.h.re : Int), .int .u64 (p.h.og : Int), .int .u64 (p.h.rc : Int), .int .u64 (p.h.xm : Int), .slice p.A p.n p.c, .bool p.m.has, .int .u32 (p.m.key : Int), .slice p.m.A p.m.n p.m.c]
/-- may a packet be of this Version and Mode? -/
def kindB (h : Hd) : Bool := decide (h.ve = 4) && wi h.mo 1 5
theorem kind_any (p : Pk) (w : World) : Calls Tryd.prog 43 #[pkV p] w fun e w' => e = .returned (.bool (kindB p.h)) ∧ RowKit.Below w.heap.size w w' := by
  by_cases h1 : p.h.ve = 4
  · obtain ⟨b, hb⟩ : ∃ b, b = wi p.h.mo 1 5 := ⟨_, rfl⟩
    have HV := Lib.hid (show kindB p.h = b by unfold kindB; rw [decide_eq_true h1, hb]; simp)
    have HW := Lib.hid (fun w => (hb ▸ within_any p.h.mo 1 5 w : Calls Tryd.prog 51 #[.int .i64 p.h.mo, .int .i64 1, .int .i64 5] w fun e w' => e = .returned (.bool b) ∧ w' = w))
    clear hb
    go_enter Tryd.func43, Tryd.ntmps43
    go_wp2_with fail
    refine (HW.out _).mono ?_
    rintro e w1 ⟨rfl, rfl⟩
    go_wp2_with fail
    go_ret
    exact ⟨by rw [HV.out]; rfl, (Below.refl _ _).alloc (Nat.le_refl _) _⟩
  · have HV := Lib.hid (show kindB p.h = false by unfold kindB; rw [decide_eq_false h1]; rfl)
    have h1' : (p.h.ve == 4) = false := by simpa using h1
    have h1'' : (p.h.ve = 4) = False := by simp only [h1]
    go_enter Tryd.func43, Tryd.ntmps43
    go_wp2_with fail
    go_ret
    exact ⟨by rw [HV.out]; rfl, (Below.refl _ _).alloc (Nat.le_refl _) _⟩
theorem stratum_any (a : Int) (w : World) : Calls Tryd.prog 44 #[.int .i64 a] w fun e w' => e = .returned (.bool (wi a 0 16)) ∧ w' = w := by
  go_enter Tryd.func44, Tryd.ntmps44
  go_wp2_with fail
  refine (within_any _ _ _ _).mono ?_
  rintro e w1 ⟨rfl, rfl⟩
  go_wp2_with fail
  go_ret
  exact ⟨rfl, rfl⟩
theorem poll_any (a : Int) (w : World) : Calls Tryd.prog 45 #[.int .i64 a] w fun e w' => e = .returned (.bool (wi a 0 17)) ∧ w' = w := by
  go_enter Tryd.func45, Tryd.ntmps45
  go_wp2_with fail
  refine (within_any _ _ _ _).mono ?_
  rintro e w1 ⟨rfl, rfl⟩
  go_wp2_with fail
  go_ret
  exact ⟨rfl, rfl⟩
/-- a packet in a box -/
def PBox (w : World) (g : Nat) (p : Pk) : Prop := w.heap[g]? = some (.cells #[.int .i64 p.h.lp, .int .i64 p.h.ve, .int .i64 p.h.mo, .int .i64 p.h.st, .int .i64 p.h.po, .int .i64 p.h.pr, .int .u32 (p.h.dl : Int), .int .u32 (p.h.di : Int), .int .u32 (p.h.rf : Int), .int .u64 (p.h.re : Int), .int .u64 (p.h.og : Int), .int .u64 (p.h.rc : Int), .int .u64 (p.h.xm : Int), .slice p.A p.n p.c, .bool p.m.has, .int .u32 (p.m.key : Int), .slice p.m.A p.m.n p.m.c] 29 (0, 0))
theorem PBox.lt {w : World} {g : Nat} {p : Pk} (h : PBox w g p) : g < w.heap.size := (Array.getElem?_eq_some_iff.1 h).1
theorem PBox.below {w w' : World} {g : Nat} {p : Pk} (h : PBox w g p) (b : RowKit.Below w.heap.size w w') : PBox w' g p := (b.block g h.lt).trans h
theorem PBox.cells {w : World} {g : Nat} {p : Pk} (h : PBox w g p) : w.cell? ⟨g, 0, none⟩ = some (.int .i64 p.h.lp) ∧ w.cell? ⟨g, 1, none⟩ = some (.int .i64 p.h.ve) ∧ w.cell? ⟨g, 2, none⟩ = some (.int .i64 p.h.mo) ∧ w.cell? ⟨g, 3, none⟩ = some (.int .i64 p.h.st) ∧ w.cell? ⟨g, 4, none⟩ = some (.int .i64 p.h.po) ∧ w.cell? ⟨g, 5, none⟩ = some (.int .i64 p.h.pr) ∧ w.cell? ⟨g, 6, none⟩ = some (.int .u32 (p.h.dl : Int)) ∧ w.cell? ⟨g, 7, none⟩ = some (.int .u32 (p.h.di : Int)) ∧ w.cell? ⟨g, 8, none⟩ = some (.int .u32 (p.h.rf : Int)) ∧ w.cell? ⟨g, 9, none⟩ = some (.int .u64 (p.h.re : Int)) ∧ w.cell? ⟨g, 10, none⟩ = some (.int .u64 (p.h.og : Int)) ∧ w.cell? ⟨g, 11, none⟩ = some (.int .u64 (p.h.rc : Int)) ∧ w.cell? ⟨g, 12, none⟩ = some (.int .u64 (p.h.xm : Int)) ∧ w.cell? ⟨g, 13, none⟩ = some (.slice p.A p.n p.c) ∧ w.cell? ⟨g, 14, none⟩ = some (.bool p.m.has) ∧ w.cell? ⟨g, 15, none⟩ = some (.int .u32 (p.m.key : Int)) ∧ w.cell? ⟨g, 16, none⟩ = some (.slice p.m.A p.m.n p.m.c) := by
  have h' : w.heap[g]? = _ := h
  refine ⟨?_, ?_, ?_, ?_, ?_, ?_, ?_, ?_, ?_, ?_, ?_, ?_, ?_, ?_, ?_, ?_, ?_⟩ <;> simp [World.cell?, h']
/-- may a packet have such a head? -/
def headB (h : Hd) : Bool := wi h.lp 0 3 && (kindB h && (wi h.st 0 16 && (wi h.po 0 17 && wi h.pr (-128) 127)))
theorem head_any (p : Pk) (w : World) : Calls Tryd.prog 29 #[pkV p] w fun e w' => e = .returned (.bool (headB p.h)) ∧ RowKit.Below w.heap.size w w' := by
  obtain ⟨b1, e1⟩ : ∃ b, b = wi p.h.lp 0 3 := ⟨_, rfl⟩
  obtain ⟨b2, e2⟩ : ∃ b, b = kindB p.h := ⟨_, rfl⟩
  obtain ⟨b3, e3⟩ : ∃ b, b = wi p.h.st 0 16 := ⟨_, rfl⟩
  obtain ⟨b4, e4⟩ : ∃ b, b = wi p.h.po 0 17 := ⟨_, rfl⟩
  obtain ⟨b5, e5⟩ : ∃ b, b = wi p.h.pr (-128) 127 := ⟨_, rfl⟩
  have HV := Lib.hid (show headB p.h = (b1 && (b2 && (b3 && (b4 && b5)))) by unfold headB; rw [e1, e2, e3, e4, e5])
  have H1 := Lib.hid (fun w => (e1 ▸ within_any p.h.lp 0 3 w : Calls Tryd.prog 51 #[.int .i64 p.h.lp, .int .i64 0, .int .i64 3] w fun e w' => e = .returned (.bool b1) ∧ w' = w))
  have H2 := Lib.hid (fun w => (e2 ▸ kind_any p w : Calls Tryd.prog 43 #[pkV p] w fun e w' => e = .returned (.bool b2) ∧ RowKit.Below w.heap.size w w'))
  have H3 := Lib.hid (fun w => (e3 ▸ stratum_any p.h.st w : Calls Tryd.prog 44 #[.int .i64 p.h.st] w fun e w' => e = .returned (.bool b3) ∧ w' = w))
  have H4 := Lib.hid (fun w => (e4 ▸ poll_any p.h.po w : Calls Tryd.prog 45 #[.int .i64 p.h.po] w fun e w' => e = .returned (.bool b4) ∧ w' = w))
  have H5 := Lib.hid (fun w => (e5 ▸ within_any p.h.pr (-128) 127 w : Calls Tryd.prog 51 #[.int .i64 p.h.pr, .int .i64 (-128), .int .i64 127] w fun e w' => e = .returned (.bool b5) ∧ w' = w))
  clear e1 e2 e3 e4 e5
  go_enter Tryd.func29, Tryd.ntmps29
  go_wp2_with fail
  obtain ⟨W, hW⟩ : ∃ W, W = w.alloc (Obj.cells #[.int .i64 p.h.lp, .int .i64 p.h.ve, .int .i64 p.h.mo, .int .i64 p.h.st, .int .i64 p.h.po, .int .i64 p.h.pr, .int .u32 (p.h.dl : Int), .int .u32 (p.h.di : Int), .int .u32 (p.h.rf : Int), .int .u64 (p.h.re : Int), .int .u64 (p.h.og : Int), .int .u64 (p.h.rc : Int), .int .u64 (p.h.xm : Int), .slice p.A p.n p.c, .bool p.m.has, .int .u32 (p.m.key : Int), .slice p.m.A p.m.n p.m.c] 29) := ⟨_, rfl⟩
  have x1 : PBox W w.heap.size p := by rw [hW]; exact heap_alloc_new w _
  have hb : RowKit.Below w.heap.size w W := by rw [hW]; exact (Below.refl _ _).alloc (Nat.le_refl _) _
  rw [← hW]
  clear hW
  have HX := Lib.hid x1
  have HB := Lib.hid hb
  obtain ⟨c0, c1, c2, c3, c4, c5, c6, c7, c8, c9, c10, c11, c12, c13, c14, c15, c16⟩ := x1.cells
  clear x1 hb
  refine (H1.out _).mono ?_
  rintro e w1 ⟨rfl, rfl⟩
  cases b1 with
  | false =>
    go_wp2_with fail
    go_ret
    exact ⟨by rw [HV.out]; rfl, HB.out⟩
  | true =>
    go_wp2_with fail
    refine (H2.out _).mono ?_
    rintro e w2 ⟨rfl, b2'⟩
    have HB2 := Lib.hid (HB.out.trans (b2'.mono HB.out.size))
    obtain ⟨-, -, -, d3, d4, d5, -⟩ := (HX.out.below b2').cells
    clear b2' HX HB c0 c1 c2 c3 c4 c5 c6 c7 c8 c9 c10 c11 c12 c13 c14 c15 c16
    cases b2 with
    | false =>
      go_wp2_with fail
      go_ret
      exact ⟨by rw [HV.out]; rfl, HB2.out⟩
    | true =>
      go_wp2_with fail
      refine (H3.out _).mono ?_
      rintro e w3 ⟨rfl, rfl⟩
      cases b3 with
      | false =>
        go_wp2_with fail
        go_ret
        exact ⟨by rw [HV.out]; rfl, HB2.out⟩
      | true =>
        go_wp2_with fail
        refine (H4.out _).mono ?_
        rintro e w3 ⟨rfl, rfl⟩
        cases b4 with
        | false =>
          go_wp2_with fail
          go_ret
          exact ⟨by rw [HV.out]; rfl, HB2.out⟩
        | true =>
          go_wp2_with fail
          refine (H5.out _).mono ?_
          rintro e w3 ⟨rfl, rfl⟩
          go_wp2_with fail
          go_ret
          exact ⟨by rw [HV.out]; rfl, HB2.out⟩
/-- a Mac that may be -/
def macB (m : Mc) : Bool := if m.has then decide (m.n = 0 ∨ m.n = 16) else decide (m.key = 0 ∧ m.n = 0)
theorem mac_any (m : Mc) (w : World) : Calls Tryd.prog 30 #[.agg #[.bool m.has, .int .u32 (m.key : Int), .slice m.A m.n m.c]] w fun e w' => e = .returned (.bool (macB m)) ∧ RowKit.Below w.heap.size w w' := by
  obtain ⟨has, key, A, n, c⟩ := m
  dsimp only
  have hbw := (Below.refl w.heap.size w).alloc (Nat.le_refl _) (.cells #[.bool has, .int .u32 (key : Int), .slice A n c] 27)
  cases has with
  | true =>
    by_cases h0 : n = 0
    · subst h0
      go_enter Tryd.func30, Tryd.ntmps30
      go_wp2_with fail
      go_ret
      exact ⟨rfl, hbw⟩
    · have h1 : ((n : Int) == 0) = false := by simpa using h0
      by_cases h6 : n = 16
      · subst h6
        go_enter Tryd.func30, Tryd.ntmps30
        go_wp2_with fail
        go_ret
        exact ⟨rfl, hbw⟩
      · have h2 : ((n : Int) == 16) = false := by rw [beq_eq_false_iff_ne]; omega
        have HV := Lib.hid (show macB ⟨true, key, A, n, c⟩ = false by unfold macB; simp [h0, h6])
        go_enter Tryd.func30, Tryd.ntmps30
        go_wp2_with fail
        go_ret
        exact ⟨by rw [HV.out]; rfl, hbw⟩
  | false =>
    by_cases hk : key = 0
    · subst hk
      by_cases h0 : n = 0
      · subst h0
        go_enter Tryd.func30, Tryd.ntmps30
        go_wp2_with fail
        go_ret
        exact ⟨rfl, hbw⟩
      · have h1 : ((n : Int) == 0) = false := by simpa using h0
        have HV := Lib.hid (show macB ⟨false, 0, A, n, c⟩ = false by unfold macB; simp [h0])
        go_enter Tryd.func30, Tryd.ntmps30
        go_wp2_with fail
        go_ret
        exact ⟨by rw [HV.out]; rfl, hbw⟩
    · have h1 : ((key : Int) == 0) = false := by simpa using hk
      have HV := Lib.hid (show macB ⟨false, key, A, n, c⟩ = false by unfold macB; simp [hk])
      go_enter Tryd.func30, Tryd.ntmps30
      go_wp2_with fail
      go_ret
      exact ⟨by rw [HV.out]; rfl, hbw⟩
end Go.Proofs.YtafpnpfiefbddaaDoor.Wi
