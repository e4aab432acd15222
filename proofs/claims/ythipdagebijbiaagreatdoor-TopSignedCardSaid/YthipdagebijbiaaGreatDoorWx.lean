/- wire: Right. wire: numbers at the end of bytes. wire: noughts behind bytes of one's own; bytes with their number. wire: a field behind bytes. wire: Write. -/
import Derived.Test.YthipdagebijbiaaGreatDoorWi
import Derived.Maps.AppendAt
import Derived.Lib.AppendZerosOnto
import Derived.Deep.RegionHeld3
namespace Go.Proofs.YthipdagebijbiaaGreatDoor.Wi
set_option linter.unusedSimpArgs false
set_option linter.unusedVariables false
open Go.RowKit
set_option linter.unusedVariables false
set_option maxRecDepth 100000
/-- is a packet right? -/
def rightB (p : Pk) (l : List El) : Bool := headB p.h && (macB p.m && (decide (p.n ≤ 8) && (l.all fieldB && decide (szp p l ≤ 8192))))
def erI (b : Bool) : Int := if b then 0 else 3
theorem mac_lim {m : Mc} (h : macB m = true) : m.n ≤ 16 := by
  unfold macB at h
  split at h <;> simp at h <;> omega
theorem field_lim {x : El} (h : fieldB x = true) : x.n ≤ 2048 ∧ x.m ≤ 2048 := by
  unfold fieldB at h
  simp only [Bool.and_eq_true, decide_eq_true_eq] at h
  exact ⟨h.2.2.1, h.2.2.2⟩
theorem all_take_false {xs : List El} {j : Nat} {x : El} (hx : xs[j]? = some x) (h : fieldB x = false) : xs.all fieldB = false := by
  rw [List.all_eq_false]
  exact ⟨x, List.mem_of_getElem? hx, by simp [h]⟩
theorem all_take_true {xs : List El} {j : Nat} {x : El} (hx : xs[j]? = some x) (h1 : (xs.take j).all fieldB = true) (h : fieldB x = true) : (xs.take (j + 1)).all fieldB = true := by
  rw [List.take_add_one, hx]; simp only [Option.toList, List.all_append, h1, List.all_cons, h, List.all_nil, Bool.and_self]
theorem Es.more {w : World} {B C n : Nat} {A : Option Addr} {xs : List El} (h : Es w B A n xs) (hB : B ≤ C) : Es w C A n xs :=
  ⟨h.1, fun x hx => ⟨(h.2.1 x hx).1.more hB, (h.2.1 x hx).2.more hB⟩, h.2.2.imp id fun ⟨g, off, e, hg, hc⟩ => ⟨g, off, e, Nat.lt_of_lt_of_le hg hB, hc⟩⟩
theorem right_any (p : Pk) (l : List El) {w : World} (h : Es w w.heap.size p.A p.n l) :
    Calls Tryz.prog 37 #[pkV p] w fun e w' => e = .returned (.int .i64 (erI (rightB p l))) ∧ RowKit.Below w.heap.size w w' := by
  obtain ⟨W, hW⟩ : ∃ W, W = w.alloc (.cells #[.int .i64 p.h.lp, .int .i64 p.h.ve, .int .i64 p.h.mo, .int .i64 p.h.st, .int .i64 p.h.po, .int .i64 p.h.pr, .int .u32 (p.h.dl : Int), .int .u32 (p.h.di : Int), .int .u32 (p.h.rf : Int), .int .u64 (p.h.re : Int), .int .u64 (p.h.og : Int), .int .u64 (p.h.rc : Int), .int .u64 (p.h.xm : Int), .slice p.A p.n p.c, .bool p.m.has, .int .u32 (p.m.key : Int), .slice p.m.A p.m.n p.m.c] 51) := ⟨_, rfl⟩
  have x1 : PBox W w.heap.size p := by rw [hW]; exact heap_alloc_new w _
  have hb : RowKit.Below w.heap.size w W := by rw [hW]; exact (Below.refl _ _).alloc (Nat.le_refl _) _
  have hs1 : w.heap.size < W.heap.size := x1.lt
  have HE := Lib.hid (h.below hb (Nat.le_refl _))
  have HX := Lib.hid x1
  have HB := Lib.hid hb
  have HS := Lib.hid hs1
  have HLn := Lib.hid (h.1 : l.length = p.n)
  have HH := Lib.hid (fun w => head_any p w)
  have HM := Lib.hid (fun w => mac_any p.m w)
  have HV := Lib.hid (show rightB p l = (headB p.h && (macB p.m && (decide (p.n ≤ 8) && (l.all fieldB && decide (szp p l ≤ 8192))))) from rfl)
  obtain ⟨c0, c1, c2, c3, c4, c5, c6, c7, c8, c9, c10, c11, c12, c13, c14, c15, c16⟩ := x1.cells
  clear h x1 hb hs1
  go_enter Tryz.func37, Tryz.ntmps37
  go_wp2_with fail
  rw [← hW]
  clear hW
  refine (HH.out _).mono ?_
  rintro e w1 ⟨rfl, b1⟩
  have HB1 := Lib.hid b1
  obtain ⟨c0, c1, c2, c3, c4, c5, c6, c7, c8, c9, c10, c11, c12, c13, c14, c15, c16⟩ := (HX.out.below HB1.out).cells
  generalize hh1 : headB p.h = bh at *
  have HH1 := Lib.hid hh1
  clear b1 hh1
  cases bh with
  | false =>
    go_wp2_with fail
    go_ret
    exact ⟨by rw [HV.out]; rfl, bthen HB.out HB1.out (Nat.le_refl _)⟩
  | true =>
    go_wp2_with fail
    refine (HM.out _).mono ?_
    rintro e w2 ⟨rfl, b2⟩
    have HB2 := Lib.hid (bthen HB1.out b2 (Nat.le_refl _))
    obtain ⟨c0, c1, c2, c3, c4, c5, c6, c7, c8, c9, c10, c11, c12, c13, c14, c15, c16⟩ := (HX.out.below HB2.out).cells
    generalize hm1 : macB p.m = bm at *
    have HM1 := Lib.hid hm1
    clear b2 hm1
    cases bm with
    | false =>
      go_wp2_with fail
      go_ret
      exact ⟨by rw [HV.out]; rfl, bthen HB.out HB2.out (Nat.le_refl _)⟩
    | true =>
      by_cases hn : p.n ≤ 8
      · have hn' : ((8 : Int) < (p.n : Int)) = False := by rw [eq_iff_iff]; exact ⟨fun q => by omega, False.elim⟩
        have hn2 : ((p.n : Int) ≤ 8) := by omega
        rw [decide_eq_true hn] at HV
        have HN := Lib.hid hn
        clear hn
        go_wp2_with fail
        clear c0 c1 c2 c3 c4 c5 c6 c7 c8 c9 c10 c11 c12 c13 c14 c15 c16
        go_loopw [23] (fun i wr => ∃ j : Nat, j ≤ p.n ∧ i = .int .i64 (j : Int) ∧ Hid ((l.take j).all fieldB = true) ∧ RowKit.Below W.heap.size W wr) (fun i _ => (p.n - (match i with | .int _ z => z.toNat | _ => 0)))
        case atStart => exact ⟨0, by omega, rfl, Lib.hid (by simp), HB2.out⟩
        case round =>
          obtain ⟨j, hjn, rfl, HA, hb⟩ := hrel
          have HB3 := Lib.hid hb
          clear hb
          by_cases hj : j < p.n
          · have e1 : (j : Int) < (p.n : Int) := by omega
            obtain ⟨x, hx⟩ : ∃ x, l[j]? = some x := ⟨_, List.getElem?_eq_getElem (by have := HLn.out; omega)⟩
            obtain ⟨he1, he2, he3⟩ := HE.out.below HB3.out (Nat.le_of_lt HS.out)
            rcases he3 with he3 | ⟨g, off, hA, hg, hcl⟩
            · omega
            obtain ⟨d0, d1, d2, d3, d4, d5, d6, d7⟩ := hcl j x hx
            have HC := Lib.hid (fun w => field_any x w)
            have HT := Lib.hid hx
            clear hcl hx he1 he2
            rw [hA]
            generalize hf : fieldB x = bf at *
            have HF := Lib.hid hf
            clear hf
            cases bf with
            | false =>
              go_wp2_with fail
              refine (HC.out _).mono ?_
              rintro e w3 ⟨rfl, b3⟩
              have HB4 := Lib.hid (HB3.out.trans (((Below.refl _ wr).alloc HB3.out.size _).trans (b3.mono (Nat.le_trans HB3.out.size ((Below.refl wr.heap.size wr).alloc (Nat.le_refl _) _).size))))
              clear b3 d0 d1 d2 d3 d4 d5 d6 d7
              go_wp2_with fail
              go_ret
              exact ⟨by rw [HV.out, all_take_false HT.out HF.out]; rfl, bthen HB.out HB4.out (Nat.le_refl _)⟩
            | true =>
              go_wp2_with fail
              refine (HC.out _).mono ?_
              rintro e w3 ⟨rfl, b3⟩
              have HB4 := Lib.hid (HB3.out.trans (((Below.refl _ wr).alloc HB3.out.size _).trans (b3.mono (Nat.le_trans HB3.out.size ((Below.refl wr.heap.size wr).alloc (Nat.le_refl _) _).size))))
              clear b3 d0 d1 d2 d3 d4 d5 d6 d7
              go_wp2_with fail
              exact ⟨⟨j + 1, by omega, rfl, Lib.hid (all_take_true HT.out HA.out HF.out), HB4.out⟩, by show p.n - ((j : Int) + 1).toNat < p.n - (j : Int).toNat; omega⟩
          · have e1' : ((j : Int) < (p.n : Int)) = False := by simp only [eq_iff_iff, iff_false]; omega
            obtain ⟨c0, c1, c2, c3, c4, c5, c6, c7, c8, c9, c10, c11, c12, c13, c14, c15, c16⟩ := (HX.out.below HB3.out).cells
            have HAL := Lib.hid (show l.all fieldB = true by have := HA.out; rwa [List.take_of_length_le (by have := HLn.out; omega)] at this)
            have HEs := HE.out.below HB3.out (Nat.le_of_lt HS.out)
            have HZ := Lib.hid (size_any p l (HEs.more (Nat.le_trans (Nat.le_of_lt HS.out) HB3.out.size)) (Nat.le_trans HN.out (by decide)) (fun x hx => by have := field_lim (List.all_eq_true.1 HAL.out x hx); omega) (by have := mac_lim HM1.out; omega))
            have HF2 := Lib.hid (bthen HB.out HB3.out (Nat.le_refl _))
            clear HEs
            go_wp2_with fail
            refine HZ.out.mono ?_
            rintro e w3 ⟨rfl, b3⟩
            have HF3 := Lib.hid (bthen HF2.out b3 (Nat.le_refl _))
            generalize hS : szp p l = S at *
            rw [HAL.out] at HV
            clear b3 hS
            by_cases hS2 : S ≤ 8192
            · have k1 : ((8192 : Int) < (S : Int)) = False := by rw [eq_iff_iff]; exact ⟨fun q => by omega, False.elim⟩
              have k2 : (S : Int) ≤ 8192 := by omega
              rw [decide_eq_true hS2] at HV
              clear hS2
              go_wp2_with fail
              go_ret
              exact ⟨by rw [HV.out]; rfl, HF3.out⟩
            · have k1 : (8192 : Int) < (S : Int) := by omega
              have k2 : ((S : Int) ≤ 8192) = False := by rw [eq_iff_iff]; exact ⟨fun q => by omega, False.elim⟩
              rw [decide_eq_false hS2] at HV
              clear hS2
              go_wp2_with fail
              go_ret
              exact ⟨by rw [HV.out]; rfl, HF3.out⟩
      · have hn' : ((8 : Int) < (p.n : Int)) := by omega
        have hn2 : ((p.n : Int) ≤ 8) = False := by rw [eq_iff_iff]; exact ⟨fun q => by omega, False.elim⟩
        rw [decide_eq_false hn] at HV
        clear hn
        go_wp2_with fail
        go_ret
        exact ⟨by rw [HV.out]; rfl, bthen HB.out HB2.out (Nat.le_refl _)⟩
namespace Go.Proofs.YthipdagebijbiaaGreatDoor.Wi
open Go.RowKit
set_option linter.unusedVariables false
set_option maxRecDepth 100000
/-- the block that a row lies in -/
def blk (A : Option Addr) : Option Nat := A.map (·.block)
/-- a row grew: every other block that was there is as it was -/
def Gr (w : World) (A : Option Addr) (w' : World) (A' : Option Addr) : Prop := w.grownBy w' (blk A) ∧ (blk A' = blk A ∨ ∃ k, blk A' = some k ∧ w.heap.size ≤ k)
theorem own_blk (A : Option Addr) (n c : Nat) : (Value.slice A n c).ownBlock = blk A := by cases A <;> rfl
theorem Gr.refl (w : World) (A : Option Addr) : Gr w A w A := ⟨⟨rfl, rfl, rfl, Nat.le_refl _, fun _ _ _ => rfl⟩, .inl rfl⟩
theorem Gr.trans {w w' w'' : World} {A A' A'' : Option Addr} (h : Gr w A w' A') (k : Gr w' A' w'' A'') : Gr w A w'' A'' := by
  obtain ⟨g, h2⟩ := h
  obtain ⟨g', k2⟩ := k
  refine ⟨⟨g'.os.trans g.os, g'.tape.trans g.tape, g'.output.trans g.output, Nat.le_trans g.size g'.size, fun q hq hne => ?_⟩, ?_⟩
  · refine (g'.block q (Nat.lt_of_lt_of_le hq g.size) fun e => ?_).trans (g.block q hq hne)
    rcases h2 with h2 | ⟨j, h2, hj⟩
    · exact hne (e.trans h2)
    · rw [h2] at e; cases e; omega
  · rcases k2 with k2 | ⟨j, k2, hj⟩
    · rcases h2 with h2 | ⟨i, h2, hi⟩
      · exact .inl (k2.trans h2)
      · exact .inr ⟨i, k2.trans h2, hi⟩
    · exact .inr ⟨j, k2, Nat.le_trans g.size hj⟩
theorem Gr.alloc {w w' : World} {A A' : Option Addr} (h : Gr w A w' A') (o : Obj) : Gr w A (w'.alloc o) A' := by
  obtain ⟨g, h2⟩ := h
  have b := (Below.refl w'.heap.size w').alloc (Nat.le_refl _) o
  exact ⟨⟨b.os.trans g.os, b.tape.trans g.tape, b.output.trans g.output, Nat.le_trans g.size b.size, fun q hq hne => (b.block q (Nat.lt_of_lt_of_le hq g.size)).trans (g.block q hq hne)⟩, h2⟩
theorem Gr.cell {w w' : World} {A A' : Option Addr} (h : Gr w A w' A') {p : Addr} (hp : p.block < w.heap.size) (hne : blk A ≠ some p.block) : w'.cell? p = w.cell? p :=
  World.cell?_of_block (h.1.block p.block hp fun e => hne e.symm)
theorem Gr.below {w0 w w' : World} {A A' : Option Addr} {B : Nat} (h : Gr w A w' A') (b : RowKit.Below B w0 w) (hB : B ≤ w.heap.size) (hA : ∀ k, blk A = some k → B ≤ k) : RowKit.Below B w0 w' :=
  b.grown h.1 hB hA
theorem wpList_app_g (w : World) {ops : Array Oper} {rest : List Oper} {o : Oper} {a : Act} {Q : Exit → Act → World → Prop} (hgd : o.guard = none) (s x : Operand)
    (ho : o.op = .call { callee := .builtin .append, args := #[s, x], argTypes := #[23, 23] }) {base n c g y : Nat} {A A0 : Option Addr} {xs : List Nat} {w0 : World}
    (hs : a.eval s = .slice A n c) (hown : Gb w base A n c xs) (hx : a.eval x = .slice (some ⟨g, 0, none⟩) 1 1) (hc : w.cell? ⟨g, 0, none⟩ = some (.int .u8 (y : Int)))
    (hn : n ≤ 1099511627776) (hb : Gr w0 A0 w A) (hbase : base ≤ w.heap.size)
    (h : ∀ A' c' w', Gb w' base A' (n + 1) c' (xs ++ [y]) → Gr w0 A0 w' A' → wpList Tryz.prog ops Q rest (a.put o.dst (.slice A' (n + 1) c')) w') : wpList Tryz.prog ops Q (o :: rest) a w := by
  obtain ⟨i0, hi, hz0, hz1, hz2⟩ := info_parts Tryz.info5'
  refine wpList_append_own_at w hgd s x 23 ho base 5 i0 (.int .u8 0) 1 1 Tryz.underlying23 hi hz0 hz1 hz2 rfl (by decide) _ n (bs xs) hs hown.2 ⟨g, 0, none⟩ 1 1 [.int .u8 (y : Int)] hx rfl ?_ ?_ (by unfold maxLen; omega) (by omega) hbase ?_
  · intro j u hj
    match j, hj with
    | 0, hj => simp at hj; subst hj; simpa [Addr.add] using hc
  · intro u hu; simp at hu; subst hu; rfl
  · intro v' w' hown' hgrow _ hat
    obtain ⟨A', c', rfl⟩ := own_shape hown'
    rw [own_blk] at hgrow
    rw [own_blk, own_blk] at hat
    refine h A' c' w' ⟨by simp [hown.1], by rw [bs_append]; exact hown'⟩ (hb.trans ⟨hgrow, hat.imp id fun e => ⟨_, e, Nat.le_refl _⟩⟩)
/-- numbers in a row -/
def Zs (w : World) (k : IntKind) (B : Option Addr) (m : Nat) (zs : List Int) : Prop :=
  zs.length = m ∧ (m = 0 ∨ ∃ g off, B = some ⟨g, off, none⟩ ∧ g < w.heap.size ∧ ∀ i z, zs[i]? = some z → w.cell? ⟨g, off + i, none⟩ = some (.int k z))
/-- a number's bytes, the greatest first -/
def by8 (s : Nat) (z : Int) (i : Nat) : Nat := (z / 2 ^ (8 * (s - 1 - i)) % 256).toNat
def be (s : Nat) (z : Int) : List Nat := (List.range s).map (by8 s z)
theorem be_length (s : Nat) (z : Int) : (be s z).length = s := by simp [be]
theorem be_take {s i : Nat} (z : Int) (h : i < s) : (be s z).take (i + 1) = (be s z).take i ++ [by8 s z i] := by
  unfold be
  rw [List.take_add_one]
  simp [h]
theorem be_row {w : World} {base : Nat} {A : Option Addr} {N c s t j : Nat} {xs : List Nat} {zs : List Int} {z : Int} (hz : zs[j]? = some z) (ht : t = (be s z).length)
    (h : Gb w base A N c (xs ++ (zs.take j).flatMap (be s) ++ (be s z).take t)) : Gb w base A N c (xs ++ (zs.take (j + 1)).flatMap (be s)) := by
  rw [List.take_add_one, hz, List.flatMap_append]
  rw [ht, List.take_length, List.append_assoc] at h
  simpa using h
theorem put_any {w : World} {base : Nat} {A : Option Addr} {n c : Nat} {xs : List Nat} (s : Nat) {B : Option Addr} {m d : Nat} {zs : List Int} (h : Gb w base A n c xs) (hb : base ≤ w.heap.size)
    (hs : 0 < s) (hs8 : s ≤ 8) (hz : Zs w .i64 B m zs) (hAB : m = 0 ∨ blk A ≠ blk B) (hm : m ≤ 4096) (hn : n ≤ 1073741824) :
    Calls Tryz.prog 39 #[.slice A n c, .int .i64 (s : Nat), .slice B m d] w fun e w' => ∃ A' c', e = .returned (.slice A' (n + m * s) c') ∧ Gb w' base A' (n + m * s) c' (xs ++ zs.flatMap (be s)) ∧ Gr w A w' A' := by
  have HG := Lib.hid h
  have HZ := Lib.hid hz
  have HA := Lib.hid hAB
  have HBa := Lib.hid hb
  clear h hz hAB hb
  go_enter Tryz.func39, Tryz.ntmps39
  go_wp2_with fail
  go_loopw [12, 0] (fun i b wr => ∃ j A' c', j ≤ m ∧ i = .int .i64 ((j : Nat) : Int) ∧ b = .slice A' (n + j * s) c' ∧ Gb wr base A' (n + j * s) c' (xs ++ (zs.take j).flatMap (be s)) ∧ Gr w A wr A') (fun i _ _ => (m - (match i with | .int _ z => z.toNat | _ => 0)))
  case atStart => exact ⟨0, A, c, by omega, rfl, by rw [Nat.zero_mul]; rfl, by rw [Nat.zero_mul]; simpa using HG.out, Gr.refl _ _⟩
  case round =>
    obtain ⟨j, A1, c1, hjm, rfl, rfl, hg, hgr⟩ := hrel
    have HG1 := Lib.hid hg
    have HR1 := Lib.hid hgr
    clear hg hgr
    by_cases hj : j < m
    · have e1 : (j : Int) < (m : Int) := by omega
      obtain ⟨z, hz⟩ : ∃ z, zs[j]? = some z := ⟨_, List.getElem?_eq_getElem (by have := HZ.out.1; omega)⟩
      rcases HZ.out.2 with he3 | ⟨g, off, rfl, hg, hcl⟩
      · omega
      have d0 := (HR1.out.cell (p := ⟨g, off + j, none⟩) hg (HA.out.resolve_left (by omega))).trans (hcl j z hz)
      have HT := Lib.hid hz
      have HGl := Lib.hid hg
      have hjs : j * s ≤ 32768 := Nat.mul_le_mul (by omega : j ≤ 4096) hs8
      clear hcl hz hg
      obtain ⟨N, hN⟩ : ∃ N, N = n + j * s := ⟨_, rfl⟩
      rw [← hN] at HG1
      rw [← hN]
      have HN := Lib.hid hN
      have hN2 : N ≤ 2147483648 := by omega
      clear hN hjs
      go_wp2_with fail
      go_loopw [17, 0] (fun i b wq => ∃ t A' c', t ≤ s ∧ i = .int .i64 ((t : Nat) : Int) ∧ b = .slice A' (N + t) c' ∧ Gb wq base A' (N + t) c' (xs ++ (zs.take j).flatMap (be s) ++ (be s z).take t) ∧ Gr w A wq A') (fun i _ _ => (s - (match i with | .int _ z => z.toNat | _ => 0)))
      case atStart => exact ⟨0, A1, c1, by omega, rfl, rfl, by simpa using HG1.out, HR1.out⟩
      case round =>
        obtain ⟨t, A2, c2, hts, rfl, rfl, hg, hgr⟩ := hrel
        have HG2 := Lib.hid hg
        have HR2 := Lib.hid hgr
        clear hg hgr
        by_cases ht : t < s
        · have k1 : (t : Int) < (s : Int) := by omega
          obtain ⟨y, hy⟩ : ∃ y, y = by8 s z t := ⟨_, rfl⟩
          have e8 : z / 2 ^ (8 * (s - 1 - t)) % 256 = (y : Int) := by
            rw [hy]; unfold by8; exact (Int.toNat_of_nonneg (Int.emod_nonneg _ (by decide))).symm
          have HY := Lib.hid hy
          have HT2 := Lib.hid (be_take z ht)
          have hG' := HG2.out.alloc (.cells #[.int .u8 (y : Int)] 5)
          have hR' := HR2.out.alloc (.cells #[.int .u8 (y : Int)] 5)
          have hc := cell_new wr (.int .u8 (y : Int)) 5
          have hbs : base ≤ (wr.alloc (.cells #[.int .u8 (y : Int)] 5)).heap.size := Nat.le_trans HBa.out hR'.1.size
          have hnt : N + t ≤ 1099511627776 := by omega
          clear hy
          go_wp2_with (at_builtin; refine wpList_app_g _ rfl (.tmp 20) (.tmp 29) rfl rfl hG' rfl hc hnt hR' hbs ?_; intro A7 c7 w7 hG7 hR7)
          exact ⟨⟨t + 1, A7, c7, by omega, rfl, rfl, by rw [HT2.out, ← HY.out, ← List.append_assoc]; exact hG7, hR7⟩, by show s - ((t : Int) + 1).toNat < s - (t : Int).toNat; omega⟩
        · have k1 : ((t : Int) < (s : Int)) = False := by simp only [eq_iff_iff, iff_false]; omega
          have hts2 : t = s := by omega
          have hE : N + t = n + (j + 1) * s := by rw [HN.out, hts2, Nat.succ_mul]; omega
          have hG3 := Lib.hid (be_row HT.out (by rw [hts2]; exact (be_length s z).symm) (hE ▸ HG2.out))
          have HE := Lib.hid hE
          clear hts2 hE
          go_wp2_with fail
          exact ⟨⟨j + 1, A2, c2, by omega, rfl, by rw [HE.out], hG3.out, HR2.out⟩, by show m - ((j : Int) + 1).toNat < m - (j : Int).toNat; omega⟩
    · have e1' : ((j : Int) < (m : Int)) = False := by simp only [eq_iff_iff, iff_false]; omega
      have hjm2 : j = m := by omega
      subst hjm2
      have HG4 := Lib.hid (show Gb wr base A1 (n + j * s) c1 (xs ++ zs.flatMap (be s)) by
        have := HG1.out
        rwa [List.take_of_length_le (by have := HZ.out.1; omega)] at this)
      clear HZ HA
      go_wp2_with fail
      go_ret
      exact ⟨A1, c1, rfl, HG4.out, HR1.out⟩
theorem put20_any {w : World} {base : Nat} {A : Option Addr} {n c : Nat} {xs : List Nat} (s : Nat) {B : Option Addr} {m d : Nat} {zs : List Int} (h : Gb w base A n c xs) (hb : base ≤ w.heap.size)
    (hs : 0 < s) (hs8 : s ≤ 4) (hz : Zs w .u32 B m zs) (hAB : m = 0 ∨ blk A ≠ blk B) (hzp : ∀ z ∈ zs, 0 ≤ z) (hm : m ≤ 4096) (hn : n ≤ 1073741824) :
    Calls Tryz.prog 40 #[.slice A n c, .int .i64 (s : Nat), .slice B m d] w fun e w' => ∃ A' c', e = .returned (.slice A' (n + m * s) c') ∧ Gb w' base A' (n + m * s) c' (xs ++ zs.flatMap (be s)) ∧ Gr w A w' A' := by
  have HG := Lib.hid h
  have HP := Lib.hid hzp
  have HZ := Lib.hid hz
  have HA := Lib.hid hAB
  have HBa := Lib.hid hb
  clear h hz hAB hb hzp
  go_enter Tryz.func40, Tryz.ntmps40
  go_wp2_with fail
  go_loopw [12, 0] (fun i b wr => ∃ j A' c', j ≤ m ∧ i = .int .i64 ((j : Nat) : Int) ∧ b = .slice A' (n + j * s) c' ∧ Gb wr base A' (n + j * s) c' (xs ++ (zs.take j).flatMap (be s)) ∧ Gr w A wr A') (fun i _ _ => (m - (match i with | .int _ z => z.toNat | _ => 0)))
  case atStart => exact ⟨0, A, c, by omega, rfl, by rw [Nat.zero_mul]; rfl, by rw [Nat.zero_mul]; simpa using HG.out, Gr.refl _ _⟩
  case round =>
    obtain ⟨j, A1, c1, hjm, rfl, rfl, hg, hgr⟩ := hrel
    have HG1 := Lib.hid hg
    have HR1 := Lib.hid hgr
    clear hg hgr
    by_cases hj : j < m
    · have e1 : (j : Int) < (m : Int) := by omega
      obtain ⟨z, hz⟩ : ∃ z, zs[j]? = some z := ⟨_, List.getElem?_eq_getElem (by have := HZ.out.1; omega)⟩
      rcases HZ.out.2 with he3 | ⟨g, off, rfl, hg, hcl⟩
      · omega
      have d0 := (HR1.out.cell (p := ⟨g, off + j, none⟩) hg (HA.out.resolve_left (by omega))).trans (hcl j z hz)
      obtain ⟨v, rfl⟩ : ∃ v : Nat, z = (v : Int) := ⟨z.toNat, (Int.toNat_of_nonneg (HP.out z (List.mem_of_getElem? hz))).symm⟩
      have HT := Lib.hid hz
      have HGl := Lib.hid hg
      have hjs : j * s ≤ 32768 := Nat.mul_le_mul (by omega : j ≤ 4096) (by omega : s ≤ 8)
      clear hcl hz hg
      obtain ⟨N, hN⟩ : ∃ N, N = n + j * s := ⟨_, rfl⟩
      rw [← hN] at HG1
      rw [← hN]
      have HN := Lib.hid hN
      have hN2 : N ≤ 2147483648 := by omega
      clear hN hjs
      go_wp2_with fail
      go_loopw [17, 0] (fun i b wq => ∃ t A' c', t ≤ s ∧ i = .int .i64 ((t : Nat) : Int) ∧ b = .slice A' (N + t) c' ∧ Gb wq base A' (N + t) c' (xs ++ (zs.take j).flatMap (be s) ++ (be s (v : Int)).take t) ∧ Gr w A wq A') (fun i _ _ => (s - (match i with | .int _ z => z.toNat | _ => 0)))
      case atStart => exact ⟨0, A1, c1, by omega, rfl, rfl, by simpa using HG1.out, HR1.out⟩
      case round =>
        obtain ⟨t, A2, c2, hts, rfl, rfl, hg, hgr⟩ := hrel
        have HG2 := Lib.hid hg
        have HR2 := Lib.hid hgr
        clear hg hgr
        by_cases ht : t < s
        · have k1 : (t : Int) < (s : Int) := by omega
          obtain ⟨y, hy⟩ : ∃ y, y = by8 s v t := ⟨_, rfl⟩
          have e8 : (v : Int) / 2 ^ (8 * (s - 1 - t)) % 256 = (y : Int) := by
            rw [hy]; unfold by8; exact (Int.toNat_of_nonneg (Int.emod_nonneg _ (by decide))).symm
          have HY := Lib.hid hy
          have HT2 := Lib.hid (be_take (v : Int) ht)
          have hG' := HG2.out.alloc (.cells #[.int .u8 (y : Int)] 5)
          have hR' := HR2.out.alloc (.cells #[.int .u8 (y : Int)] 5)
          have hc := cell_new wr (.int .u8 (y : Int)) 5
          have hbs : base ≤ (wr.alloc (.cells #[.int .u8 (y : Int)] 5)).heap.size := Nat.le_trans HBa.out hR'.1.size
          have hnt : N + t ≤ 1099511627776 := by omega
          clear hy
          go_wp2_with (at_builtin; refine wpList_app_g _ rfl (.tmp 20) (.tmp 29) rfl rfl hG' rfl hc hnt hR' hbs ?_; intro A7 c7 w7 hG7 hR7)
          exact ⟨⟨t + 1, A7, c7, by omega, rfl, rfl, by rw [HT2.out, ← HY.out, ← List.append_assoc]; exact hG7, hR7⟩, by show s - ((t : Int) + 1).toNat < s - (t : Int).toNat; omega⟩
        · have k1 : ((t : Int) < (s : Int)) = False := by simp only [eq_iff_iff, iff_false]; omega
          have hts2 : t = s := by omega
          have hE : N + t = n + (j + 1) * s := by rw [HN.out, hts2, Nat.succ_mul]; omega
          have hG3 := Lib.hid (be_row HT.out (by rw [hts2]; exact (be_length s v).symm) (hE ▸ HG2.out))
          have HE := Lib.hid hE
          clear hts2 hE
          go_wp2_with fail
          exact ⟨⟨j + 1, A2, c2, by omega, rfl, by rw [HE.out], hG3.out, HR2.out⟩, by show m - ((j : Int) + 1).toNat < m - (j : Int).toNat; omega⟩
    · have e1' : ((j : Int) < (m : Int)) = False := by simp only [eq_iff_iff, iff_false]; omega
      have hjm2 : j = m := by omega
      subst hjm2
      have HG4 := Lib.hid (show Gb wr base A1 (n + j * s) c1 (xs ++ zs.flatMap (be s)) by
        have := HG1.out
        rwa [List.take_of_length_le (by have := HZ.out.1; omega)] at this)
      clear HZ HA
      go_wp2_with fail
      go_ret
      exact ⟨A1, c1, rfl, HG4.out, HR1.out⟩
theorem put21_any {w : World} {base : Nat} {A : Option Addr} {n c : Nat} {xs : List Nat} (s : Nat) {B : Option Addr} {m d : Nat} {zs : List Int} (h : Gb w base A n c xs) (hb : base ≤ w.heap.size)
    (hs : 0 < s) (hs8 : s ≤ 8) (hz : Zs w .u64 B m zs) (hAB : m = 0 ∨ blk A ≠ blk B) (hzp : ∀ z ∈ zs, 0 ≤ z) (hm : m ≤ 4096) (hn : n ≤ 1073741824) :
    Calls Tryz.prog 41 #[.slice A n c, .int .i64 (s : Nat), .slice B m d] w fun e w' => ∃ A' c', e = .returned (.slice A' (n + m * s) c') ∧ Gb w' base A' (n + m * s) c' (xs ++ zs.flatMap (be s)) ∧ Gr w A w' A' := by
  have HG := Lib.hid h
  have HP := Lib.hid hzp
  have HZ := Lib.hid hz
  have HA := Lib.hid hAB
  have HBa := Lib.hid hb
  clear h hz hAB hb hzp
  go_enter Tryz.func41, Tryz.ntmps41
  go_wp2_with fail
  go_loopw [12, 0] (fun i b wr => ∃ j A' c', j ≤ m ∧ i = .int .i64 ((j : Nat) : Int) ∧ b = .slice A' (n + j * s) c' ∧ Gb wr base A' (n + j * s) c' (xs ++ (zs.take j).flatMap (be s)) ∧ Gr w A wr A') (fun i _ _ => (m - (match i with | .int _ z => z.toNat | _ => 0)))
  case atStart => exact ⟨0, A, c, by omega, rfl, by rw [Nat.zero_mul]; rfl, by rw [Nat.zero_mul]; simpa using HG.out, Gr.refl _ _⟩
  case round =>
    obtain ⟨j, A1, c1, hjm, rfl, rfl, hg, hgr⟩ := hrel
    have HG1 := Lib.hid hg
    have HR1 := Lib.hid hgr
    clear hg hgr
    by_cases hj : j < m
    · have e1 : (j : Int) < (m : Int) := by omega
      obtain ⟨z, hz⟩ : ∃ z, zs[j]? = some z := ⟨_, List.getElem?_eq_getElem (by have := HZ.out.1; omega)⟩
      rcases HZ.out.2 with he3 | ⟨g, off, rfl, hg, hcl⟩
      · omega
      have d0 := (HR1.out.cell (p := ⟨g, off + j, none⟩) hg (HA.out.resolve_left (by omega))).trans (hcl j z hz)
      obtain ⟨v, rfl⟩ : ∃ v : Nat, z = (v : Int) := ⟨z.toNat, (Int.toNat_of_nonneg (HP.out z (List.mem_of_getElem? hz))).symm⟩
      have HT := Lib.hid hz
      have HGl := Lib.hid hg
      have hjs : j * s ≤ 32768 := Nat.mul_le_mul (by omega : j ≤ 4096) hs8
      clear hcl hz hg
      obtain ⟨N, hN⟩ : ∃ N, N = n + j * s := ⟨_, rfl⟩
      rw [← hN] at HG1
      rw [← hN]
      have HN := Lib.hid hN
      have hN2 : N ≤ 2147483648 := by omega
      clear hN hjs
      go_wp2_with fail
      go_loopw [17, 0] (fun i b wq => ∃ t A' c', t ≤ s ∧ i = .int .i64 ((t : Nat) : Int) ∧ b = .slice A' (N + t) c' ∧ Gb wq base A' (N + t) c' (xs ++ (zs.take j).flatMap (be s) ++ (be s (v : Int)).take t) ∧ Gr w A wq A') (fun i _ _ => (s - (match i with | .int _ z => z.toNat | _ => 0)))
      case atStart => exact ⟨0, A1, c1, by omega, rfl, rfl, by simpa using HG1.out, HR1.out⟩
      case round =>
        obtain ⟨t, A2, c2, hts, rfl, rfl, hg, hgr⟩ := hrel
        have HG2 := Lib.hid hg
        have HR2 := Lib.hid hgr
        clear hg hgr
        by_cases ht : t < s
        · have k1 : (t : Int) < (s : Int) := by omega
          obtain ⟨y, hy⟩ : ∃ y, y = by8 s v t := ⟨_, rfl⟩
          have e8 : (v : Int) / 2 ^ (8 * (s - 1 - t)) % 256 = (y : Int) := by
            rw [hy]; unfold by8; exact (Int.toNat_of_nonneg (Int.emod_nonneg _ (by decide))).symm
          have HY := Lib.hid hy
          have HT2 := Lib.hid (be_take (v : Int) ht)
          have hG' := HG2.out.alloc (.cells #[.int .u8 (y : Int)] 5)
          have hR' := HR2.out.alloc (.cells #[.int .u8 (y : Int)] 5)
          have hc := cell_new wr (.int .u8 (y : Int)) 5
          have hbs : base ≤ (wr.alloc (.cells #[.int .u8 (y : Int)] 5)).heap.size := Nat.le_trans HBa.out hR'.1.size
          have hnt : N + t ≤ 1099511627776 := by omega
          clear hy
          go_wp2_with (at_builtin; refine wpList_app_g _ rfl (.tmp 20) (.tmp 29) rfl rfl hG' rfl hc hnt hR' hbs ?_; intro A7 c7 w7 hG7 hR7)
          exact ⟨⟨t + 1, A7, c7, by omega, rfl, rfl, by rw [HT2.out, ← HY.out, ← List.append_assoc]; exact hG7, hR7⟩, by show s - ((t : Int) + 1).toNat < s - (t : Int).toNat; omega⟩
        · have k1 : ((t : Int) < (s : Int)) = False := by simp only [eq_iff_iff, iff_false]; omega
          have hts2 : t = s := by omega
          have hE : N + t = n + (j + 1) * s := by rw [HN.out, hts2, Nat.succ_mul]; omega
          have hG3 := Lib.hid (be_row HT.out (by rw [hts2]; exact (be_length s v).symm) (hE ▸ HG2.out))
          have HE := Lib.hid hE
          clear hts2 hE
          go_wp2_with fail
          exact ⟨⟨j + 1, A2, c2, by omega, rfl, by rw [HE.out], hG3.out, HR2.out⟩, by show m - ((j : Int) + 1).toNat < m - (j : Int).toNat; omega⟩
    · have e1' : ((j : Int) < (m : Int)) = False := by simp only [eq_iff_iff, iff_false]; omega
      have hjm2 : j = m := by omega
      subst hjm2
      have HG4 := Lib.hid (show Gb wr base A1 (n + j * s) c1 (xs ++ zs.flatMap (be s)) by
        have := HG1.out
        rwa [List.take_of_length_le (by have := HZ.out.1; omega)] at this)
      clear HZ HA
      go_wp2_with fail
      go_ret
      exact ⟨A1, c1, rfl, HG4.out, HR1.out⟩
end Go.Proofs.YthipdagebijbiaaGreatDoor.Wi
namespace Go.Proofs.YthipdagebijbiaaGreatDoor.Wi
open Go.RowKit
set_option linter.unusedVariables false
set_option maxRecDepth 100000
theorem zero_cells (k : Nat) : (Builtin.zeroCells #[.int .u8 0] k).toList = bs (List.replicate k 0) := by
  apply List.ext_getElem
  · simp [Builtin.zeroCells, bs]
  · intro i h1 h2
    simp [Builtin.zeroCells, bs, Nat.mod_one]
theorem bs_length (xs : List Nat) : (bs xs).length = xs.length := by simp [bs]
theorem run_app_zeros {w : World} {base n c k : Nat} {A : Option Addr} {xs : List Nat} (hown : Gb w base A n c xs) (hk : k ≤ 1048576) (hn : n ≤ 1099511627776) (hbase : base ≤ w.heap.size) :
    ∃ A' c' w', (Builtin.append_ #[23, 3] 23 #[.slice A n c, .int .i64 (k : Int)]).run Tryz.prog w = .ok (.slice A' (n + k) c') w' ∧ Gb w' base A' (n + k) c' (xs ++ List.replicate k 0) ∧ Gr w A w' A' := by
  obtain ⟨i0, hi, hz0, hz1, hz2⟩ := info_parts Tryz.info5'
  have ht := Tryz.underlying23
  have htn : Tryz.prog.underlying 3 = some (.int .i64) := Tryz.underlying3
  have hlen : (bs xs ++ bs (List.replicate k 0)).length = (n + k) * 1 := by rw [List.length_append, bs_length, bs_length, hown.1, List.length_replicate, Nat.mul_one]
  have hncap : n ≤ c := by
    rcases hown.2.2 with ⟨e, h0⟩ | ⟨g, cap, cur, e, hbg, hg, hnc, hcm, hcs, htake⟩
    · cases e; exact Nat.le_refl _
    · cases e; exact hnc
  by_cases hk0 : k = 0
  · subst hk0
    have hw0 : IntKind.i64.wrap 0 = 0 := by decide
    refine ⟨A, c, w, ?_, by simpa using hown, Gr.refl _ _⟩
    cases A <;> simp [Builtin.append_, run_underlying ht, run_underlying htn, sizeOf, typeInfo, hi, asInt, asIntOf, hz1, hw0, hncap, storeCells]
  have hgrow : ∀ (old : Nat), old < n + k →
      (w.drew.alloc (.cells ((bs xs).toArray ++ Builtin.zeroCells #[.int .u8 0] k ++ Builtin.zeroCells #[.int .u8 0] (grownCap w (n + k) old 5 - (n + k))) 5)).ownsRow base 5 1
        (.slice (some ⟨w.heap.size, 0, none⟩) (n + k) (grownCap w (n + k) old 5)) (n + k) (bs (xs ++ List.replicate k 0)) ∧
      ∀ row, w.grownBy (w.drew.alloc (.cells ((bs xs).toArray ++ Builtin.zeroCells #[.int .u8 0] k ++ Builtin.zeroCells #[.int .u8 0] (grownCap w (n + k) old 5 - (n + k))) 5)) row := by
    intro old ho
    have hge := grownCap_ge w (n + k) old 5
    have hcm : grownCap w (n + k) old 5 ≤ maxLen := grownCap_le_maxLen w (n + k) old 5 (by unfold maxLen; omega)
    refine ⟨⟨by rw [bs_append]; exact hlen, .inr ⟨w.heap.size, _, _, rfl, hbase, heap_alloc_new w.drew _, hge, hcm, ?_, ?_⟩⟩, fun row => ⟨rfl, rfl, rfl, by simp, fun q hq _ => heap_alloc_old w.drew _ hq⟩⟩
    · simp only [Array.size_append, List.size_toArray, size_zeroCells, bs_length, hown.1, List.size_toArray, List.length_cons, List.length_nil]
      omega
    · simp only [Array.toList_append, zero_cells]
      rw [bs_append, ← hlen]
      exact List.take_left
  rcases hown.2.2 with ⟨e, h0⟩ | ⟨g, cap, cur, e, hbg, hg, hnc, hcm, hcs, htake⟩
  · cases e
    have hx : xs = [] := List.eq_nil_of_length_eq_zero hown.1
    subst hx
    have hr := Lib.run_append_grow_zeros (P := Tryz.prog) w 23 3 23 5 i0 (.int .u8 0) .i64 .i64 ht htn hi hz0 none 0 0 [] (by simp [Builtin.firstCells]) k (by omega) (by omega) (by omega) (by omega) (by rw [hz2]; omega) (growslice_fits (by omega) (by rw [hz2]; omega))
    obtain ⟨g1, g2⟩ := hgrow 0 (by omega)
    exact ⟨_, _, _, hr, ⟨by simp, g1⟩, g2 _, .inr ⟨_, rfl, Nat.le_refl _⟩⟩
  · cases e
    by_cases hroom : n + k ≤ c
    · have hfit : n * 1 + (bs (List.replicate k 0)).length ≤ cur.size := by rw [bs_length, List.length_replicate, hcs]; omega
      have hst := run_storeCells_at Tryz.prog g (n * 1) 5 (bs (List.replicate k 0)) 0 cur w hg (by simpa using hfit) (bs_one _)
      simp only [Nat.add_zero, Nat.mul_one, List.append_assoc] at hst
      have h63 : ¬ ((k : Int) < 0) := by omega
      have hw : IntKind.i64.wrap (k : Int) = k := by rw [IntKind.wrap_i64]; omega
      have h48 : ¬ (281474976710656 < (k : Int)) := by omega
      refine ⟨some ⟨g, 0, none⟩, c, w.setRow g (cur.toList.take (n * 1) ++ bs (List.replicate k 0) ++ cur.toList.drop (n * 1 + (bs (List.replicate k 0)).length)).toArray, ?_, ⟨by simp [hown.1], by rw [bs_append]; exact hlen, .inr ⟨g, c, _, rfl, hbg, setRow_heap w g cur _ 5 _ hg, hroom, hcm, ?_, ?_⟩⟩, ⟨rfl, rfl, rfl, by simp, fun k _ hk => setRow_other w g k _ (fun e => hk (by simp [blk, e]))⟩, .inl rfl⟩
      · have hne : ¬ (k * 1 = 0) := by omega
        have hzc := zero_cells k
        simp [Builtin.append_, run_underlying ht, run_underlying htn, sizeOf, typeInfo, zeroValue, hi, hz0, hz1, hz2, asInt, asIntOf, hw, h63, h48, hk0, hroom, Addr.add_lit, hzc, Value.cells]
        rw [hst]
        rfl
      · simp only [List.size_toArray, List.length_append, List.length_take, List.length_drop, Array.length_toList]
        omega
      · rw [htake, ← hlen, bs_append]
        exact List.take_left
    · have holds : ∀ j u, (bs xs)[j]? = some u → w.drew.cell? ((⟨g, 0, none⟩ : Addr).add j) = some u := hown.2.cells (g := g) rfl
      have hf := run_firstCells_some (P := Tryz.prog) w.drew i0.size n ⟨g, 0, none⟩ n c (bs xs) (by rw [bs_length, hown.1, hz1, Nat.mul_one]) holds
      have hr := Lib.run_append_grow_zeros (P := Tryz.prog) w 23 3 23 5 i0 (.int .u8 0) .i64 .i64 ht htn hi hz0 (some ⟨g, 0, none⟩) n c (bs xs) hf k (by omega) (by omega) (by omega) (by omega) (by rw [hz2]; omega) (growslice_fits (by omega) (by rw [hz2]; omega))
      obtain ⟨g1, g2⟩ := hgrow c (by omega)
      exact ⟨_, _, _, hr, ⟨by simp [hown.1], g1⟩, g2 _, .inr ⟨_, rfl, Nat.le_refl _⟩⟩
/-- a row behind it -/
theorem wpList_app_row_g (w : World) {ops : Array Oper} {rest : List Oper} {o : Oper} {a : Act} {Q : Exit → Act → World → Prop} (hgd : o.guard = none) (s x : Operand)
    (ho : o.op = .call { callee := .builtin .append, args := #[s, x], argTypes := #[23, 23] }) {base n c B m c2 : Nat} {A A0 A2 : Option Addr} {xs ys : List Nat} {w0 : World}
    (hs : a.eval s = .slice A n c) (hown : Gb w base A n c xs) (hx : a.eval x = .slice A2 m c2) (hr : Nb w B A2 m c2 ys)
    (hn : n + m ≤ 1099511627776) (hb : Gr w0 A0 w A) (hbase : base ≤ w.heap.size)
    (h : ∀ A' c' w', Gb w' base A' (n + m) c' (xs ++ ys) → Gr w0 A0 w' A' → wpList Tryz.prog ops Q rest (a.put o.dst (.slice A' (n + m) c')) w') : wpList Tryz.prog ops Q (o :: rest) a w := by
  obtain ⟨i0, hi, hz0, hz1, hz2⟩ := info_parts Tryz.info5'
  rcases A2 with _ | ad
  · have hm : m = 0 := by
      rcases Nat.eq_zero_or_pos m with h0 | h0
      · exact h0
      · obtain ⟨b, off, e, _⟩ := hr.cell h0
        cases e
    subst hm
    have hy : ys = [] := List.eq_nil_of_length_eq_zero hr.len
    subst hy
    refine wpList_plain hgd fun K hK => ?_
    have hrun := run_app_nil (P := Tryz.prog) w base 23 o.type 5 i0 1 Tryz.underlying23 hi (.slice A n c) n (bs xs) hown.2 c2
    unfold Oper.wp
    simp [execOp, ho, resolve, invoke, builtin, hs, hx, hrun, Result.andThen]
    exact hK _ _ (h A c w (by simpa using hown) hb)
  · refine wpList_append_own_at w hgd s x 23 ho base 5 i0 (.int .u8 0) 1 1 Tryz.underlying23 hi hz0 hz1 hz2 rfl (by decide) _ n (bs xs) hs hown.2 ad m c2 (bs ys) hx (by simp [bs, hr.len]) ?_ (bs_one ys) (by unfold maxLen; omega) (by omega) hbase ?_
    · exact Nb.olds hr
    · intro v' w' hown' hgrow _ hat
      obtain ⟨A', c', rfl⟩ := own_shape hown'
      rw [own_blk] at hgrow
      rw [own_blk, own_blk] at hat
      refine h A' c' w' ⟨by simp [hown.1, hr.len], by rw [bs_append]; exact hown'⟩ (hb.trans ⟨hgrow, hat.imp id fun e => ⟨_, e, Nat.le_refl _⟩⟩)
theorem Gb.own {w : World} {base n c : Nat} {A : Option Addr} {xs : List Nat} (h : Gb w base A n c xs) : ∀ k, blk A = some k → base ≤ k := fun k hk => (h.2.lt k (by rw [own_blk]; exact hk)).1
theorem Nb.gr {w w' : World} {base n c m d : Nat} {A A' B : Option Addr} {xs ys : List Nat} (h : Nb w base B m d ys) (hG : Gb w base A n c xs) (hr : Gr w A w' A') (hb : base ≤ w.heap.size) : Nb w' base B m d ys :=
  h.below (hr.below (Below.refl base w) hb hG.own)
/-- some bytes with their number, filled up -/
def textB (ys : List Nat) : List Nat := be 4 (ys.length : Nat) ++ ys ++ List.replicate (fld ys.length - ys.length) 0
theorem textB_length (ys : List Nat) : (textB ys).length = 4 + fld ys.length := by
  have := fld_lim ys.length
  simp [textB, be_length]; omega
theorem text_any {w : World} {base : Nat} {A : Option Addr} {n c : Nat} {xs : List Nat} {B : Option Addr} {m d : Nat} {ys : List Nat} (h : Gb w base A n c xs) (hb : base ≤ w.heap.size) (hy : Nb w base B m d ys) (hm : m ≤ 1048576) (hn : n ≤ 536870912) :
    Calls Tryz.prog 76 #[.slice A n c, .slice B m d] w fun e w' => ∃ A' c', e = .returned (.slice A' (n + (4 + fld m)) c') ∧ Gb w' base A' (n + (4 + fld m)) c' (xs ++ textB ys) ∧ Gr w A w' A' := by
  have HB := Lib.hid hb
  have HY := Lib.hid hy
  have HG0 := Lib.hid h
  have hG1 := Lib.hid (h.alloc (.cells #[.int .i64 (m : Int)] 3))
  have hR1 := Lib.hid ((Gr.refl w A).alloc (.cells #[.int .i64 (m : Int)] 3))
  have hZ := Lib.hid (show Zs (w.alloc (.cells #[.int .i64 (m : Int)] 3)) .i64 (some ⟨w.heap.size, 0, none⟩) 1 [(m : Int)] from
    ⟨rfl, .inr ⟨w.heap.size, 0, rfl, by simp, fun i z hi => by
      match i, hi with
      | 0, hi => simp at hi; subst hi; exact cell_new w _ 3⟩⟩)
  have hAB := Lib.hid (show 1 = 0 ∨ blk A ≠ blk (some ⟨w.heap.size, 0, none⟩) from .inr fun e => by
    have := (h.2.lt w.heap.size (by rw [own_blk]; exact e)).2
    omega)
  have hbs1 := Lib.hid (show base ≤ (w.alloc (.cells #[.int .i64 (m : Int)] 3)).heap.size from Nat.le_trans hb (by simp))
  have HP := Lib.hid (put_any 4 hG1.out hbs1.out (by omega) (by omega) hZ.out hAB.out (by omega) (by omega : n ≤ 1073741824) (d := 1))
  have HFl := Lib.hid (fun w => filled_any (n := m) (by omega) w)
  have HL := Lib.hid hy.len
  clear h hb hy
  go_enter Tryz.func76, Tryz.ntmps76
  go_wp2_with fail
  refine HP.out.mono ?_
  rintro e w1 ⟨A1, c1, rfl, hg1, hr1⟩
  have hr1' := hR1.out.trans hr1
  have hy1 := HY.out.gr HG0.out hr1' HB.out
  have hb1 : base ≤ w1.heap.size := Nat.le_trans HB.out hr1'.1.size
  have hnm : n + 1 * 4 + m ≤ 1099511627776 := by omega
  clear hr1
  go_wp2_with (at_builtin; refine wpList_app_row_g _ rfl (.tmp 9) (.tmp 10) rfl rfl hg1 rfl hy1 hnm hr1' hb1 ?_; intro A2 c2 w2 hg2 hr2)
  refine (HFl.out _).mono ?_
  rintro e w3 ⟨rfl, rfl⟩
  have l1 := fld_lim m
  have hx : wrap64 ((fld m : Nat) - (m : Int)) = ((fld m - m : Nat) : Int) := by unfold wrap64; omega
  have hg2' : Gb w3 base A2 (n + 4 + m) c2 _ := hg2
  have hb3 : base ≤ w3.heap.size := Nat.le_trans HB.out hr2.1.size
  obtain ⟨A4, c4, w4, hrun, hg4, hr4⟩ := run_app_zeros hg2' (k := fld m - m) (by omega) (by omega) hb3
  have HG4 := Lib.hid hg4
  have HR4 := Lib.hid (hr2.trans hr4)
  have hE := Lib.hid (show n + 4 + m + (fld m - m) = n + (4 + fld m) by omega)
  have hTx := Lib.hid (show xs ++ List.flatMap (be 4) [(m : Int)] ++ ys ++ List.replicate (fld m - m) 0 = xs ++ textB ys by
    unfold textB; rw [HL.out]; simp)
  clear hg2 hg2' hr2 hr4 hg4 hb3 hb1 hnm hy1 hg1 hr1'
  obtain ⟨D, hD⟩ : ∃ D, D = fld m - m := ⟨_, rfl⟩
  rw [← hD] at hx hrun hE HG4 hTx
  clear hD l1
  go_wp2_with (at_builtin; refine Lib.wpList_append_run _ rfl (.tmp 12) (.tmp 18) 23 3 rfl _ _ rfl (congrArg (Value.int .i64) hx) _ _ hrun ?_)
  go_ret
  exact ⟨A4, c4, by rw [← hE.out]; rfl, by rw [← hE.out, ← hTx.out]; exact HG4.out, HR4.out⟩
namespace Go.Proofs.YthipdagebijbiaaGreatDoor.Wi
open Go.RowKit
set_option linter.unusedVariables false
set_option maxRecDepth 100000
/-- a field's first byte -/
def fir (x : El) : Int := x.op + (if x.resp then 128 else 0) + (if x.bad then 64 else 0)
/-- a field's bytes -/
def extB (x : El) : List Nat := be 1 (fir x) ++ be 1 0 ++ be 2 (szf x : Nat) ++ be 2 x.as_ ++ be 2 0 ++ be 4 (x.ts : Nat) ++ be 4 (x.fs : Nat) ++ textB x.xs ++ textB x.ys
theorem zs_new (w : World) (k : IntKind) (zs : List Int) (t : TypeId) (m : Nat) (h : zs.length = m) : Zs (w.alloc (.cells (zs.map (Value.int k)).toArray t)) k (some ⟨w.heap.size, 0, none⟩) m zs := by
  refine ⟨h, .inr ⟨w.heap.size, 0, rfl, by simp, fun i z hi => ?_⟩⟩
  rw [cell_of_row _ _ (0 + i) _ t (0, 0) (heap_alloc_new w _)]
  simp [hi]
theorem own_ne {w : World} {base n c : Nat} {A : Option Addr} {xs : List Nat} (h : Gb w base A n c xs) {g : Nat} (hg : w.heap.size ≤ g) : blk A ≠ blk (some ⟨g, 0, none⟩) := fun e => by
  have := (h.2.lt g (by rw [own_blk]; exact e)).2
  omega
theorem or1 : ∀ n : Nat, n < 64 → bits BinOp.or IntKind.i64 (n : Int) 128 = n + 128 := by decide +kernel
theorem or2 : ∀ n : Nat, n < 64 → bits BinOp.or IntKind.i64 (n : Int) 64 = n + 64 := by decide +kernel
theorem or3 : ∀ n : Nat, n < 64 → bits BinOp.or IntKind.i64 ((n : Int) + 128) 64 = n + 128 + 64 := by decide +kernel
theorem Gr.apart {w w' : World} {A A' : Option Addr} (h : Gr w A w' A') {g : Nat} (hA : blk A ≠ some g) (hg : g < w.heap.size) : blk A' ≠ some g := by
  rcases h.2 with e | ⟨k, e, hk⟩
  · rw [e]; exact hA
  · rw [e]; intro e2; cases e2; omega
theorem EBox.gr {w w' : World} {A A' : Option Addr} {g : Nat} {x : El} (h : EBox w g x) (hr : Gr w A w' A') (hA : blk A ≠ some g) : EBox w' g x := (hr.1.block g h.lt fun e => hA e.symm).trans h
theorem Gr.of_below {w w1 w' : World} {A A' : Option Addr} (b : RowKit.Below w.heap.size w w1) (h : Gr w1 A w' A') : Gr w A w' A' :=
  Gr.trans ⟨⟨b.os, b.tape, b.output, b.size, fun q hq _ => b.block q hq⟩, .inl rfl⟩ h
theorem Gb.drew {w : World} {base n c : Nat} {A : Option Addr} {xs : List Nat} (h : Gb w base A n c xs) (k : Nat) : Gb (w.drewN k) base A n c xs := h.below (below_drewN' (Below.refl _ _) k)
theorem ft_step {w : World} {base : Nat} {A : Option Addr} {n c : Nat} {xs : List Nat} {B : Option Addr} {m d : Nat} {ys : List Nat} (h : Gb w base A n c xs) (hb : base ≤ w.heap.size) (hy : Nb w base B m d ys) (hm : m ≤ 1048576) (hn : n ≤ 536870912)
    (W : World) (b : RowKit.Below w.heap.size w W) :
    Calls Tryz.prog 76 #[.slice A n c, .slice B m d] W fun e w' => ∃ A' c', e = .returned (.slice A' (n + (4 + fld m)) c') ∧ Gb w' base A' (n + (4 + fld m)) c' (xs ++ textB ys) ∧ Gr w A w' A' := by
  refine (text_any (h.below b) (Nat.le_trans hb b.size) (hy.below (b.mono hb)) hm hn).mono ?_
  rintro e w' ⟨A', c', rfl, hg, hr⟩
  exact ⟨A', c', rfl, hg, Gr.of_below b hr⟩
set_option maxHeartbeats 2000000 in
theorem fp_any {w : World} {base : Nat} {A : Option Addr} {n c : Nat} {xs : List Nat} (x : El) (h : Gb w base A n c xs) (hb : base ≤ w.heap.size) (hx : Nb w base x.A x.n x.c x.xs) (hy : Nb w base x.B x.m x.e x.ys) (ho : 0 ≤ x.op ∧ x.op < 64)
    (hxm : x.n ≤ 1048576) (hym : x.m ≤ 1048576) (hn : n ≤ 134217728) :
    Calls Tryz.prog 42 #[.slice A n c, elV x] w fun e w' => ∃ A' c', e = .returned (.slice A' (n + szf x) c') ∧ Gb w' base A' (n + szf x) c' (xs ++ extB x) ∧ Gr w A w' A' := by
  have hop : ∃ o : Nat, x.op = (o : Int) ∧ o < 64 := ⟨x.op.toNat, by omega, by omega⟩
  obtain ⟨o, hoe, hol⟩ := hop
  have b1 := Lib.hid (hoe ▸ or1 o hol : bits BinOp.or IntKind.i64 x.op 128 = x.op + 128)
  have b2 := Lib.hid (hoe ▸ or2 o hol : bits BinOp.or IntKind.i64 x.op 64 = x.op + 64)
  have b3 := Lib.hid (hoe ▸ or3 o hol : bits BinOp.or IntKind.i64 (x.op + 128) 64 = x.op + 128 + 64)
  obtain ⟨w1, hw1⟩ : ∃ w1, w1 = w.alloc (.cells #[.int .i64 x.op, .bool x.resp, .bool x.bad, .int .i64 x.as_, .int .u32 (x.ts : Int), .int .u32 (x.fs : Int), .slice x.A x.n x.c, .slice x.B x.m x.e] 45) := ⟨_, rfl⟩
  have hsz : w1.heap.size = w.heap.size + 1 := by rw [hw1]; simp
  have HSz := Lib.hid hsz
  have x1 : EBox w1 w.heap.size x := by rw [hw1]; exact heap_alloc_new w _
  have HG1 := Lib.hid (show Gb w1 base A n c xs by rw [hw1]; exact h.alloc _)
  have HR1 := Lib.hid (show Gr w A w1 A by rw [hw1]; exact (Gr.refl w A).alloc _)
  have hne : blk A ≠ some w.heap.size := own_ne h (Nat.le_refl _)
  have HNe := Lib.hid hne
  have HX1 := Lib.hid x1
  have HB0 := Lib.hid hb
  have HB1 := Lib.hid (show base ≤ w1.heap.size by omega)
  have HPF := Lib.hid (show ∀ f, f = fir x → Calls Tryz.prog 39 #[.slice A n c, .int .i64 1, .slice (some ⟨w.heap.size + 1, 0, none⟩) 2 2] (w1.alloc (.cells #[.int .i64 f, .int .i64 0] 3)) fun e w' => ∃ A' c', e = .returned (.slice A' (n + 2) c') ∧ Gb w' base A' (n + 2) c' (xs ++ (be 1 (fir x) ++ be 1 0)) ∧ Gr w1 A w' A' by
    intro f hf
    subst hf
    rw [← HSz.out]
    refine (put_any 1 (HG1.out.alloc _) (Nat.le_trans HB1.out (by simp)) (by omega) (by omega) (zs_new w1 .i64 [fir x, 0] 3 2 rfl) (.inr (own_ne HG1.out (Nat.le_refl _))) (by omega) (by omega) (d := 2)).mono ?_
    rintro e w' ⟨A', c', rfl, hg, hr⟩
    exact ⟨A', c', rfl, by simpa using hg, ((Gr.refl w1 A).alloc _).trans hr⟩)
  have HS := Lib.hid (fun w => szf_any x (by omega) (by omega) w)
  have HX := Lib.hid hx
  have HY := Lib.hid hy
  have HH := Lib.hid h
  have hfir : fir x = x.op + (if x.resp then 128 else 0) + (if x.bad then 64 else 0) := rfl
  have HFi := Lib.hid hfir
  clear h hx hy hne x1 hb hfir hoe
  cases hr : x.resp <;> cases hbd : x.bad
  all_goals
    have Hr := Lib.hid hr
    have Hbd := Lib.hid hbd
    go_enter Tryz.func42, Tryz.ntmps42
    go_wp2_with fail
    rw [hr, hbd] at hw1
    rw [← hw1]
    clear hw1 hr hbd
    refine (HPF.out _ ?_).mono ?_
    · rw [HFi.out, Hr.out, Hbd.out]
      first
      | (simp; done)
      | (rw [b1.out, b3.out]; rfl)
      | (rw [b1.out]; simp; done)
      | (rw [b2.out]; simp; done)
    rintro e w2 ⟨A2, k2, rfl, hg2, hr2⟩
    have HX2 := Lib.hid (HX1.out.gr hr2 HNe.out)
    have HNe2 := Lib.hid (hr2.apart HNe.out HX1.out.lt)
    have HR2 := Lib.hid (HR1.out.trans hr2)
    have HB2 := Lib.hid (Nat.le_trans HB1.out hr2.1.size)
    have HG2 := Lib.hid hg2
    have HQ2 := Lib.hid (show ∀ Wk, RowKit.Below w2.heap.size w2 Wk → Calls Tryz.prog 39 #[.slice A2 (n + 2) k2, .int .i64 2, .slice (some ⟨Wk.heap.size, 0, none⟩) 3 3] (Wk.alloc (.cells #[.int .i64 (szf x : Nat), .int .i64 x.as_, .int .i64 0] 3)) fun e w' => ∃ A' c', e = .returned (.slice A' (n + 2 + 6) c') ∧ Gb w' base A' (n + 2 + 6) c' (xs ++ (be 1 (fir x) ++ be 1 0) ++ (be 2 (szf x : Nat) ++ be 2 x.as_ ++ be 2 0)) ∧ Gr w2 A2 w' A' by
      intro Wk bk
      have hgk := HG2.out.below bk
      refine (put_any 2 (hgk.alloc _) (Nat.le_trans HB2.out (Nat.le_trans bk.size (by simp))) (by omega) (by omega) (zs_new Wk .i64 [(szf x : Nat), x.as_, 0] 3 3 rfl) (.inr (own_ne hgk (Nat.le_refl _))) (by omega) (by omega) (d := 3)).mono ?_
      rintro e w' ⟨A', c', rfl, hg, hr⟩
      exact ⟨A', c', rfl, by simpa using hg, Gr.of_below bk (((Gr.refl Wk A2).alloc _).trans hr)⟩)
    obtain ⟨d0, d1, d2, d3, d4, d5, d6, d7⟩ := HX2.out.cells
    have HD := Lib.hid (show ∀ W : World, RowKit.Below w2.heap.size w2 W → EBox W w.heap.size x from fun W b => HX2.out.below b)
    clear hg2 hr2
    go_wp2_with fail
    go_region_held3 (fun w' => w'.cell? ⟨w.heap.size, 0, none⟩ = some (.int .i64 x.op) ∧ w'.cell? ⟨w.heap.size, 1, none⟩ = some (.bool x.resp) ∧ w'.cell? ⟨w.heap.size, 2, none⟩ = some (.bool x.bad) ∧ w'.cell? ⟨w.heap.size, 3, none⟩ = some (.int .i64 x.as_) ∧ w'.cell? ⟨w.heap.size, 4, none⟩ = some (.int .u32 (x.ts : Int)) ∧ w'.cell? ⟨w.heap.size, 5, none⟩ = some (.int .u32 (x.fs : Int)) ∧ w'.cell? ⟨w.heap.size, 6, none⟩ = some (.slice x.A x.n x.c) ∧ w'.cell? ⟨w.heap.size, 7, none⟩ = some (.slice x.B x.m x.e))
      (first | exact ⟨d0, d1, d2, d3, d4, d5, d6, d7⟩ | exact (HD.out _ hb3.out).cells | exact (HD.out _ (hb3.out.alloc hb3.out.size _)).cells | exact hx4.out.cells)
      (first
        | (go_at_call 75; (with_reducible refine (HS.out _).mono ?_); rintro e w3 ⟨rfl, b3⟩
           have hb3 := Lib.hid (show RowKit.Below w2.heap.size w2 w3 by first | exact b3 | exact (below_drewN' (Below.refl _ _) _).trans b3)
           clear b3)
        | (go_at_call 39; (with_reducible refine (HQ2.out _ hb3.out).mono ?_); rintro e w4 ⟨A4, k4, rfl, hg4, hr4⟩
           have hx4 := Lib.hid (HX2.out.gr hr4 HNe2.out)
           have HG4 := Lib.hid hg4
           have HR4 := Lib.hid hr4
           clear hg4 hr4))
    have HNe4 := Lib.hid (HR4.out.apart HNe2.out HX2.out.lt)
    have HB4 := Lib.hid (Nat.le_trans HB2.out HR4.out.1.size)
    have HR4' := Lib.hid (HR2.out.trans HR4.out)
    have HQ4 := Lib.hid (show Calls Tryz.prog 40 #[.slice A4 (n + 2 + 6) k4, .int .i64 4, .slice (some ⟨w4.heap.size, 0, none⟩) 2 2] (w4.alloc (.cells #[.int .u32 (x.ts : Int), .int .u32 (x.fs : Int)] 22)) fun e w' => ∃ A' c', e = .returned (.slice A' (n + 2 + 6 + 8) c') ∧ Gb w' base A' (n + 2 + 6 + 8) c' (xs ++ (be 1 (fir x) ++ be 1 0) ++ (be 2 (szf x : Nat) ++ be 2 x.as_ ++ be 2 0) ++ (be 4 (x.ts : Nat) ++ be 4 (x.fs : Nat))) ∧ Gr w4 A4 w' A' by
      refine (put20_any 4 (HG4.out.alloc _) (Nat.le_trans HB4.out (by simp)) (by omega) (by omega) (zs_new w4 .u32 [(x.ts : Int), (x.fs : Int)] 22 2 rfl) (.inr (own_ne HG4.out (Nat.le_refl _))) (by intro z hz; simp at hz; omega) (by omega) (by omega) (d := 2)).mono ?_
      rintro e w' ⟨A', c', rfl, hg, hr⟩
      exact ⟨A', c', rfl, by simpa using hg, ((Gr.refl w4 A4).alloc _).trans hr⟩)
    obtain ⟨f0, f1, f2, f3, f4, f5, f6, f7⟩ := hx4.out.cells
    clear d0 d1 d2 d3 d4 d5 d6 d7
    go_wp2_with fail
    refine HQ4.out.mono ?_
    rintro e w5 ⟨A5, k5, rfl, hg5, hr5⟩
    have hx5 := Lib.hid (hx4.out.gr hr5 HNe4.out)
    have HNe5 := Lib.hid (hr5.apart HNe4.out hx4.out.lt)
    have HB5 := Lib.hid (Nat.le_trans HB4.out hr5.1.size)
    have HR5 := Lib.hid (HR4'.out.trans hr5)
    have HG5 := Lib.hid hg5
    clear f0 f1 f2 f3 f4 f5 f6 f7 hg5 hr5
    obtain ⟨d0, d1, d2, d3, d4, d5, d6, d7⟩ := hx5.out.cells
    have HXa := Lib.hid (HX.out.gr HH.out HR5.out HB0.out)
    have HYa := Lib.hid (HY.out.gr HH.out HR5.out HB0.out)
    have HT1 := Lib.hid (fun W b => ft_step HG5.out HB5.out HXa.out hxm (by omega : n + 2 + 6 + 8 ≤ 536870912) W b)
    go_wp2_with fail
    go_region_held3 (fun w' => w'.cell? ⟨w.heap.size, 6, none⟩ = some (.slice x.A x.n x.c) ∧ w'.cell? ⟨w.heap.size, 7, none⟩ = some (.slice x.B x.m x.e))
      (first | exact ⟨d6, d7⟩ | exact hx6.out.cells.2.2.2.2.2.2 | exact hx7.out.cells.2.2.2.2.2.2)
      (first
        | (go_at_call 76; (with_reducible refine (HT1.out _ ?_).mono ?_); exact (Below.refl _ _).drew; rintro e w6 ⟨A6, k6, rfl, hg6, hr6⟩
           have hx6 := Lib.hid (hx5.out.gr hr6 HNe5.out)
           have HG6 := Lib.hid hg6
           have HR6 := Lib.hid hr6
           have HNe6 := Lib.hid (hr6.apart HNe5.out hx5.out.lt)
           have HT2 := Lib.hid (fun W b => ft_step HG6.out (Nat.le_trans HB5.out hr6.1.size) (HYa.out.gr HG5.out hr6 HB5.out) hym (by have := fld_lim x.n; omega) W b)
           clear hg6 hr6)
        | (go_at_call 76; (with_reducible refine (HT2.out _ ?_).mono ?_); first | exact Below.refl _ _ | exact (Below.refl _ _).drew
           rintro e w7 ⟨A7, k7, rfl, hg7, hr7⟩
           have hx7 := Lib.hid (hx6.out.gr hr7 HNe6.out)
           have HG7 := Lib.hid hg7
           have HR7 := Lib.hid ((HR5.out.trans HR6.out).trans hr7)
           clear hg7 hr7))
    have hE := Lib.hid (show n + 2 + 6 + 8 + (4 + fld x.n) + (4 + fld x.m) = n + szf x by unfold szf; omega)
    have hL := Lib.hid (show xs ++ (be 1 (fir x) ++ be 1 0) ++ (be 2 (szf x : Nat) ++ be 2 x.as_ ++ be 2 0) ++ (be 4 (x.ts : Nat) ++ be 4 (x.fs : Nat)) ++ textB x.xs ++ textB x.ys = xs ++ extB x by unfold extB; simp only [List.append_assoc])
    clear d0 d1 d2 d3 d4 d5 d6 d7
    go_wp2_with fail
    go_ret
    exact ⟨A7, k7, by rw [← hE.out]; rfl, by rw [← hE.out, ← hL.out]; exact HG7.out, HR7.out⟩
namespace Go.Proofs.YthipdagebijbiaaGreatDoor.Wi
open Go.RowKit
set_option linter.unusedVariables false
set_option maxRecDepth 100000
/-- a head's first byte -/
def fh (h : Hd) : Int := h.lp * 64 + h.ve * 8 + h.mo
/-- a Mac's bytes -/
def macW (p : Pk) (ms : List Nat) : List Nat := if p.m.has then be 4 (p.m.key : Nat) ++ ms else []
/-- a head's bytes -/
def headW (h : Hd) : List Nat := be 1 (fh h) ++ be 1 h.st ++ be 1 h.po ++ be 1 h.pr ++ be 4 (h.dl : Nat) ++ be 4 (h.di : Nat) ++ be 4 (h.rf : Nat) ++ be 8 (h.re : Nat) ++ be 8 (h.og : Nat) ++ be 8 (h.rc : Nat) ++ be 8 (h.xm : Nat)
/-- a packet's bytes -/
def packW (p : Pk) (l : List El) (ms : List Nat) : List Nat := headW p.h ++ l.flatMap extB ++ macW p ms
theorem head_lim {h : Hd} (q : headB h = true) : 0 ≤ h.lp ∧ h.lp ≤ 3 ∧ h.ve = 4 ∧ 1 ≤ h.mo ∧ h.mo ≤ 5 := by
  unfold headB kindB wi at q
  simp only [Bool.and_eq_true, decide_eq_true_eq] at q
  omega
theorem right_parts {p : Pk} {l : List El} (h : rightB p l = true) : headB p.h = true ∧ macB p.m = true ∧ p.n ≤ 8 ∧ (∀ x ∈ l, fieldB x = true) ∧ szp p l ≤ 8192 := by
  unfold rightB at h
  simp only [Bool.and_eq_true, decide_eq_true_eq, List.all_eq_true] at h
  exact ⟨h.1, h.2.1, h.2.2.1, h.2.2.2.1, h.2.2.2.2⟩
theorem st19 {W w : World} {A : Option Addr} {n c : Nat} {xs : List Nat} (s : Nat) (zs : List Int) (m : Nat) (hm : zs.length = m) (t : TypeId) (h : Gb w W.heap.size A n c xs) (b : RowKit.Below W.heap.size W w) (hs : 0 < s) (hs8 : s ≤ 8) (hm4 : m ≤ 4096) (hn : n ≤ 1073741824) :
    Calls Tryz.prog 39 #[.slice A n c, .int .i64 (s : Nat), .slice (some ⟨w.heap.size, 0, none⟩) m m] (w.alloc (.cells (zs.map (Value.int .i64)).toArray t)) fun e w' => ∃ A' c', e = .returned (.slice A' (n + m * s) c') ∧ Gb w' W.heap.size A' (n + m * s) c' (xs ++ zs.flatMap (be s)) ∧ RowKit.Below W.heap.size W w' := by
  refine (put_any s (h.alloc _) (Nat.le_trans b.size (by simp)) hs hs8 (zs_new w .i64 zs t m hm) (.inr (own_ne h (Nat.le_refl _))) hm4 hn (d := m)).mono ?_
  rintro e w' ⟨A', c', rfl, hg, hr⟩
  exact ⟨A', c', rfl, hg, Gr.below (((Gr.refl w A).alloc _).trans hr) b b.size h.own⟩
theorem st20 {W w : World} {A : Option Addr} {n c : Nat} {xs : List Nat} (s : Nat) (zs : List Int) (m : Nat) (hm : zs.length = m) (t : TypeId) (h : Gb w W.heap.size A n c xs) (b : RowKit.Below W.heap.size W w) (hs : 0 < s) (hs8 : s ≤ 4) (hp : ∀ z ∈ zs, 0 ≤ z) (hm4 : m ≤ 4096) (hn : n ≤ 1073741824) :
    Calls Tryz.prog 40 #[.slice A n c, .int .i64 (s : Nat), .slice (some ⟨w.heap.size, 0, none⟩) m m] (w.alloc (.cells (zs.map (Value.int .u32)).toArray t)) fun e w' => ∃ A' c', e = .returned (.slice A' (n + m * s) c') ∧ Gb w' W.heap.size A' (n + m * s) c' (xs ++ zs.flatMap (be s)) ∧ RowKit.Below W.heap.size W w' := by
  refine (put20_any s (h.alloc _) (Nat.le_trans b.size (by simp)) hs hs8 (zs_new w .u32 zs t m hm) (.inr (own_ne h (Nat.le_refl _))) hp hm4 hn (d := m)).mono ?_
  rintro e w' ⟨A', c', rfl, hg, hr⟩
  exact ⟨A', c', rfl, hg, Gr.below (((Gr.refl w A).alloc _).trans hr) b b.size h.own⟩
theorem st21 {W w : World} {A : Option Addr} {n c : Nat} {xs : List Nat} (s : Nat) (zs : List Int) (m : Nat) (hm : zs.length = m) (t : TypeId) (h : Gb w W.heap.size A n c xs) (b : RowKit.Below W.heap.size W w) (hs : 0 < s) (hs8 : s ≤ 8) (hp : ∀ z ∈ zs, 0 ≤ z) (hm4 : m ≤ 4096) (hn : n ≤ 1073741824) :
    Calls Tryz.prog 41 #[.slice A n c, .int .i64 (s : Nat), .slice (some ⟨w.heap.size, 0, none⟩) m m] (w.alloc (.cells (zs.map (Value.int .u64)).toArray t)) fun e w' => ∃ A' c', e = .returned (.slice A' (n + m * s) c') ∧ Gb w' W.heap.size A' (n + m * s) c' (xs ++ zs.flatMap (be s)) ∧ RowKit.Below W.heap.size W w' := by
  refine (put21_any s (h.alloc _) (Nat.le_trans b.size (by simp)) hs hs8 (zs_new w .u64 zs t m hm) (.inr (own_ne h (Nat.le_refl _))) hp hm4 hn (d := m)).mono ?_
  rintro e w' ⟨A', c', rfl, hg, hr⟩
  exact ⟨A', c', rfl, hg, Gr.below (((Gr.refl w A).alloc _).trans hr) b b.size h.own⟩
theorem st20d {W w : World} {A : Option Addr} {n c : Nat} {xs : List Nat} (s : Nat) (zs : List Int) (m : Nat) (hm : zs.length = m) (t : TypeId) (h : Gb w W.heap.size A n c xs) (b : RowKit.Below W.heap.size W w) (hs : 0 < s) (hs8 : s ≤ 4) (hp : ∀ z ∈ zs, 0 ≤ z) (hm4 : m ≤ 4096) (hn : n ≤ 1073741824) :
    Calls Tryz.prog 40 #[.slice A n c, .int .i64 (s : Nat), .slice (some ⟨w.heap.size, 0, none⟩) m m] (w.alloc (.cells (zs.map (Value.int .u32)).toArray t)).drew fun e w' => ∃ A' c', e = .returned (.slice A' (n + m * s) c') ∧ Gb w' W.heap.size A' (n + m * s) c' (xs ++ zs.flatMap (be s)) ∧ RowKit.Below W.heap.size W w' := by
  have b1 := ((Below.refl w.heap.size w).alloc (Nat.le_refl _) (.cells (zs.map (Value.int .u32)).toArray t)).drew
  have z1 : Zs (w.alloc (.cells (zs.map (Value.int .u32)).toArray t)).drew .u32 (some ⟨w.heap.size, 0, none⟩) m zs := zs_new w .u32 zs t m hm
  have hAg := h.below b1
  refine (put20_any s hAg (Nat.le_trans b.size b1.size) hs hs8 z1 (.inr (own_ne h (Nat.le_refl _))) hp hm4 hn (d := m)).mono ?_
  rintro e w' ⟨A', c', rfl, hg, hr⟩
  exact ⟨A', c', rfl, hg, Gr.below (Gr.of_below b1 hr) b b.size h.own⟩
theorem hbits : ∀ a m : Fin 8, bits BinOp.or IntKind.i64 (bits BinOp.or IntKind.i64 ((a.val : Int) * 64) 32) (m.val : Int) = (a.val : Int) * 64 + 32 + m.val := by decide +kernel
theorem fh_eq {h : Hd} (q : 0 ≤ h.lp ∧ h.lp ≤ 3 ∧ h.ve = 4 ∧ 1 ≤ h.mo ∧ h.mo ≤ 5) : bits BinOp.or IntKind.i64 (bits BinOp.or IntKind.i64 (wrap64 (h.lp * 64)) (wrap64 (h.ve * 8))) h.mo = fh h := by
  obtain ⟨h1, h2, h3, h4, h5⟩ := q
  unfold fh
  obtain ⟨a, ha⟩ : ∃ a : Nat, h.lp = (a : Int) := ⟨h.lp.toNat, by omega⟩
  obtain ⟨m, hm⟩ : ∃ m : Nat, h.mo = (m : Int) := ⟨h.mo.toNat, by omega⟩
  rw [ha] at h2
  rw [hm] at h5
  rw [ha, hm, h3]
  have e1 : wrap64 ((a : Int) * 64) = (a : Int) * 64 := by unfold wrap64; omega
  have e2 : wrap64 (4 * 8) = 32 := by unfold wrap64; omega
  rw [e1, e2]
  exact hbits ⟨a, by omega⟩ ⟨m, by omega⟩
theorem flat_take {l : List El} {j : Nat} {x : El} (h : l[j]? = some x) : (l.take (j + 1)).flatMap extB = (l.take j).flatMap extB ++ extB x := by
  rw [List.take_add_one, h, List.flatMap_append]; simp
theorem op_lim {x : El} (h : fieldB x = true) : 0 ≤ x.op ∧ x.op < 64 := by
  unfold fieldB wi at h
  simp only [Bool.and_eq_true, decide_eq_true_eq] at h
  omega
theorem szf_lim {x : El} (h : fieldB x = true) : szf x ≤ 4136 := by
  have := field_lim h
  unfold szf fld; omega
theorem szs_lim : ∀ {l : List El}, (∀ x ∈ l, fieldB x = true) → szs l ≤ l.length * 4136
  | [], _ => by simp [szs]
  | x :: l, h => by
    have h1 := szf_lim (h x (by simp))
    have h2 := szs_lim (fun y hy => h y (by simp [hy]) : ∀ y ∈ l, fieldB y = true)
    simp only [szs, List.map_cons, List.sum_cons, List.length_cons, Nat.add_mul] at h2 ⊢
    omega
theorem wp_row_b (w : World) {o : Oper} {a : Act} {K : Act → World → Prop} {Q : Exit → Act → World → Prop} (s x : Operand)
    (ho : o.op = .call { callee := .builtin .append, args := #[s, x], argTypes := #[23, 23] }) {base n c B m c2 : Nat} {A A2 : Option Addr} {xs ys : List Nat} {w0 : World}
    (hs : a.eval s = .slice A n c) (hown : Gb w base A n c xs) (hx : a.eval x = .slice A2 m c2) (hr : Nb w B A2 m c2 ys)
    (hn : n + m ≤ 1099511627776) (hb : RowKit.Below base w0 w) (hbase : base ≤ w.heap.size)
    (h : ∀ A' c' w', Gb w' base A' (n + m) c' (xs ++ ys) → RowKit.Below base w0 w' → K (a.put o.dst (.slice A' (n + m) c')) w') : Oper.wp Tryz.prog o a w K Q := by
  obtain ⟨i0, hi, hz0, hz1, hz2⟩ := info_parts Tryz.info5'
  rcases A2 with _ | ad
  · have hm : m = 0 := by
      rcases Nat.eq_zero_or_pos m with h0 | h0
      · exact h0
      · obtain ⟨b, off, e, _⟩ := hr.cell h0
        cases e
    subst hm
    have hy : ys = [] := List.eq_nil_of_length_eq_zero hr.len
    subst hy
    have hrun := run_app_nil (P := Tryz.prog) w base 23 o.type 5 i0 1 Tryz.underlying23 hi (.slice A n c) n (bs xs) hown.2 c2
    unfold Oper.wp execOp
    simp only [ho, resolve, invoke, builtin, Sem.run_bind, Sem.run_pure, Result.andThen_ok, List.map_toArray, List.map_cons, List.map_nil, hs, hx, hrun]
    exact h A c w (by simpa using hown) hb
  · obtain ⟨v', w', hrun, h2, h3, _⟩ := run_append_own (P := Tryz.prog) w base 23 o.type 5 i0 (.int .u8 0) 1 1 Tryz.underlying23 hi hz0 hz1 hz2 rfl (by decide) _ n (bs xs) hown.2 ad m c2 (bs ys) (by simp [bs, hr.len]) (Nb.olds hr) (bs_one ys) (by unfold maxLen; omega) (by omega) hbase
    obtain ⟨A', c', rfl⟩ := own_shape h2
    unfold Oper.wp execOp
    simp only [ho, resolve, invoke, builtin, Sem.run_bind, Sem.run_pure, Result.andThen_ok, List.map_toArray, List.map_cons, List.map_nil, hs, hx, hrun]
    exact h A' c' w' ⟨by simp [hown.1, hr.len], by rw [bs_append]; exact h2⟩ (hb.grown h3 hbase fun k hk => (hown.2.lt k hk).1)
theorem Gb.weak {w : World} {b b' n c : Nat} {A : Option Addr} {xs : List Nat} (h : Gb w b A n c xs) (hb : b' ≤ b) : Gb w b' A n c xs :=
  ⟨h.1, h.2.1, h.2.2.imp id fun ⟨g, cap, cur, e, hg, r⟩ => ⟨g, cap, cur, e, Nat.le_trans hb hg, r⟩⟩
theorem made {W w : World} (S : Nat) (hS : S ≤ 8192) (b : RowKit.Below W.heap.size W w) : ∃ w', (Instr.makeSlice 23 (.int .i64 0) (.int .i64 (S : Int))).run Tryz.prog w = .ok (.slice (some ⟨w.heap.size, 0, none⟩) 0 S) w' ∧ Gb w' W.heap.size (some ⟨w.heap.size, 0, none⟩) 0 S [] ∧ RowKit.Below W.heap.size W w' := by
  obtain ⟨i0, hi, hz0, hz1, hz2⟩ := info_parts Tryz.info5'
  obtain ⟨w', h1, h2, h3⟩ := run_makeSlice_owned (P := Tryz.prog) w W.heap.size 23 5 i0 (.int .u8 0) 1 Tryz.underlying23 hi hz0 hz1 .i64 .i64 S (by omega) (by rw [hz2]; omega) (by unfold maxLen; omega) b.size
  exact ⟨w', h1, ⟨rfl, h2⟩, b.grown h3 b.size (fun k hk => by cases hk)⟩
theorem write_any (p : Pk) (l : List El) (ms : List Nat) {w : World} (h : Es w w.heap.size p.A p.n l) (hm : Nb w w.heap.size p.m.A p.m.n p.m.c ms) :
    Calls Tryz.prog 16 #[pkV p] w fun e w' => (rightB p l = false ∧ e = .returned (.tuple #[.slice none 0 0, .int .i64 3]) ∧ RowKit.Below w.heap.size w w') ∨
      (rightB p l = true ∧ ∃ A c, e = .returned (.tuple #[.slice A (szp p l) c, .int .i64 0]) ∧ Gb w' w.heap.size A (szp p l) c (packW p l ms) ∧ RowKit.Below w.heap.size w w') := by
  obtain ⟨W, hW⟩ : ∃ W, W = w.alloc (.cells #[.int .i64 p.h.lp, .int .i64 p.h.ve, .int .i64 p.h.mo, .int .i64 p.h.st, .int .i64 p.h.po, .int .i64 p.h.pr, .int .u32 (p.h.dl : Int), .int .u32 (p.h.di : Int), .int .u32 (p.h.rf : Int), .int .u64 (p.h.re : Int), .int .u64 (p.h.og : Int), .int .u64 (p.h.rc : Int), .int .u64 (p.h.xm : Int), .slice p.A p.n p.c, .bool p.m.has, .int .u32 (p.m.key : Int), .slice p.m.A p.m.n p.m.c] 51) := ⟨_, rfl⟩
  have x1 : PBox W w.heap.size p := by rw [hW]; exact heap_alloc_new w _
  have hb : RowKit.Below w.heap.size w W := by rw [hW]; exact (Below.refl _ _).alloc (Nat.le_refl _) _
  have hs1 : w.heap.size < W.heap.size := x1.lt
  have HE := Lib.hid ((h.below hb (Nat.le_refl _)).more (Nat.le_of_lt hs1))
  have HM := Lib.hid ((hm.below hb).more (Nat.le_of_lt hs1))
  have HX := Lib.hid x1
  have HB := Lib.hid hb
  have HS := Lib.hid hs1
  have HR := Lib.hid (right_any p l HE.out)
  obtain ⟨c0, c1, c2, c3, c4, c5, c6, c7, c8, c9, c10, c11, c12, c13, c14, c15, c16⟩ := x1.cells
  clear h hm x1 hb hs1
  go_enter Tryz.func16, Tryz.ntmps16
  go_wp2_with fail
  rw [← hW]
  clear hW
  refine HR.out.mono ?_
  rintro e w1 ⟨rfl, b1⟩
  have HB1 := Lib.hid b1
  clear c0 c1 c2 c3 c4 c5 c6 c7 c8 c9 c10 c11 c12 c13 c14 c15 c16
  obtain ⟨c0, c1, c2, c3, c4, c5, c6, c7, c8, c9, c10, c11, c12, c13, c14, c15, c16⟩ := (HX.out.below HB1.out).cells
  cases hr : rightB p l with
  | false =>
    have HRr := Lib.hid hr
    clear b1 hr
    unfold erI
    go_wp2_with fail
    go_ret2
    exact .inl ⟨HRr.out, rfl, bthen HB.out HB1.out (Nat.le_refl _)⟩
  | true =>
    obtain ⟨rh, rm, rn, rf, rs⟩ := right_parts hr
    have HH := Lib.hid (head_lim rh)
    have HZ := Lib.hid (fun w2 (b : RowKit.Below W.heap.size W w2) => size_any p l ((HE.out.below b (Nat.le_refl _)).more b.size) (Nat.le_trans rn (by decide)) (fun x hx => by have := field_lim (rf x hx); omega) (by have := mac_lim rm; omega))
    have HRr := Lib.hid hr
    have HF := Lib.hid rf
    have HMl := Lib.hid (mac_lim rm)
    have Hn := Lib.hid rn
    clear b1 hr rh rm rn rf
    unfold erI
    go_wp2_with fail
    refine (HZ.out _ HB1.out).mono ?_
    rintro e w2 ⟨rfl, b2⟩
    have HB2 := Lib.hid (bthen HB1.out b2 (Nat.le_refl _))
    clear c0 c1 c2 c3 c4 c5 c6 c7 c8 c9 c10 c11 c12 c13 c14 c15 c16 b2
    obtain ⟨c0, c1, c2, c3, c4, c5, c6, c7, c8, c9, c10, c11, c12, c13, c14, c15, c16⟩ := (HX.out.below HB2.out).cells
    obtain ⟨S, hS⟩ : ∃ S, S = szp p l := ⟨_, rfl⟩
    rw [← hS] at rs ⊢
    clear hS
    obtain ⟨w3, hmk, hg3, hb3⟩ := made S rs HB2.out
    have HB3 := Lib.hid hb3
    have HG3 := Lib.hid hg3
    clear hb3 hg3
    clear c0 c1 c2 c3 c4 c5 c6 c7 c8 c9 c10 c11 c12 c13 c14 c15 c16
    obtain ⟨c0, c1, c2, c3, c4, c5, c6, c7, c8, c9, c10, c11, c12, c13, c14, c15, c16⟩ := (HX.out.below HB2.out).cells
    obtain ⟨d0, d1, d2, d3, d4, d5, d6, d7, d8, d9, d10, d11, d12, d13, d14, d15, d16⟩ := (HX.out.below HB3.out).cells
    have HQ3 := Lib.hid (show ∀ f, f = fh p.h → Calls Tryz.prog 39 #[.slice (some ⟨w2.heap.size, 0, none⟩) 0 S, .int .i64 1, .slice (some ⟨w3.heap.size, 0, none⟩) 4 4] (w3.alloc (.cells #[.int .i64 f, .int .i64 p.h.st, .int .i64 p.h.po, .int .i64 p.h.pr] 3)) fun e w' => ∃ A' c', e = .returned (.slice A' 4 c') ∧ Gb w' W.heap.size A' 4 c' (be 1 (fh p.h) ++ be 1 p.h.st ++ be 1 p.h.po ++ be 1 p.h.pr) ∧ RowKit.Below W.heap.size W w' by
      intro f hf
      subst hf
      refine (st19 1 [fh p.h, p.h.st, p.h.po, p.h.pr] 4 rfl 3 HG3.out HB3.out (by omega) (by omega) (by omega) (by omega)).mono ?_
      rintro e w' ⟨A', c', rfl, hg, hb⟩
      exact ⟨A', c', rfl, by simpa using hg, hb⟩)
    have hfh := Lib.hid (fh_eq HH.out)
    go_wp2_with fail
    refine (HQ3.out _ hfh.out).mono ?_
    rintro e w4 ⟨A4, k4, rfl, hg4, hb4⟩
    have HG4 := Lib.hid hg4
    have HB4 := Lib.hid hb4
    clear c0 c1 c2 c3 c4 c5 c6 c7 c8 c9 c10 c11 c12 c13 c14 c15 c16 d0 d1 d2 d3 d4 d5 d6 d7 d8 d9 d10 d11 d12 d13 d14 d15 d16 hg4 hb4 hmk
    obtain ⟨c0, c1, c2, c3, c4, c5, c6, c7, c8, c9, c10, c11, c12, c13, c14, c15, c16⟩ := (HX.out.below HB4.out).cells
    have HQ4 := Lib.hid (show Calls Tryz.prog 40 #[.slice A4 4 k4, .int .i64 4, .slice (some ⟨w4.heap.size, 0, none⟩) 3 3] (w4.alloc (.cells #[.int .u32 (p.h.dl : Int), .int .u32 (p.h.di : Int), .int .u32 (p.h.rf : Int)] 22)) fun e w' => ∃ A' c', e = .returned (.slice A' 16 c') ∧ Gb w' W.heap.size A' 16 c' ((be 1 (fh p.h) ++ be 1 p.h.st ++ be 1 p.h.po ++ be 1 p.h.pr) ++ (be 4 (p.h.dl : Nat) ++ be 4 (p.h.di : Nat) ++ be 4 (p.h.rf : Nat))) ∧ RowKit.Below W.heap.size W w' by
      refine (st20 4 [(p.h.dl : Int), (p.h.di : Int), (p.h.rf : Int)] 3 rfl 22 HG4.out HB4.out (by omega) (by omega) (by intro z hz; simp at hz; omega) (by omega) (by omega)).mono ?_
      rintro e w' ⟨A', c', rfl, hg, hb⟩
      exact ⟨A', c', rfl, by simpa using hg, hb⟩)
    go_wp2_with fail
    refine HQ4.out.mono ?_
    rintro e w5 ⟨A5, k5, rfl, hg5, hb5⟩
    have HG5 := Lib.hid hg5
    have HB5 := Lib.hid hb5
    clear c0 c1 c2 c3 c4 c5 c6 c7 c8 c9 c10 c11 c12 c13 c14 c15 c16 hg5 hb5
    obtain ⟨c0, c1, c2, c3, c4, c5, c6, c7, c8, c9, c10, c11, c12, c13, c14, c15, c16⟩ := (HX.out.below HB5.out).cells
    have HQ5 := Lib.hid (show Calls Tryz.prog 41 #[.slice A5 16 k5, .int .i64 8, .slice (some ⟨w5.heap.size, 0, none⟩) 4 4] (w5.alloc (.cells #[.int .u64 (p.h.re : Int), .int .u64 (p.h.og : Int), .int .u64 (p.h.rc : Int), .int .u64 (p.h.xm : Int)] 47)) fun e w' => ∃ A' c', e = .returned (.slice A' 48 c') ∧ Gb w' W.heap.size A' 48 c' (headW p.h) ∧ RowKit.Below W.heap.size W w' by
      refine (st21 8 [(p.h.re : Int), (p.h.og : Int), (p.h.rc : Int), (p.h.xm : Int)] 4 rfl 47 HG5.out HB5.out (by omega) (by omega) (by intro z hz; simp at hz; omega) (by omega) (by omega)).mono ?_
      rintro e w' ⟨A', c', rfl, hg, hb⟩
      exact ⟨A', c', rfl, by unfold headW; simpa using hg, hb⟩)
    go_wp2_with fail
    refine HQ5.out.mono ?_
    rintro e w6 ⟨A6, k6, rfl, hg6, hb6⟩
    have HG6 := Lib.hid hg6
    have HB6 := Lib.hid hb6
    clear c0 c1 c2 c3 c4 c5 c6 c7 c8 c9 c10 c11 c12 c13 c14 c15 c16 hg6 hb6
    obtain ⟨c0, c1, c2, c3, c4, c5, c6, c7, c8, c9, c10, c11, c12, c13, c14, c15, c16⟩ := (HX.out.below HB6.out).cells
    go_wp2_with fail
    clear c0 c1 c2 c3 c4 c5 c6 c7 c8 c9 c10 c11 c12 c13 c14 c15 c16
    have HLn := Lib.hid (HE.out.1 : l.length = p.n)
    go_loopw [58, 5] (fun i b wr => ∃ j A' c', j ≤ p.n ∧ i = .int .i64 ((j : Nat) : Int) ∧ b = .slice A' (48 + szs (l.take j)) c' ∧ Gb wr W.heap.size A' (48 + szs (l.take j)) c' (headW p.h ++ (l.take j).flatMap extB) ∧ RowKit.Below W.heap.size W wr) (fun i _ _ => (p.n - (match i with | .int _ z => z.toNat | _ => 0)))
    case atStart => exact ⟨0, A6, k6, by omega, rfl, rfl, by simpa [szs] using HG6.out, HB6.out⟩
    case round =>
      obtain ⟨j, A7, k7, hjn, rfl, rfl, hg7, hb7⟩ := hrel
      have HG7 := Lib.hid hg7
      have HB7 := Lib.hid hb7
      clear hg7 hb7
      have hn8 : p.n ≤ 8 := Hn.out
      by_cases hj : j < p.n
      · have e1 : (j : Int) < (p.n : Int) := by omega
        obtain ⟨x, hx⟩ : ∃ x, l[j]? = some x := ⟨_, List.getElem?_eq_getElem (by have := HLn.out; omega)⟩
        obtain ⟨he1, he2, he3⟩ := HE.out.below HB7.out (Nat.le_refl _)
        rcases he3 with he3 | ⟨g, off, hA, hg, hcl⟩
        · omega
        obtain ⟨d0, d1, d2, d3, d4, d5, d6, d7⟩ := hcl j x hx
        have hxl := List.mem_of_getElem? hx
        have HNx := Lib.hid (he2 x hxl)
        have hfx := HF.out x hxl
        have hlim : szs (l.take j) ≤ 33088 := Nat.le_trans (szs_lim fun y hy => HF.out y (List.mem_of_mem_take hy)) (by
          have : (l.take j).length ≤ 8 := by simp; omega
          omega)
        have HT1 := Lib.hid (szs_take hx)
        have HT2 := Lib.hid (flat_take hx)
        obtain ⟨K, hK⟩ : ∃ K, K = 48 + szs (l.take j) := ⟨_, rfl⟩
        rw [← hK] at HG7 ⊢
        have HK := Lib.hid hK
        have HP := Lib.hid (show ∀ o, Calls Tryz.prog 42 #[.slice A7 K k7, elV x] (wr.alloc o) fun e w' => ∃ A' c', e = .returned (.slice A' (K + szf x) c') ∧ Gb w' W.heap.size A' (K + szf x) c' (headW p.h ++ (l.take j).flatMap extB ++ extB x) ∧ RowKit.Below W.heap.size W w' by
          intro o
          have hbo := HB7.out.alloc HB7.out.size o
          have fl := field_lim hfx
          refine (fp_any x (HG7.out.alloc o) hbo.size ((HNx.out.1).below ((Below.refl _ _).alloc HB7.out.size o)) ((HNx.out.2).below ((Below.refl _ _).alloc HB7.out.size o)) (op_lim hfx) (by omega) (by omega) (by omega)).mono ?_
          rintro e w' ⟨A', c', rfl, hg, hr⟩
          exact ⟨A', c', rfl, hg, Gr.below hr hbo hbo.size (HG7.out.own)⟩)
        clear hcl hx he1 he2 hxl hfx hlim hK
        rw [hA]
        go_wp2_with fail
        refine (HP.out _).mono ?_
        rintro e w8 ⟨A8, k8, rfl, hg8, hb8⟩
        have HG8 := Lib.hid (show Gb w8 W.heap.size A8 (48 + szs (l.take (j + 1))) k8 (headW p.h ++ (l.take (j + 1)).flatMap extB) by
          rw [HT1.out, HT2.out, ← List.append_assoc, ← Nat.add_assoc, ← HK.out]; exact hg8)
        have HE8 := Lib.hid (show K + szf x = 48 + szs (l.take (j + 1)) by rw [HT1.out, HK.out]; omega)
        have HB8 := Lib.hid hb8
        clear hg8 hb8 d0 d1 d2 d3 d4 d5 d6 d7
        go_wp2_with fail
        exact ⟨⟨j + 1, A8, k8, by omega, rfl, by rw [HE8.out], HG8.out, HB8.out⟩, by show p.n - ((j : Int) + 1).toNat < p.n - (j : Int).toNat; omega⟩
      · have e1' : ((j : Int) < (p.n : Int)) = False := by simp only [eq_iff_iff, iff_false]; omega
        obtain ⟨c0, c1, c2, c3, c4, c5, c6, c7, c8, c9, c10, c11, c12, c13, c14, c15, c16⟩ := (HX.out.below HB7.out).cells
        have hall : l.take j = l := List.take_of_length_le (by have := HLn.out; omega)
        rw [hall] at HG7 ⊢
        have HWB := Lib.hid (fun w' (b : RowKit.Below W.heap.size W w') => bthen HB.out b (Nat.le_refl _))
        clear hall
        generalize hh : p.m.has = mh at *
        cases mh with
        | false =>
          have hSz : szp p l = 48 + szs l := by unfold szp; rw [hh]; rfl
          have hPk : packW p l ms = headW p.h ++ l.flatMap extB := by unfold packW macW; rw [hh]; simp
          have HSz := Lib.hid hSz
          have HPk := Lib.hid hPk
          clear hSz hPk hh
          go_wp2_with fail
          go_ret2
          exact .inr ⟨HRr.out, A7, k7, by rw [HSz.out]; rfl, by rw [HSz.out, HPk.out]; exact HG7.out.weak (Nat.le_of_lt HS.out), HWB.out _ HB7.out⟩
        | true =>
          have hSz : szp p l = 48 + szs l + (4 + p.m.n) := by unfold szp; rw [hh]; rfl
          have hPk : packW p l ms = headW p.h ++ l.flatMap extB ++ be 4 (p.m.key : Nat) ++ ms := by unfold packW macW; rw [hh]; simp
          have HSz := Lib.hid hSz
          have HPk := Lib.hid hPk
          clear hSz hPk hh
          have hlim : szs l ≤ 33088 := Nat.le_trans (szs_lim HF.out) (by
            have := HLn.out
            omega)
          have HQ9 := Lib.hid (show Calls Tryz.prog 40 #[.slice A7 (48 + szs l) k7, .int .i64 4, .slice (some ⟨wr.heap.size, 0, none⟩) 1 1] (wr.alloc (.cells #[.int .u32 (p.m.key : Int)] 22)).drew fun e w' => ∃ A' c', e = .returned (.slice A' (48 + szs l + 4) c') ∧ Gb w' W.heap.size A' (48 + szs l + 4) c' (headW p.h ++ l.flatMap extB ++ be 4 (p.m.key : Nat)) ∧ RowKit.Below W.heap.size W w' by
            refine (st20d 4 [(p.m.key : Int)] 1 rfl 22 HG7.out HB7.out (by omega) (by omega) (by intro z hz; simp at hz; omega) (by omega) (by omega)).mono ?_
            rintro e w' ⟨A', c', rfl, hg, hb⟩
            exact ⟨A', c', rfl, by simpa using hg, hb⟩)
          have HLm := HMl.out
          have hnm : 48 + szs l + 4 + p.m.n ≤ 1099511627776 := by omega
          go_wp2_with fail
          go_region_held3 (fun w' => w'.cell? ⟨w.heap.size, 15, none⟩ = some (.int .u32 (p.m.key : Int)) ∧ w'.cell? ⟨w.heap.size, 16, none⟩ = some (.slice p.m.A p.m.n p.m.c))
            (first | exact ⟨c15, c16⟩ | exact (HX.out.below (HB7.out.alloc HB7.out.size _)).cells.2.2.2.2.2.2.2.2.2.2.2.2.2.2.2 | exact (HX.out.below (HB7.out.alloc HB7.out.size _).drew).cells.2.2.2.2.2.2.2.2.2.2.2.2.2.2.2 | exact (HX.out.below HB10.out).cells.2.2.2.2.2.2.2.2.2.2.2.2.2.2.2 | exact (HX.out.below HB9.out).cells.2.2.2.2.2.2.2.2.2.2.2.2.2.2.2)
            (first
              | (go_at_call 40; (with_reducible refine HQ9.out.mono ?_)
                 rintro e w9 ⟨A9, k9, rfl, hg9, hb9⟩
                 have HG9 := Lib.hid hg9
                 have HB9 := Lib.hid hb9
                 clear hg9 hb9)
              | (refine wp_row_b _ (.tmp 74) (.tmp 77) rfl rfl HG9.out rfl (HM.out.below HB9.out) hnm HB9.out HB9.out.size ?_; intro A10 k10 w10 hg10 hb10
                 have HG10 := Lib.hid hg10
                 have HB10 := Lib.hid hb10
                 clear hg10 hb10))
          have HE10 := Lib.hid (show 48 + szs l + 4 + p.m.n = szp p l by rw [HSz.out]; omega)
          go_wp2_with fail
          go_ret2
          exact .inr ⟨HRr.out, A10, k10, by rw [← HE10.out]; rfl, by rw [← HE10.out, HPk.out]; exact HG10.out.weak (Nat.le_of_lt HS.out), HWB.out _ HB10.out⟩
end Go.Proofs.YthipdagebijbiaaGreatDoor.Wi
