/- wire: a field behind bytes. -/
import Derived.Test.YthipdagebijbiaaGreatDoorWiW6
import Derived.Deep.RegionHeld3
namespace Go.Proofs.YthipdagebijbiaaGreatDoor.Wi
set_option linter.unusedSimpArgs false
set_option linter.unusedVariables false
open Go.RowKit
set_option linter.unusedVariables false
set_option maxRecDepth 100000
/-- a field's first byte -/
def fir (x : El) : Int := x.op + (if x.resp then 128 else 0) + (if x.bad then 64 else 0)
/-- a field's bytes -/
def extB (x : El) : List Nat := be 1 (fir x) ++ be 1 0 ++ be 2 (szf x : Nat) ++ be 2 x.as_ ++ be 2 0 ++ be 4 (x.ts : Nat) ++ be 4 (x.fs : Nat) ++ textB x.xs ++ textB x.ys
theorem zs_new (w : World) (k : IntKind) (zs : List Int) (t : TypeId) (m : Nat) (h : zs.length = m) : Zs (w.alloc (.cells (zs.map (Value.int k)).toArray t)) k (some ⟨w.heap.size, 0, none⟩) m zs := by
  refine ⟨h, .inr ⟨w.heap.size, 0, rfl, by simp, fun i z hi => ?_⟩⟩
  rw [cell_of_row _ _ (0 + i) _ t (0, 0) (heap_alloc_new w _)]
  simp [hi]
theorem own_ne {w : World} {base n c : Nat} {A : Option Addr} {xs : List Nat} (h : Gb w base A n c xs) {g : Nat} (hg : w.heap.size ≤ g) : blk A ≠ blk (some ⟨g, 0, none⟩) := fun e => by
  have := (h.2.lt g (by rw [own_blk]; exact e)).2
  omega
theorem or1 : ∀ n : Nat, n < 64 → bits BinOp.or IntKind.i64 (n : Int) 128 = n + 128 := by decide +kernel
theorem or2 : ∀ n : Nat, n < 64 → bits BinOp.or IntKind.i64 (n : Int) 64 = n + 64 := by decide +kernel
theorem or3 : ∀ n : Nat, n < 64 → bits BinOp.or IntKind.i64 ((n : Int) + 128) 64 = n + 128 + 64 := by decide +kernel
theorem Gr.apart {w w' : World} {A A' : Option Addr} (h : Gr w A w' A') {g : Nat} (hA : blk A ≠ some g) (hg : g < w.heap.size) : blk A' ≠ some g := by
  rcases h.2 with e | ⟨k, e, hk⟩
  · rw [e]; exact hA
  · rw [e]; intro e2; cases e2; omega
theorem EBox.gr {w w' : World} {A A' : Option Addr} {g : Nat} {x : El} (h : EBox w g x) (hr : Gr w A w' A') (hA : blk A ≠ some g) : EBox w' g x := (hr.1.block g h.lt fun e => hA e.symm).trans h
theorem Gr.of_below {w w1 w' : World} {A A' : Option Addr} (b : RowKit.Below w.heap.size w w1) (h : Gr w1 A w' A') : Gr w A w' A' :=
  Gr.trans ⟨⟨b.os, b.tape, b.output, b.size, fun q hq _ => b.block q hq⟩, .inl rfl⟩ h
theorem Gb.drew {w : World} {base n c : Nat} {A : Option Addr} {xs : List Nat} (h : Gb w base A n c xs) (k : Nat) : Gb (w.drewN k) base A n c xs := h.below (below_drewN' (Below.refl _ _) k)
theorem ft_step {w : World} {base : Nat} {A : Option Addr} {n c : Nat} {xs : List Nat} {B : Option Addr} {m d : Nat} {ys : List Nat} (h : Gb w base A n c xs) (hb : base ≤ w.heap.size) (hy : Nb w base B m d ys) (hm : m ≤ 1048576) (hn : n ≤ 536870912)
    (W : World) (b : RowKit.Below w.heap.size w W) :
    Calls Tryz.prog 76 #[.slice A n c, .slice B m d] W fun e w' => ∃ A' c', e = .returned (.slice A' (n + (4 + fld m)) c') ∧ Gb w' base A' (n + (4 + fld m)) c' (xs ++ textB ys) ∧ Gr w A w' A' := by
  refine (text_any (h.below b) (Nat.le_trans hb b.size) (hy.below (b.mono hb)) hm hn).mono ?_
  rintro e w' ⟨A', c', rfl, hg, hr⟩
  exact ⟨A', c', rfl, hg, Gr.of_below b hr⟩
set_option maxHeartbeats 2000000 in
theorem fp_any {w : World} {base : Nat} {A : Option Addr} {n c : Nat} {xs : List Nat} (x : El) (h : Gb w base A n c xs) (hb : base ≤ w.heap.size) (hx : Nb w base x.A x.n x.c x.xs) (hy : Nb w base x.B x.m x.e x.ys) (ho : 0 ≤ x.op ∧ x.op < 64)
    (hxm : x.n ≤ 1048576) (hym : x.m ≤ 1048576) (hn : n ≤ 134217728) :
    Calls Tryz.prog 42 #[.slice A n c, elV x] w fun e w' => ∃ A' c', e = .returned (.slice A' (n + szf x) c') ∧ Gb w' base A' (n + szf x) c' (xs ++ extB x) ∧ Gr w A w' A' := by
  have hop : ∃ o : Nat, x.op = (o : Int) ∧ o < 64 := ⟨x.op.toNat, by omega, by omega⟩
  obtain ⟨o, hoe, hol⟩ := hop
  have b1 := Lib.hid (hoe ▸ or1 o hol : bits BinOp.or IntKind.i64 x.op 128 = x.op + 128)
  have b2 := Lib.hid (hoe ▸ or2 o hol : bits BinOp.or IntKind.i64 x.op 64 = x.op + 64)
  have b3 := Lib.hid (hoe ▸ or3 o hol : bits BinOp.or IntKind.i64 (x.op + 128) 64 = x.op + 128 + 64)
  obtain ⟨w1, hw1⟩ : ∃ w1, w1 = w.alloc (.cells #[.int .i64 x.op, .bool x.resp, .bool x.bad, .int .i64 x.as_, .int .u32 (x.ts : Int), .int .u32 (x.fs : Int), .slice x.A x.n x.c, .slice x.B x.m x.e] 45) := ⟨_, rfl⟩
  have hsz : w1.heap.size = w.heap.size + 1 := by rw [hw1]; simp
  have HSz := Lib.hid hsz
  have x1 : EBox w1 w.heap.size x := by rw [hw1]; exact heap_alloc_new w _
  have HG1 := Lib.hid (show Gb w1 base A n c xs by rw [hw1]; exact h.alloc _)
  have HR1 := Lib.hid (show Gr w A w1 A by rw [hw1]; exact (Gr.refl w A).alloc _)
  have hne : blk A ≠ some w.heap.size := own_ne h (Nat.le_refl _)
  have HNe := Lib.hid hne
  have HX1 := Lib.hid x1
  have HB0 := Lib.hid hb
  have HB1 := Lib.hid (show base ≤ w1.heap.size by omega)
  have HPF := Lib.hid (show ∀ f, f = fir x → Calls Tryz.prog 39 #[.slice A n c, .int .i64 1, .slice (some ⟨w.heap.size + 1, 0, none⟩) 2 2] (w1.alloc (.cells #[.int .i64 f, .int .i64 0] 3)) fun e w' => ∃ A' c', e = .returned (.slice A' (n + 2) c') ∧ Gb w' base A' (n + 2) c' (xs ++ (be 1 (fir x) ++ be 1 0)) ∧ Gr w1 A w' A' by
    intro f hf
    subst hf
    rw [← HSz.out]
    refine (put_any 1 (HG1.out.alloc _) (Nat.le_trans HB1.out (by simp)) (by omega) (by omega) (zs_new w1 .i64 [fir x, 0] 3 2 rfl) (.inr (own_ne HG1.out (Nat.le_refl _))) (by omega) (by omega) (d := 2)).mono ?_
    rintro e w' ⟨A', c', rfl, hg, hr⟩
    exact ⟨A', c', rfl, by simpa using hg, ((Gr.refl w1 A).alloc _).trans hr⟩)
  have HS := Lib.hid (fun w => szf_any x (by omega) (by omega) w)
  have HX := Lib.hid hx
  have HY := Lib.hid hy
  have HH := Lib.hid h
  have hfir : fir x = x.op + (if x.resp then 128 else 0) + (if x.bad then 64 else 0) := rfl
  have HFi := Lib.hid hfir
  clear h hx hy hne x1 hb hfir hoe
  cases hr : x.resp <;> cases hbd : x.bad
  all_goals
    have Hr := Lib.hid hr
    have Hbd := Lib.hid hbd
    go_enter Tryz.func42, Tryz.ntmps42
    go_wp2_with fail
    rw [hr, hbd] at hw1
    rw [← hw1]
    clear hw1 hr hbd
    refine (HPF.out _ ?_).mono ?_
    · rw [HFi.out, Hr.out, Hbd.out]
      first
      | (simp; done)
      | (rw [b1.out, b3.out]; rfl)
      | (rw [b1.out]; simp; done)
      | (rw [b2.out]; simp; done)
    rintro e w2 ⟨A2, k2, rfl, hg2, hr2⟩
    have HX2 := Lib.hid (HX1.out.gr hr2 HNe.out)
    have HNe2 := Lib.hid (hr2.apart HNe.out HX1.out.lt)
    have HR2 := Lib.hid (HR1.out.trans hr2)
    have HB2 := Lib.hid (Nat.le_trans HB1.out hr2.1.size)
    have HG2 := Lib.hid hg2
    have HQ2 := Lib.hid (show ∀ Wk, RowKit.Below w2.heap.size w2 Wk → Calls Tryz.prog 39 #[.slice A2 (n + 2) k2, .int .i64 2, .slice (some ⟨Wk.heap.size, 0, none⟩) 3 3] (Wk.alloc (.cells #[.int .i64 (szf x : Nat), .int .i64 x.as_, .int .i64 0] 3)) fun e w' => ∃ A' c', e = .returned (.slice A' (n + 2 + 6) c') ∧ Gb w' base A' (n + 2 + 6) c' (xs ++ (be 1 (fir x) ++ be 1 0) ++ (be 2 (szf x : Nat) ++ be 2 x.as_ ++ be 2 0)) ∧ Gr w2 A2 w' A' by
      intro Wk bk
      have hgk := HG2.out.below bk
      refine (put_any 2 (hgk.alloc _) (Nat.le_trans HB2.out (Nat.le_trans bk.size (by simp))) (by omega) (by omega) (zs_new Wk .i64 [(szf x : Nat), x.as_, 0] 3 3 rfl) (.inr (own_ne hgk (Nat.le_refl _))) (by omega) (by omega) (d := 3)).mono ?_
      rintro e w' ⟨A', c', rfl, hg, hr⟩
      exact ⟨A', c', rfl, by simpa using hg, Gr.of_below bk (((Gr.refl Wk A2).alloc _).trans hr)⟩)
    obtain ⟨d0, d1, d2, d3, d4, d5, d6, d7⟩ := HX2.out.cells
    have HD := Lib.hid (show ∀ W : World, RowKit.Below w2.heap.size w2 W → EBox W w.heap.size x from fun W b => HX2.out.below b)
    clear hg2 hr2
    go_wp2_with fail
    go_region_held3 (fun w' => w'.cell? ⟨w.heap.size, 0, none⟩ = some (.int .i64 x.op) ∧ w'.cell? ⟨w.heap.size, 1, none⟩ = some (.bool x.resp) ∧ w'.cell? ⟨w.heap.size, 2, none⟩ = some (.bool x.bad) ∧ w'.cell? ⟨w.heap.size, 3, none⟩ = some (.int .i64 x.as_) ∧ w'.cell? ⟨w.heap.size, 4, none⟩ = some (.int .u32 (x.ts : Int)) ∧ w'.cell? ⟨w.heap.size, 5, none⟩ = some (.int .u32 (x.fs : Int)) ∧ w'.cell? ⟨w.heap.size, 6, none⟩ = some (.slice x.A x.n x.c) ∧ w'.cell? ⟨w.heap.size, 7, none⟩ = some (.slice x.B x.m x.e))
      (first | exact ⟨d0, d1, d2, d3, d4, d5, d6, d7⟩ | exact (HD.out _ hb3.out).cells | exact (HD.out _ (hb3.out.alloc hb3.out.size _)).cells | exact hx4.out.cells)
      (first
        | (go_at_call 75; (with_reducible refine (HS.out _).mono ?_); rintro e w3 ⟨rfl, b3⟩
           have hb3 := Lib.hid (show RowKit.Below w2.heap.size w2 w3 by first | exact b3 | exact (below_drewN' (Below.refl _ _) _).trans b3)
           clear b3)
        | (go_at_call 39; (with_reducible refine (HQ2.out _ hb3.out).mono ?_); rintro e w4 ⟨A4, k4, rfl, hg4, hr4⟩
           have hx4 := Lib.hid (HX2.out.gr hr4 HNe2.out)
           have HG4 := Lib.hid hg4
           have HR4 := Lib.hid hr4
           clear hg4 hr4))
    have HNe4 := Lib.hid (HR4.out.apart HNe2.out HX2.out.lt)
    have HB4 := Lib.hid (Nat.le_trans HB2.out HR4.out.1.size)
    have HR4' := Lib.hid (HR2.out.trans HR4.out)
    have HQ4 := Lib.hid (show Calls Tryz.prog 40 #[.slice A4 (n + 2 + 6) k4, .int .i64 4, .slice (some ⟨w4.heap.size, 0, none⟩) 2 2] (w4.alloc (.cells #[.int .u32 (x.ts : Int), .int .u32 (x.fs : Int)] 22)) fun e w' => ∃ A' c', e = .returned (.slice A' (n + 2 + 6 + 8) c') ∧ Gb w' base A' (n + 2 + 6 + 8) c' (xs ++ (be 1 (fir x) ++ be 1 0) ++ (be 2 (szf x : Nat) ++ be 2 x.as_ ++ be 2 0) ++ (be 4 (x.ts : Nat) ++ be 4 (x.fs : Nat))) ∧ Gr w4 A4 w' A' by
      refine (put20_any 4 (HG4.out.alloc _) (Nat.le_trans HB4.out (by simp)) (by omega) (by omega) (zs_new w4 .u32 [(x.ts : Int), (x.fs : Int)] 22 2 rfl) (.inr (own_ne HG4.out (Nat.le_refl _))) (by intro z hz; simp at hz; omega) (by omega) (by omega) (d := 2)).mono ?_
      rintro e w' ⟨A', c', rfl, hg, hr⟩
      exact ⟨A', c', rfl, by simpa using hg, ((Gr.refl w4 A4).alloc _).trans hr⟩)
    obtain ⟨f0, f1, f2, f3, f4, f5, f6, f7⟩ := hx4.out.cells
    clear d0 d1 d2 d3 d4 d5 d6 d7
    go_wp2_with fail
    refine HQ4.out.mono ?_
    rintro e w5 ⟨A5, k5, rfl, hg5, hr5⟩
    have hx5 := Lib.hid (hx4.out.gr hr5 HNe4.out)
    have HNe5 := Lib.hid (hr5.apart HNe4.out hx4.out.lt)
    have HB5 := Lib.hid (Nat.le_trans HB4.out hr5.1.size)
    have HR5 := Lib.hid (HR4'.out.trans hr5)
    have HG5 := Lib.hid hg5
    clear f0 f1 f2 f3 f4 f5 f6 f7 hg5 hr5
    obtain ⟨d0, d1, d2, d3, d4, d5, d6, d7⟩ := hx5.out.cells
    have HXa := Lib.hid (HX.out.gr HH.out HR5.out HB0.out)
    have HYa := Lib.hid (HY.out.gr HH.out HR5.out HB0.out)
    have HT1 := Lib.hid (fun W b => ft_step HG5.out HB5.out HXa.out hxm (by omega : n + 2 + 6 + 8 ≤ 536870912) W b)
    go_wp2_with fail
    go_region_held3 (fun w' => w'.cell? ⟨w.heap.size, 6, none⟩ = some (.slice x.A x.n x.c) ∧ w'.cell? ⟨w.heap.size, 7, none⟩ = some (.slice x.B x.m x.e))
      (first | exact ⟨d6, d7⟩ | exact hx6.out.cells.2.2.2.2.2.2 | exact hx7.out.cells.2.2.2.2.2.2)
      (first
        | (go_at_call 76; (with_reducible refine (HT1.out _ ?_).mono ?_); exact (Below.refl _ _).drew; rintro e w6 ⟨A6, k6, rfl, hg6, hr6⟩
           have hx6 := Lib.hid (hx5.out.gr hr6 HNe5.out)
           have HG6 := Lib.hid hg6
           have HR6 := Lib.hid hr6
           have HNe6 := Lib.hid (hr6.apart HNe5.out hx5.out.lt)
           have HT2 := Lib.hid (fun W b => ft_step HG6.out (Nat.le_trans HB5.out hr6.1.size) (HYa.out.gr HG5.out hr6 HB5.out) hym (by have := fld_lim x.n; omega) W b)
           clear hg6 hr6)
        | (go_at_call 76; (with_reducible refine (HT2.out _ ?_).mono ?_); first | exact Below.refl _ _ | exact (Below.refl _ _).drew
           rintro e w7 ⟨A7, k7, rfl, hg7, hr7⟩
           have hx7 := Lib.hid (hx6.out.gr hr7 HNe6.out)
           have HG7 := Lib.hid hg7
           have HR7 := Lib.hid ((HR5.out.trans HR6.out).trans hr7)
           clear hg7 hr7))
    have hE := Lib.hid (show n + 2 + 6 + 8 + (4 + fld x.n) + (4 + fld x.m) = n + szf x by unfold szf; omega)
    have hL := Lib.hid (show xs ++ (be 1 (fir x) ++ be 1 0) ++ (be 2 (szf x : Nat) ++ be 2 x.as_ ++ be 2 0) ++ (be 4 (x.ts : Nat) ++ be 4 (x.fs : Nat)) ++ textB x.xs ++ textB x.ys = xs ++ extB x by unfold extB; simp only [List.append_assoc])
    clear d0 d1 d2 d3 d4 d5 d6 d7
    go_wp2_with fail
    go_ret
    exact ⟨A7, k7, by rw [← hE.out]; rfl, by rw [← hE.out, ← hL.out]; exact HG7.out, HR7.out⟩
