/- reader.tag. -/
import Derived.Test.YtddpgckbdccldaaE9
namespace Go.Proofs.Ytddpgckbdccldaa
open Go.RowKit
set_option linter.unusedVariables false
set_option linter.unusedSimpArgs false
set_option maxRecDepth 100000
/-- what reading a tag comes to: a fault, or the tag -/
def tagM (bs : List Nat) (a h L : Nat) : Except (Nat × Nat) Nat :=
  if a = bs.length then .error (a, 72)
  else if tg ((bs.getD a 0 : Nat) : Int) = false then .error (a, 70)
  else if L = 0 then .error (a, 75)
  else if h = 4096 then .error (a, 2)
  else .ok (bs.getD a 0)
def TagP (g : Nat) (A : Option Addr) (n c : Nat) (bs : List Nat) (a h L : Nat) (w : World) (e : Ending) (w' : World) : Prop :=
  (∃ p q, tagM bs a h L = .error (p, q) ∧ q ≠ 0 ∧ e = .returned (.tuple #[.int .i64 0, .agg #[.int .i64 (p : Int), .int .i64 (q : Int)]]) ∧ Kp g w w' ∧ Rb w' g A n c a h) ∨
  (∃ x, tagM bs a h L = .ok x ∧ e = .returned (.tuple #[.int .i64 (x : Int), .agg #[.int .i64 0, .int .i64 0]]) ∧ Kp g w w' ∧ Rb w' g A n c (a + 1) (h + 1))
theorem results_tmp_cell {fn : Func} {p u : Tmp} {ty : TypeId} (h : fn.results = #[.tmp u, .cell p ty]) (tmps : Array Value) (P : Program) (w : World) :
    (results fn tmps).run P w =
      ((asAddr (tmps.getD p undef)).run P w).andThen fun a w₁ => ((loadVar ty a).run P w₁).andThen fun v w₂ => .ok (.tuple #[tmps.getD u undef, v]) w₂ := by
  simp only [results, h]
  simp [Sem.run_bind, Result.andThen]
theorem res_two {fn : Func} {p u : Tmp} (h : fn.results = #[.tmp u, .cell p 47]) {w : World} {tm : Array Value} {x y z : Value} {b : Nat} (h5 : tm.getD p undef = .pointer (some ⟨b, 0, none⟩)) (h4 : tm.getD u undef = x) (hb : B2 w b 47 y z) :
    (results fn tm).run Try.prog w = .ok (.tuple #[x, .agg #[y, z]]) w := by
  have e : (asAddr (.pointer (some ⟨b, 0, none⟩))).run Try.prog w = .ok ⟨b, 0, none⟩ w := by simp [asAddr]
  rw [results_tmp_cell h, h5, h4, e]
  simp only [Result.andThen]
  rw [run_loadVar_row _ b 47 47 _ (0, 0) _ hb Try.underlying47 rfl (by kernel_rfl)]
/-- behind a store of a fault in a box of one's own -/
theorem fault_fin {w w1 : World} {g : Nat} {A : Option Addr} {n c a h : Nat} (R : Rb w g A n c a h) (B : Below w.heap.size w w1) {y z : Value} (X : B2 w1 w.heap.size 47 y z) (k : Nat) (p q : Value) :
    Kp g w (((w1.drewN k).setCell ⟨w.heap.size, 0, none⟩ p).setCell ⟨w.heap.size, 1, none⟩ q) ∧ Rb (((w1.drewN k).setCell ⟨w.heap.size, 0, none⟩ p).setCell ⟨w.heap.size, 1, none⟩ q) g A n c a h ∧
      B2 (((w1.drewN k).setCell ⟨w.heap.size, 0, none⟩ p).setCell ⟨w.heap.size, 1, none⟩ q) w.heap.size 47 p q := by
  have hb := below_set2 (below_drewN B k) (Nat.le_refl _) p q
  exact ⟨Kp.of hb, Bx.keep R hb R.lt, B2.set (w := w1.drewN k) X p q⟩
theorem rb_step {w1 : World} {g s : Nat} {A : Option Addr} {n c a h : Nat} (R : Rb w1 g A n c a h) (hne : s ≠ g) (p q : Value) (a' h' : Nat) :
    Rb ((((w1.setCell ⟨g, 1, none⟩ (.int .i64 (a' : Int))).setCell ⟨g, 2, none⟩ (.int .i64 (h' : Int))).setCell ⟨s, 0, none⟩ p).setCell ⟨s, 1, none⟩ q) g A n c a' h' := by
  unfold Rb Bx at R ⊢
  simp [World.setCell, Array.getElem?_modify, R, hne]
theorem b2_step {w1 : World} {g s : Nat} {y z : Value} (X : B2 w1 s 47 y z) (hne : s ≠ g) (p q u v : Value) :
    B2 ((((w1.setCell ⟨g, 1, none⟩ u).setCell ⟨g, 2, none⟩ v).setCell ⟨s, 0, none⟩ p).setCell ⟨s, 1, none⟩ q) s 47 p q := by
  unfold B2 at X ⊢
  simp [World.setCell, Array.getElem?_modify, X, Ne.symm hne]
theorem ok_fin {w w1 : World} {g : Nat} {A : Option Addr} {n c a h : Nat} (R : Rb w g A n c a h) (B : Below w.heap.size w w1) {y z : Value} (X : B2 w1 w.heap.size 47 y z) (k : Nat) (p q : Value) :
    Kp g w (((((w1.drewN k).setCell ⟨g, 1, none⟩ (.int .i64 ((a : Int) + 1))).setCell ⟨g, 2, none⟩ (.int .i64 ((h : Int) + 1))).setCell ⟨w.heap.size, 0, none⟩ p).setCell ⟨w.heap.size, 1, none⟩ q) ∧
      Rb (((((w1.drewN k).setCell ⟨g, 1, none⟩ (.int .i64 ((a : Int) + 1))).setCell ⟨g, 2, none⟩ (.int .i64 ((h : Int) + 1))).setCell ⟨w.heap.size, 0, none⟩ p).setCell ⟨w.heap.size, 1, none⟩ q) g A n c (a + 1) (h + 1) ∧
      B2 (((((w1.drewN k).setCell ⟨g, 1, none⟩ (.int .i64 ((a : Int) + 1))).setCell ⟨g, 2, none⟩ (.int .i64 ((h : Int) + 1))).setCell ⟨w.heap.size, 0, none⟩ p).setCell ⟨w.heap.size, 1, none⟩ q) w.heap.size 47 p q := by
  have hg := R.lt
  have hne : w.heap.size ≠ g := by omega
  have R1 : Rb (w1.drewN k) g A n c a h := Bx.keep R (below_drewN B k) hg
  have e1 : ((a : Int) + 1) = ((a + 1 : Nat) : Int) := by omega
  have e2 : ((h : Int) + 1) = ((h + 1 : Nat) : Int) := by omega
  refine ⟨?_, by rw [e1, e2]; exact rb_step R1 hne p q (a + 1) (h + 1), b2_step (w1 := w1.drewN k) X hne p q _ _⟩
  have k1 : Kp g w (((w1.drewN k).setCell ⟨g, 1, none⟩ (.int .i64 ((a : Int) + 1))).setCell ⟨g, 2, none⟩ (.int .i64 ((h : Int) + 1))) := ((Kp.of B).drewN k).set 1 _ |>.set 2 _
  refine ⟨k1.os, k1.tape, k1.output, by simpa [World.setCell] using k1.size, fun b hb hbg => ?_⟩
  rw [← k1.block b hb hbg, Below.heap_setCell _ _ _ _ (by show b ≠ w.heap.size; omega), Below.heap_setCell _ _ _ _ (by show b ≠ w.heap.size; omega)]
set_option maxHeartbeats 4000000 in
theorem tag_any {w : World} {g : Nat} {A : Option Addr} {n c : Nat} {bs : List Nat} {a h L : Nat} (R : Rb w g A n c a h) (N : Nb w g A n c bs) (ha : a ≤ n) (hn : n ≤ 65535) (hL : L ≤ 16) (hh : h ≤ 4096) :
    Calls Try.prog 62 #[.pointer (some ⟨g, 0, none⟩), .int .i64 (L : Int)] w (TagP g A n c bs a h L w) := by
  have hg := R.lt
  obtain ⟨w1, hw1⟩ : ∃ w1, w1 = w.alloc (.cells #[.int .i64 0, .int .i64 0] 47) := ⟨_, rfl⟩
  have hb1 : Below w.heap.size w w1 := by rw [hw1]; exact (Below.refl _ _).alloc (Nat.le_refl _) _
  have hx1 : B2 w1 w.heap.size 47 (.int .i64 0) (.int .i64 0) := by rw [hw1]; exact B2.new w 47 _ _
  have HX := Lib.hid hx1
  have HB := Lib.hid hb1
  have hr1 : Rb w1 g A n c a h := R.keep hb1 hg
  obtain ⟨c0, c1, c2, f0, f1, f2⟩ := hr1.cells
  have HN := Lib.hid (N.below (hb1.mono (by omega)))
  have HLen := Lib.hid N.len
  have HLm := Lib.hid N.lim
  have HG := Lib.hid hg
  have HF := Lib.hid (fun k p q => fault_fin R hb1 hx1 k p q)
  have HO := Lib.hid (fun k p q => ok_fin R hb1 hx1 k p q)
  clear R N hx1 hb1 hr1 hg
  obtain ⟨d0, d1, e0, e1⟩ := HX.out.cells
  by_cases h0 : a = n
  · subst h0
    have HT := Lib.hid (show tagM bs a h L = .error (a, 72) by unfold tagM; rw [if_pos HLen.out.symm])
    go_enter Try.func62, Try.ntmps62
    go_upto_region 1 with (fail)
    rw [← hw1]
    clear hw1
    go_quiet (fail)
    go_wp2_with fail
    go_region
    have HF2 := Lib.hid (HF.out (nq + 1) (.int .i64 (a : Int)) (.int .i64 72))
    clear HF
    go_wp2_with fail
    refine bodyPost_ret (res_two rfl rfl rfl HF2.out.2.2) rfl ?_
    exact .inl ⟨a, 72, HT.out, by omega, rfl, HF2.out.1, HF2.out.2.1⟩
  have k0 : ((a : Int) == (n : Int)) = false := by simp; omega
  have k0' : ((a : Int) = (n : Int)) = False := by simp; omega
  have hlt : a < n := by omega
  obtain ⟨b, off, rfl, hb, hx⟩ := HN.out.at_ hlt
  have HX2 := Lib.hid (show bs.getD a 0 < 256 from HLm.out.get (by omega) a)
  obtain ⟨x, hxe⟩ : ∃ x, Hid (bs.getD a 0 = x) := ⟨_, Lib.hid rfl⟩
  rw [hxe.out] at hx HX2
  have hx256 := HX2.out
  have HNE := Lib.hid (show a ≠ bs.length by rw [HLen.out]; exact h0)
  rcases htg : tg (x : Int) with _ | _
  · have HT := Lib.hid (show tagM bs a h L = .error (a, 70) by unfold tagM; rw [if_neg HNE.out, hxe.out, if_pos htg])
    have HI := Lib.hid (fun w => isTag_any (x : Int) w)
    rw [htg] at HI
    clear htg h0
    go_enter Try.func62, Try.ntmps62
    go_upto_region 1 with (fail)
    rw [← hw1]
    clear hw1
    go_quiet (fail)
    generalize nq = q1
    go_wp2_with fail
    go_quiet (fail)
    go_wp2_with fail
    refine (HI.out _).mono ?_
    rintro e w' ⟨rfl, rfl⟩
    go_wp2_with fail
    go_region
    have HF2 := Lib.hid (HF.out (q1 + nq + 1) (.int .i64 (a : Int)) (.int .i64 70))
    clear HF
    go_wp2_with fail
    refine bodyPost_ret (res_two rfl rfl rfl HF2.out.2.2) rfl ?_
    exact .inl ⟨a, 70, HT.out, by omega, rfl, HF2.out.1, HF2.out.2.1⟩
  have HI := Lib.hid (fun w => isTag_any (x : Int) w)
  rw [htg] at HI
  have HTG := Lib.hid (show ¬ tg ((bs.getD a 0 : Nat) : Int) = false by rw [hxe.out, htg]; decide)
  clear htg h0
  by_cases l0 : L = 0
  · have HT := Lib.hid (show tagM bs a h L = .error (a, 75) by unfold tagM; rw [if_neg HNE.out, if_neg HTG.out, if_pos l0])
    subst l0
    go_enter Try.func62, Try.ntmps62
    go_upto_region 1 with (fail)
    rw [← hw1]
    clear hw1
    go_quiet (fail)
    generalize nq = q1
    go_wp2_with fail
    go_quiet (fail)
    go_wp2_with fail
    refine (HI.out _).mono ?_
    rintro e w' ⟨rfl, rfl⟩
    go_wp2_with fail
    go_region
    have HF2 := Lib.hid (HF.out (q1 + nq + 1) (.int .i64 (a : Int)) (.int .i64 75))
    clear HF
    go_wp2_with fail
    refine bodyPost_ret (res_two rfl rfl rfl HF2.out.2.2) rfl ?_
    exact .inl ⟨a, 75, HT.out, by omega, rfl, HF2.out.1, HF2.out.2.1⟩
  have l1 : ((L : Int) == 0) = false := by simp; omega
  have l2 : ((L : Int) = 0) = False := by simp; omega
  have HL0 := Lib.hid l0
  clear l0
  by_cases h4 : h = 4096
  · have HT := Lib.hid (show tagM bs a h L = .error (a, 2) by unfold tagM; rw [if_neg HNE.out, if_neg HTG.out, if_neg HL0.out, if_pos h4])
    subst h4
    go_enter Try.func62, Try.ntmps62
    go_upto_region 1 with (fail)
    rw [← hw1]
    clear hw1
    go_quiet (fail)
    generalize nq = q1
    go_wp2_with fail
    go_quiet (fail)
    go_wp2_with fail
    refine (HI.out _).mono ?_
    rintro e w' ⟨rfl, rfl⟩
    go_wp2_with fail
    go_region
    have HF2 := Lib.hid (HF.out (q1 + nq + 1) (.int .i64 (a : Int)) (.int .i64 2))
    clear HF
    go_wp2_with fail
    refine bodyPost_ret (res_two rfl rfl rfl HF2.out.2.2) rfl ?_
    exact .inl ⟨a, 2, HT.out, by omega, rfl, HF2.out.1, HF2.out.2.1⟩
  have m1 : ((h : Int) == 4096) = false := by simp; omega
  have m2 : ((h : Int) = 4096) = False := by simp; omega
  have HT := Lib.hid (show tagM bs a h L = .ok x by unfold tagM; rw [if_neg HNE.out, if_neg HTG.out, if_neg HL0.out, if_neg h4, hxe.out])
  clear h4
  have hne1 : (g = w.heap.size) = False := by have := HG.out; simp; omega
  have hne2 : (w.heap.size = g) = False := by have := HG.out; simp; omega
  go_enter Try.func62, Try.ntmps62
  go_upto_region 1 with (fail)
  rw [← hw1]
  clear hw1
  go_quiet (fail)
  generalize nq = q1
  go_wp2_with fail
  go_quiet (fail)
  go_wp2_with fail
  refine (HI.out _).mono ?_
  rintro e w' ⟨rfl, rfl⟩
  go_wp2_with fail
  have HF2 := Lib.hid (HO.out (q1 + nq) (.int .i64 0) (.int .i64 0))
  clear HF HO
  refine bodyPost_ret (res_two rfl rfl rfl HF2.out.2.2) rfl ?_
  exact .inr ⟨x, HT.out, rfl, HF2.out.1, HF2.out.2.1⟩
end Go.Proofs.Ytddpgckbdccldaa
