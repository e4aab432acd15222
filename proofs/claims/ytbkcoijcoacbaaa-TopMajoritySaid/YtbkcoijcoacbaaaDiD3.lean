/- disc: seconds that go by. -/
import Derived.Test.YtbkcoijcoacbaaaDiD2
import Derived.Laws.ResultCell
namespace Go.Proofs.Ytbkcoijcoacbaaa.Di
open Go.RowKit
set_option linter.unusedVariables false
set_option linter.unusedSimpArgs false
set_option maxRecDepth 100000
theorem set_cell {w : World} {g : Nat} {cs : Array Value} {t : TypeId} {fr : Nat × Nat} (h : w.heap[g]? = some (.cells cs t fr)) (i : Nat) (v : Value) : (w.setCell ⟨g, i, none⟩ v).heap[g]? = some (.cells (cs.setIfInBounds i v) t fr) := by
  simp [World.setCell, Array.getElem?_modify, h]
theorem set_far (w : World) (g i : Nat) (v : Value) {k : Nat} (hk : k ≠ g) : (w.setCell ⟨g, i, none⟩ v).heap[k]? = w.heap[k]? := by
  simp only [World.setCell, Array.getElem?_modify]
  rw [if_neg (fun h => hk h.symm)]
theorem below_set {w0 w : World} {B g : Nat} (h : RowKit.Below B w0 w) (hg : B ≤ g) (i : Nat) (v : Value) : RowKit.Below B w0 (w.setCell ⟨g, i, none⟩ v) :=
  ⟨h.os, h.tape, h.output, by rw [World.size_setCell]; exact h.size, fun k hk => (set_far w g i v (by omega)).trans (h.block k hk)⟩
def put5 (w : World) (g : Nat) (c : Ck) : World := ((((w.setCell ⟨g, 0, none⟩ (.int .i64 c.f)).setCell ⟨g, 1, none⟩ (.int .i64 c.l)).setCell ⟨g, 2, none⟩ (.int .i64 c.a)).setCell ⟨g, 3, none⟩ (.int .i64 c.p)).setCell ⟨g, 4, none⟩ (.bool c.s)
theorem Box.put {w : World} {g : Nat} {s0 : Ck} (h : Box w g s0) (c : Ck) : Box (put5 w g c) g c :=
  set_cell (set_cell (set_cell (set_cell (set_cell h 0 (.int .i64 c.f)) 1 (.int .i64 c.l)) 2 (.int .i64 c.a)) 3 (.int .i64 c.p)) 4 (.bool c.s)
theorem below_put5 {w0 w : World} {B g : Nat} (h : RowKit.Below B w0 w) (hg : B ≤ g) (c : Ck) : RowKit.Below B w0 (put5 w g c) :=
  below_set (below_set (below_set (below_set (below_set h hg _ _) hg _ _) hg _ _) hg _ _) hg _ _
theorem Box.fr {w : World} {g : Nat} {c : Ck} (h : Box w g c) (i : Nat) : w.frozen? ⟨g, i, none⟩ = false := by
  have h' : w.heap[g]? = _ := h
  simp [World.frozen?, h']
theorem Box.below {w w' : World} {g B : Nat} {c : Ck} (h : Box w g c) (b : Below B w w') (hg : g < B) : Box w' g c := (b.block g hg).trans h
theorem Box.setL {w : World} {g : Nat} {c : Ck} (h : Box w g c) (x : Int) : Box (w.setCell ⟨g, 1, none⟩ (.int .i64 x)) g { c with l := x } := set_cell h 1 _
theorem Box.setO {w : World} {g k : Nat} {c : Ck} (h : Box w g c) (hk : g ≠ k) (i : Nat) (v : Value) : Box (w.setCell ⟨k, i, none⟩ v) g c := (set_far w k i v hk).trans h
theorem results_ctt {fn : Func} {p u v : Tmp} {ty : TypeId} (h : fn.results = #[.cell p ty, .tmp u, .tmp v]) (tmps : Array Value) (P : Program) (w : World) :
    (results fn tmps).run P w =
      ((asAddr (tmps.getD p undef)).run P w).andThen fun a w₁ => ((loadVar ty a).run P w₁).andThen fun x w₂ => .ok (.tuple #[x, tmps.getD u undef, tmps.getD v undef]) w₂ := by
  simp only [results, h]
  simp [Sem.run_bind, Result.andThen]
theorem Box.ret3 {w : World} {g : Nat} {c : Ck} (h : Box w g c) {fn : Func} (hf : fn.results = #[.cell 4 45, .tmp 5, .tmp 6]) (n E : Int) (tmps : Array Value) (hp : tmps.getD 4 undef = .pointer (some ⟨g, 0, none⟩)) (hn : tmps.getD 5 undef = .int .i64 n) (hq : tmps.getD 6 undef = .int .i64 E) :
    (results fn tmps).run Try.prog w = .ok (.tuple #[c.val, .int .i64 n, .int .i64 E]) w := by
  rw [results_ctt hf]
  have hl := run_loadVar_row (P := Try.prog) w g 45 45 #[.int .i64 c.f, .int .i64 c.l, .int .i64 c.a, .int .i64 c.p, .bool c.s] (0, 0) _ h Try.underlying45 rfl (by kernel_rfl)
  rw [hp, hq, hn]
  simp [asAddr, Result.andThen, hl, Ck.val]
/-- what is slewed in a second -/
def mv (l : Int) : Int := if l.tdiv 64 = 0 then l else l.tdiv 64
def slL : Nat → Int → Int
  | 0, l => l
  | k + 1, l => slL k l - mv (slL k l)
theorem tdiv64 (l : Int) : (0 ≤ l → l.tdiv 64 = l / 64) ∧ (l ≤ 0 → l.tdiv 64 = -((-l) / 64)) := by
  refine ⟨fun h => Int.tdiv_eq_ediv_of_nonneg h, fun h => ?_⟩
  have h2 : (-l).tdiv 64 = (-l) / 64 := Int.tdiv_eq_ediv_of_nonneg (by omega)
  rw [← h2, Int.neg_tdiv, Int.neg_neg]
theorem mv_lim (l : Int) : (0 ≤ l → 0 ≤ mv l ∧ mv l ≤ l) ∧ (l ≤ 0 → l ≤ mv l ∧ mv l ≤ 0) := by
  unfold mv
  have h := tdiv64 l
  refine ⟨fun h0 => ?_, fun h0 => ?_⟩
  · have := h.1 h0
    by_cases e : l.tdiv 64 = 0
    · rw [if_pos e]; omega
    · rw [if_neg e]; omega
  · have := h.2 h0
    by_cases e : l.tdiv 64 = 0
    · rw [if_pos e]; omega
    · rw [if_neg e]; omega
theorem slL_lim (k : Nat) (l : Int) : (0 ≤ l → 0 ≤ slL k l ∧ slL k l ≤ l) ∧ (l ≤ 0 → l ≤ slL k l ∧ slL k l ≤ 0) := by
  induction k with
  | zero => unfold slL; omega
  | succ k ih =>
    have := mv_lim (slL k l)
    unfold slL
    omega
theorem may_below (c : Ck) (w : World) : Calls Try.prog 31 #[c.val] w fun e w' => e = .returned (.bool (decide c.may)) ∧ RowKit.Below w.heap.size w w' := by
  refine (may_any c w).mono ?_
  rintro e w' ⟨rfl, rfl⟩
  exact ⟨rfl, (Below.refl _ _).alloc (Nat.le_refl _) _⟩
theorem may_yes {c : Ck} (h : c.may) (w : World) : Calls Try.prog 31 #[.agg #[.int .i64 c.f, .int .i64 c.l, .int .i64 c.a, .int .i64 c.p, .bool c.s]] w fun e w' => e = .returned (.bool true) ∧ RowKit.Below w.heap.size w w' := by
  have := may_below c w
  rw [decide_eq_true h] at this
  exact this
theorem may_no {c : Ck} (h : ¬ c.may) (w : World) : Calls Try.prog 31 #[.agg #[.int .i64 c.f, .int .i64 c.l, .int .i64 c.a, .int .i64 c.p, .bool c.s]] w fun e w' => e = .returned (.bool false) ∧ RowKit.Below w.heap.size w w' := by
  have := may_below c w
  rw [decide_eq_false h] at this
  exact this
/-- what Slew tells -/
def Ck.slewOk (c : Ck) (n : Int) : Prop := c.may ∧ 0 ≤ n ∧ n ≤ 4096
instance (c : Ck) (n : Int) : Decidable (c.slewOk n) := by unfold Ck.slewOk; exact inferInstance
def Ck.slewed (c : Ck) (n : Int) : Ck := { c with l := slL n.toNat c.l }
def Ck.moved (c : Ck) (n : Int) : Int := c.l - slL n.toNat c.l + n * c.f
theorem two_new {w w1 : World} {c : Ck} (hw1 : w1 = (w.alloc (.cells #[.int .i64 c.f, .int .i64 c.l, .int .i64 c.a, .int .i64 c.p, .bool c.s] 45)).alloc (.cells #[.int .i64 0, .int .i64 0, .int .i64 0, .int .i64 0, .bool false] 45)) :
    RowKit.Below w.heap.size w w1 ∧ Box w1 w.heap.size c ∧ Box w1 (w.heap.size + 1) Ck.zero ∧ w1.heap.size = w.heap.size + 2 := by
  have e1 : (w.alloc (.cells #[.int .i64 c.f, .int .i64 c.l, .int .i64 c.a, .int .i64 c.p, .bool c.s] 45)).heap.size = w.heap.size + 1 := World.size_alloc ..
  have y := World.alloc_heap_new (w.alloc (.cells #[.int .i64 c.f, .int .i64 c.l, .int .i64 c.a, .int .i64 c.p, .bool c.s] 45)) (.cells #[.int .i64 0, .int .i64 0, .int .i64 0, .int .i64 0, .bool false] 45)
  rw [e1] at y
  subst hw1
  refine ⟨((Below.refl _ _).alloc (Nat.le_refl _) _).alloc (by omega) _, ?_, y, by rw [World.size_alloc, e1]⟩
  exact ((Below.refl (w.heap.size + 1) _).alloc (by omega) _).block _ (by omega) |>.trans (World.alloc_heap_new w _)
set_option maxHeartbeats 1000000 in
theorem slew_no {c : Ck} {n : Int} (h : ¬ c.slewOk n) (w : World) :
    Calls Try.prog 21 #[.agg #[.int .i64 c.f, .int .i64 c.l, .int .i64 c.a, .int .i64 c.p, .bool c.s], .int .i64 n] w fun e w' => e = .returned (.tuple #[Ck.zero.val, .int .i64 0, .int .i64 1]) ∧ RowKit.Below w.heap.size w w' := by
  obtain ⟨w1, hw1⟩ : ∃ w1, w1 = (w.alloc (.cells #[.int .i64 c.f, .int .i64 c.l, .int .i64 c.a, .int .i64 c.p, .bool c.s] 45)).alloc (.cells #[.int .i64 0, .int .i64 0, .int .i64 0, .int .i64 0, .bool false] 45) := ⟨_, rfl⟩
  obtain ⟨b1, x1, y1, s1⟩ := two_new hw1
  have HW := Lib.hid hw1
  have HB := Lib.hid b1
  have HX := Lib.hid x1
  have HY := Lib.hid y1
  have HS := Lib.hid s1
  have HN := Lib.hid h
  obtain ⟨c0, c1, c2, c3, c4⟩ := x1.cells
  clear hw1 b1 x1 y1 s1 h
  go_enter Try.func21, Try.ntmps21
  go_upto_region 1 with fail
  rw [← HW.out]
  by_cases hm : c.may
  · have HM := Lib.hid (fun w => may_yes hm w)
    by_cases h0 : n < 0
    · go_wp2_with fail
      refine (HM.out _).mono ?_
      rintro e w2 ⟨rfl, hb⟩
      have HB2 := Lib.hid (HB.out.trans (hb.mono (by have := HS.out; omega)))
      have HY2 := Lib.hid (HY.out.below hb (by have := HS.out; omega))
      clear hb c0 c1 c2 c3 c4
      obtain ⟨c0, c1, c2, c3, c4⟩ := HY2.out.cells
      have f0 := HY2.out.fr
      go_wp2_with fail
      exact bodyPost_ret ((HY2.out.put Ck.zero).ret3 rfl 0 1 _ rfl rfl rfl) rfl ⟨rfl, below_put5 HB2.out (by omega) Ck.zero⟩
    · have h0' : (n < 0) = False := by simp only [h0]
      have h1 : 4096 < n := by
        refine Classical.byContradiction fun h1 => HN.out ⟨hm, by omega, by omega⟩
      go_wp2_with fail
      refine (HM.out _).mono ?_
      rintro e w2 ⟨rfl, hb⟩
      have HB2 := Lib.hid (HB.out.trans (hb.mono (by have := HS.out; omega)))
      have HY2 := Lib.hid (HY.out.below hb (by have := HS.out; omega))
      clear hb c0 c1 c2 c3 c4
      obtain ⟨c0, c1, c2, c3, c4⟩ := HY2.out.cells
      have f0 := HY2.out.fr
      go_wp2_with fail
      exact bodyPost_ret ((HY2.out.put Ck.zero).ret3 rfl 0 1 _ rfl rfl rfl) rfl ⟨rfl, below_put5 HB2.out (by omega) Ck.zero⟩
  · have HM := Lib.hid (fun w => may_no hm w)
    go_wp2_with fail
    refine (HM.out _).mono ?_
    rintro e w2 ⟨rfl, hb⟩
    have HB2 := Lib.hid (HB.out.trans (hb.mono (by have := HS.out; omega)))
    have HY2 := Lib.hid (HY.out.below hb (by have := HS.out; omega))
    clear hb c0 c1 c2 c3 c4
    obtain ⟨c0, c1, c2, c3, c4⟩ := HY2.out.cells
    have f0 := HY2.out.fr
    go_wp2_with fail
    exact bodyPost_ret ((HY2.out.put Ck.zero).ret3 rfl 0 1 _ rfl rfl rfl) rfl ⟨rfl, below_put5 HB2.out (by omega) Ck.zero⟩
theorem kf_lim {k f n : Int} (h : 0 ≤ k) (h2 : k ≤ 4096) (hf : inB 2147483 f) : -10000000000 ≤ k * f ∧ k * f ≤ 10000000000 := by
  unfold inB at hf
  have a : k * f ≤ k * 2147483 := Int.mul_le_mul_of_nonneg_left hf.2 h
  have b : k * (-2147483) ≤ k * f := Int.mul_le_mul_of_nonneg_left hf.1 h
  omega
set_option maxHeartbeats 2000000 in
theorem slew_yes {c : Ck} {n : Int} (h : c.slewOk n) (w : World) :
    Calls Try.prog 21 #[.agg #[.int .i64 c.f, .int .i64 c.l, .int .i64 c.a, .int .i64 c.p, .bool c.s], .int .i64 n] w fun e w' => e = .returned (.tuple #[(c.slewed n).val, .int .i64 (c.moved n), .int .i64 0]) ∧ RowKit.Below w.heap.size w w' := by
  obtain ⟨w1, hw1⟩ : ∃ w1, w1 = (w.alloc (.cells #[.int .i64 c.f, .int .i64 c.l, .int .i64 c.a, .int .i64 c.p, .bool c.s] 45)).alloc (.cells #[.int .i64 0, .int .i64 0, .int .i64 0, .int .i64 0, .bool false] 45) := ⟨_, rfl⟩
  obtain ⟨b1, x1, y1, s1⟩ := two_new hw1
  obtain ⟨hm, hn0, hn1⟩ := h
  have HW := Lib.hid hw1
  have HB := Lib.hid b1
  have HX := Lib.hid x1
  have HY := Lib.hid y1
  have HS := Lib.hid s1
  have HL := Lib.hid hm
  obtain ⟨c0, c1, c2, c3, c4⟩ := x1.cells
  clear hw1 b1 x1 y1 s1
  go_enter Try.func21, Try.ntmps21
  go_upto_region 1 with fail
  rw [← HW.out]
  have HM := Lib.hid (fun w => may_yes hm w)
  clear hm
  have h0 : (n < 0) = False := by simp only [eq_iff_iff, iff_false]; omega
  have h1 : (4096 < n) = False := by simp only [eq_iff_iff, iff_false]; omega
  go_wp2_with fail
  refine (HM.out _).mono ?_
  rintro e w2 ⟨rfl, hb⟩
  have HB2 := Lib.hid (HB.out.trans (hb.mono (by have := HS.out; omega)))
  have HX2 := Lib.hid (HX.out.below hb (by have := HS.out; omega))
  have HY2 := Lib.hid (HY.out.below hb (by have := HS.out; omega))
  clear hb c0 c1 c2 c3 c4 h0 h1
  go_wp2_with fail
  go_loopw [7, 22] (fun m i wr => ∃ k : Nat, (k : Int) ≤ n ∧ i = .int .i64 (k : Int) ∧ m = .int .i64 (c.l - slL k c.l + k * c.f) ∧ Box wr w.heap.size ⟨c.f, slL k c.l, c.a, c.p, c.s⟩ ∧ Box wr (w.heap.size + 1) Ck.zero ∧ RowKit.Below w.heap.size w wr) (fun _ i _ => (n.toNat - (match i with | .int _ z => z.toNat | _ => 0)))
  case atStart => exact ⟨0, by omega, rfl, by unfold slL; simp, HX2.out, HY2.out, HB2.out⟩
  case round =>
    obtain ⟨k, hk, rfl, rfl, hx, hy, hb⟩ := hrel
    obtain ⟨b0, b1, b2, b3, b4⟩ := hx.cells
    have f0 := hx.fr
    have HXr := Lib.hid hx
    have HYr := Lib.hid hy
    have HBr := Lib.hid hb
    have hz := slL_lim k c.l
    have hmz := mv_lim (slL k c.l)
    have HM1 := Lib.hid (show slL (k + 1) c.l = slL k c.l - mv (slL k c.l) from rfl)
    have HMV := Lib.hid (show mv (slL k c.l) = if (slL k c.l).tdiv 64 = 0 then slL k c.l else (slL k c.l).tdiv 64 from rfl)
    have hli := HL.out.2.1
    have hfi := HL.out.1
    have hkf := kf_lim (k := k) (n := n) (by omega) (by omega) hfi
    unfold inB at hli hfi
    have HK := Lib.hid (show (((k + 1 : Nat) : Int)) * c.f = k * c.f + c.f by rw [Int.natCast_add, Int.add_mul]; omega)
    obtain ⟨m, hm⟩ : ∃ m, m = mv (slL k c.l) := ⟨_, rfl⟩
    obtain ⟨z, hzz⟩ : ∃ z, z = slL k c.l := ⟨_, rfl⟩
    rw [← hm] at hmz HM1 HMV
    rw [← hzz] at hz hmz HM1 HMV b1 HXr
    obtain ⟨kf, hkk⟩ : ∃ kf, kf = (k : Int) * c.f := ⟨_, rfl⟩
    rw [← hkk] at hkf HK
    have HZ := Lib.hid hzz
    have HKK := Lib.hid hkk
    rw [← hzz, ← hkk]
    clear hx hy hb hm hzz hkk
    have hM : -3000000000000000000 ≤ c.l - z + kf ∧ c.l - z + kf ≤ 3000000000000000000 := by omega
    have hM2 : -3000000000000000000 ≤ c.l - (z - m) + (kf + c.f) ∧ c.l - (z - m) + (kf + c.f) ≤ 3000000000000000000 := by omega
    obtain ⟨M, hMM⟩ : ∃ M, M = c.l - z + kf := ⟨_, rfl⟩
    rw [← hMM] at hM ⊢
    have HMM := Lib.hid hMM
    clear hMM
    by_cases hkn : (k : Int) < n
    · have e1 : decide ((k : Int) < n) = true := by simpa using hkn
      have HE := Lib.hid hM2
      have ht := tdiv64 z
      by_cases e : z.tdiv 64 = 0
      · have em : m = z := by rw [HMV.out, if_pos e]
        subst em
        clear ht
        go_wp2_with fail
        refine ⟨⟨k + 1, by omega, rfl, ?_, ?_, HYr.out.setO (by omega) _ _, below_set HBr.out (Nat.le_refl _) _ _⟩, ?_⟩
        · have h1 := HM1.out
          have h2 := HK.out
          have h3 := HMM.out
          have h4 := HZ.out
          have h5 := HKK.out
          congr 1
          omega
        · have h1 := HM1.out
          have h2 := HZ.out
          have := HXr.out.setL 0
          rw [show slL (k + 1) c.l = 0 by omega]
          exact this
        · show n.toNat - ((k : Int) + 1).toNat < n.toNat - (k : Int).toNat
          omega
      · have em : m = z.tdiv 64 := by rw [HMV.out, if_neg e]
        have hm0 : (m = 0) = False := by simp only [eq_iff_iff, iff_false]; omega
        replace em := em.symm
        have hz0 : (m == 0) = false := by simp only [beq_eq_false_iff_ne, ne_eq, hm0, not_false_eq_true]
        clear e ht
        go_wp2_with fail
        refine ⟨⟨k + 1, by omega, rfl, ?_, ?_, HYr.out.setO (by omega) _ _, below_set HBr.out (Nat.le_refl _) _ _⟩, ?_⟩
        · have h1 := HM1.out
          have h2 := HK.out
          have h3 := HMM.out
          have h4 := HZ.out
          have h5 := HKK.out
          congr 1
          omega
        · have h1 := HM1.out
          have := HXr.out.setL (z - m)
          rw [h1]
          exact this
        · show n.toNat - ((k : Int) + 1).toNat < n.toNat - (k : Int).toNat
          omega
    · have e1 : ((k : Int) < n) = False := by simp only [eq_iff_iff, iff_false]; omega
      obtain ⟨d0, d1, d2, d3, d4⟩ := HYr.out.cells
      have g0 := HYr.out.fr
      have ek : (k : Int) = n := by omega
      have HEK := Lib.hid ek
      clear ek hkn hmz hM2
      go_wp2_with fail
      have hr := (HYr.out.put ⟨c.f, z, c.a, c.p, c.s⟩)
      refine bodyPost_ret (hr.ret3 rfl M 0 _ rfl rfl rfl) rfl ⟨?_, below_put5 HBr.out (by omega) ⟨c.f, z, c.a, c.p, c.s⟩⟩
      have h1 := HZ.out
      have h2 := HMM.out
      have h3 := HEK.out
      have h4 := HKK.out
      have e2 : n.toNat = k := by omega
      unfold Ck.slewed Ck.moved Ck.val
      rw [e2, ← h1, ← h3, ← h4, ← h2]
end Go.Proofs.Ytbkcoijcoacbaaa.Di
