/- wire: bytes copied; a text with its length ahead. -/
import Derived.Test.YtompggkdjbkjjaaWiR1
import Derived.Test.YtompggkdjbkjjaaWiW3
import Derived.Deep.QuietTactic
import Derived.BigQuiet
import Derived.Deep.RegionHeld3
import Derived.Deep.Cut
import Derived.StillTailTactics
namespace Go.Proofs.Ytompggkdjbkjjaa.Wi
open Go.RowKit
set_option linter.unusedVariables false
set_option maxRecDepth 100000
theorem Gb.empty (w : World) (base : Nat) (h : base ≤ w.heap.size) : Gb (w.alloc (.cells #[] 5)) base (some ⟨w.heap.size, 0, none⟩) 0 0 [] :=
  ⟨rfl, rfl, .inr ⟨w.heap.size, 0, #[], rfl, h, heap_alloc_new w _, Nat.le_refl _, Nat.zero_le _, rfl, rfl⟩⟩
theorem eql_nil (A : Option Addr) (n c : Nat) (W : World) : (binOp BinOp.eql 52 (.slice A n c) (.slice none 0 0)).run Try.prog W = .ok (.bool A.isNone) W := by
  cases A <;> simp [binOp] <;> rfl
theorem clone_any {w : World} {B n c : Nat} {A : Option Addr} {xs : List Nat} (h : Nb w B A n c xs) (hB : B ≤ w.heap.size) (hn : n ≤ 1073741824) :
    Calls Try.prog 57 #[.slice A n c] w fun e w' => ∃ A' c', e = .returned (.slice A' n c') ∧ Nb w' w'.heap.size A' n c' xs ∧ (∀ ad, A' = some ad → w.heap.size ≤ ad.block) ∧ RowKit.Below w.heap.size w w' := by
  have heq := eql_nil A n c
  cases A with
  | none =>
    have hn0 : n = 0 := by
      rcases Nat.eq_zero_or_pos n with h0 | h0
      · exact h0
      · obtain ⟨b, off, e, _⟩ := h.cell h0
        cases e
    subst hn0
    have hx : xs = [] := List.eq_nil_of_length_eq_zero h.len
    subst hx
    clear h
    rw [Option.isNone_none] at heq
    go_enter Try.func57, Try.ntmps57
    go_wp2_with fail
    go_ret
    exact ⟨none, 0, rfl, Nb.nil _ _ 0 (by omega) none, (fun ad e => by cases e), Below.refl _ _⟩
  | some ad =>
    have HN := Lib.hid h
    have HG := Lib.hid (Gb.empty w w.heap.size (Nat.le_refl _))
    have HB := Lib.hid ((Below.refl w.heap.size w).alloc (Nat.le_refl _) (.cells #[] 5))
    have HNa := Lib.hid (h.keep (w' := w.alloc (.cells #[] 5)) fun p hp => HB.out.cell (Nat.lt_of_lt_of_le hp hB))
    clear h
    rw [Option.isNone_some] at heq
    go_enter Try.func57, Try.ntmps57
    go_wp2_with (at_builtin; refine wpList_app_row_b (w0 := w) _ rfl (.tmp 5) (.tmp 6) rfl rfl HG.out rfl HNa.out (by omega) HB.out (by simp) ?_; intro A1 c1 w1 hg1 hb1)
    rw [Nat.zero_add, List.nil_append] at hg1
    go_ret
    exact ⟨A1, c1, by simp, hg1.nb HN.out.lim, (fun ad e => by
      rcases hg1.2.2 with ⟨e2, _⟩ | ⟨g, cap, cur, e2, hg, _⟩
      · rw [e] at e2; cases e2
      · rw [e] at e2; cases e2; exact hg), hb1⟩
/-- a text with its length ahead, and what stands behind it -/
def txt (xs : List Nat) : Option (List Nat × List Nat) :=
  if xs.length < 4 then none
  else if 2048 < num (xs.take 4) ∨ (xs.drop 4).length < fld (num (xs.take 4)) then none
  else if (((xs.drop 4).drop (num (xs.take 4))).take (fld (num (xs.take 4)) - num (xs.take 4))).all (· == 0) then some ((xs.drop 4).take (num (xs.take 4)), (xs.drop 4).drop (fld (num (xs.take 4))))
  else none
def TxtPost (xs : List Nat) (w : World) (e : Ending) (w' : World) : Prop :=
  RowKit.Below w.heap.size w w' ∧
  match txt xs with
  | none => e = .returned (.tuple #[.slice none 0 0, .slice none 0 0, .bool false])
  | some (t, r) => ∃ A1 c1 A2 c2, e = .returned (.tuple #[.slice A1 t.length c1, .slice A2 r.length c2, .bool true]) ∧ (∀ ad, A1 = some ad → w.heap.size ≤ ad.block) ∧ Nb w' w'.heap.size A1 t.length c1 t ∧ Nb w' w'.heap.size A2 r.length c2 r
theorem meas {d j : Nat} (h : j < d) : d - (((j + 1 : Nat) : Int)).toNat < d - ((j : Int)).toNat := by omega
theorem w64_sub {f L : Nat} (h : L ≤ f) (hf : f ≤ 4294967296) : wrap64 ((f : Int) - (L : Int)) = ((f - L : Nat) : Int) := by unfold wrap64; omega
theorem w64_one {j : Nat} (h : j ≤ 4294967296) : wrap64 ((j : Int) + 1) = ((j + 1 : Nat) : Int) := by unfold wrap64; omega
theorem fld_ge (n : Nat) : n ≤ fld n := (fld_lim n).1
set_option maxHeartbeats 2000000 in
theorem text_of_any {w : World} {B n c : Nat} {A : Option Addr} {xs : List Nat} (h : Nb w B A n c xs) (hB : B ≤ w.heap.size) (hn : n ≤ 1073741824) :
    Calls Try.prog 56 #[.slice A n c] w (TxtPost xs w) := by
  by_cases h4 : n < 4
  · have e1 : (n : Int) < 4 := by omega
    have HV := Lib.hid (show txt xs = none by unfold txt; rw [if_pos (by rw [h.len]; exact h4)])
    clear h h4
    go_enter Try.func56, Try.ntmps56
    go_wp2_with fail
    go_ret3
    exact ⟨Below.refl _ _, by rw [HV.out]; rfl⟩
  · have e1 : ((n : Int) < 4) = False := by simp only [eq_iff_iff, iff_false]; omega
    have hcap := h.cap
    have hP4 := h.part 0 4 (by omega) (by omega)
    have hPr := h.part 4 n (by omega) (Nat.le_refl _)
    rw [List.drop_zero, Nat.sub_zero, Nat.sub_zero] at hP4
    have hA0 : pa A c 0 = A := pa_zero A c fun ad e => by
      obtain ⟨b, off, e2, _⟩ := h.cell (by omega)
      exact ⟨b, off, Option.some.inj (e.symm.trans e2)⟩
    rw [hA0] at hP4
    have hs1 : ∀ W, (Instr.slice 52 (.slice A n c) none (some (.int .i64 4)) none).run Try.prog W = .ok (.slice A 4 c) W := fun W => by
      have := sl_to A n c 4 .i64 (by omega) W
      rw [hA0] at this; exact this
    have hs2 : ∀ W, (Instr.slice 52 (.slice A n c) (some (.int .i64 4)) none none).run Try.prog W = .ok (.slice (pa A c 4) (n - 4) (c - 4)) W := fun W => sl_from A n c 4 .i64 (by omega) W
    have hs3 : ∀ W, (Instr.sliceAt 52 (.slice A n c) none (some (.int .i64 4)) none).run Try.prog W = .ok (.slice A 4 c) W := fun W => (sl_at _ _ _ _ _ W).trans (hs1 W)
    have hs4 : ∀ W, (Instr.sliceAt 52 (.slice A n c) (some (.int .i64 4)) none none).run Try.prog W = .ok (.slice (pa A c 4) (n - 4) (c - 4)) W := fun W => (sl_at _ _ _ _ _ W).trans (hs2 W)
    have HNum := Lib.hid (fun W => number_any (w := W) (B := B) (A := A) (n := 4) (c := c) (xs := xs.take 4))
    have HP4 := Lib.hid hP4
    have HPr := Lib.hid hPr
    have hL := pow4 (xs := xs.take 4) (h.lim.take 4) (by simp; omega)
    have HXl := Lib.hid h.len
    have HXL := Lib.hid h.lim
    generalize pa A c 4 = Ar at *
    have HV := Lib.hid (show txt xs = _ from by unfold txt; rw [if_neg (by rw [h.len]; exact h4)])
    generalize num (xs.take 4) = L at *
    have hP4' : (xs.drop 4).take (n - 4) = xs.drop 4 := List.take_of_length_le (by rw [List.length_drop, h.len]; exact Nat.le_refl _)
    rw [hP4'] at HPr
    have HH := Lib.hid h
    clear h hP4 hPr hA0 hP4'
    go_enter Try.func56, Try.ntmps56
    go_upto_region 3 with fail
    go_quiet ((go_at_call 53; exact Calls.quiet_of_same (HNum.out _ (HP4.out.keep fun _ _ => rfl) (by omega))))
    generalize hwq : w.drewN nq = wq
    have HBq := Lib.hid (show RowKit.Below w.heap.size w wq by rw [← hwq]; exact below_drewN' (Below.refl _ _) _)
    clear hwq hs1 hs2 hs3 hs4
    by_cases hL1 : 2048 < L
    · have k1 : 2048 < (L : Int) := by omega
      have HV2 := Lib.hid (show txt xs = none by rw [HV.out, if_pos (.inl hL1)])
      clear hL1
      go_wp2_with fail
      go_ret3
      exact ⟨HBq.out, by rw [HV2.out]; rfl⟩
    · have k1 : (2048 < (L : Int)) = False := by simp only [eq_iff_iff, iff_false]; omega
      have k2 : IntKind.i64.wrap (L : Int) = (L : Int) := by rw [IntKind.wrap_i64]; omega
      have HF := Lib.hid (fun W => filled_any (n := L) (by omega) W)
      have hfl := fld_lim L
      by_cases hL2 : n - 4 < fld L
      · have k3 : ((n - 4 : Nat) : Int) < ((fld L : Nat) : Int) := by omega
        have HV2 := Lib.hid (show txt xs = none by rw [HV.out, if_pos (.inr (by rw [List.length_drop, HXl.out]; exact hL2))])
        generalize fld L = f at *
        go_wp2_with (go_at_call 58; refine (HF.out _).mono ?_; rintro e w1 ⟨rfl, rfl⟩)
        go_ret3
        exact ⟨HBq.out, by rw [HV2.out]; rfl⟩
      · have k3 : (((n - 4 : Nat) : Int) < ((fld L : Nat) : Int)) = False := by simp only [eq_iff_iff, iff_false]; omega
        have hyl : (xs.drop 4).length = n - 4 := by rw [List.length_drop, HXl.out]
        have HV2 := Lib.hid (show txt xs = _ from by rw [HV.out, if_neg (by rw [hyl]; omega)])
        have hr := HPr.out
        have hcr := hr.cap
        generalize xs.drop 4 = ys at *
        generalize n - 4 = m at *
        generalize c - 4 = cr at *
        obtain ⟨f, hf⟩ : ∃ f, f = fld L := ⟨_, rfl⟩
        rw [← hf] at HF hfl HV2 k3 hL2
        have hd : fld L - L = f - L := by rw [hf]
        have N1 := hr.part 0 L (by omega) (by omega)
        have N2 := hr.part L m (by omega) (Nat.le_refl _)
        rw [List.drop_zero, Nat.sub_zero, Nat.sub_zero] at N1
        rw [List.take_of_length_le (show (ys.drop L).length ≤ m - L by rw [List.length_drop, hyl]; exact Nat.le_refl _)] at N2
        have g1 : ∀ W, (Instr.slice 52 (.slice Ar m cr) none (some (.int .u64 (L : Int))) none).run Try.prog W = .ok (.slice (pa Ar cr 0) L cr) W := fun W => sl_to Ar m cr L .u64 (by omega) W
        have g2 : ∀ W, (Instr.slice 52 (.slice Ar m cr) (some (.int .u64 (L : Int))) none none).run Try.prog W = .ok (.slice (pa Ar cr L) (m - L) (cr - L)) W := fun W => sl_from Ar m cr L .u64 (by omega) W
        generalize pa Ar cr 0 = A1 at *
        generalize pa Ar cr L = A2 at *
        have N3 := N2.part 0 (f - L) (by omega) (by omega)
        have N4 := N2.part (f - L) (m - L) (by omega) (Nat.le_refl _)
        rw [List.drop_zero, Nat.sub_zero, Nat.sub_zero] at N3
        rw [List.drop_drop, List.take_of_length_le (by rw [List.length_drop, hyl]; omega), show L + (f - L) = f by omega, show m - L - (f - L) = m - f by omega, show cr - L - (f - L) = cr - f by omega] at N4
        have g3 : ∀ W, (Instr.slice 52 (.slice A2 (m - L) (cr - L)) none (some (.int .i64 ((f - L : Nat) : Int))) none).run Try.prog W = .ok (.slice (pa A2 (cr - L) 0) (f - L) (cr - L)) W := fun W => sl_to A2 (m - L) (cr - L) (f - L) .i64 (by omega) W
        have g4 : ∀ W, (Instr.slice 52 (.slice A2 (m - L) (cr - L)) (some (.int .i64 ((f - L : Nat) : Int))) none none).run Try.prog W = .ok (.slice (pa A2 (cr - L) (f - L)) (m - f) (cr - f)) W := fun W => by
          have := sl_from A2 (m - L) (cr - L) (f - L) .i64 (by omega) W
          rw [show m - L - (f - L) = m - f by omega, show cr - L - (f - L) = cr - f by omega] at this
          exact this
        generalize pa A2 (cr - L) 0 = A3 at *
        generalize pa A2 (cr - L) (f - L) = A4 at *
        have s1 : wrap64 ((f : Int) - (L : Int)) = ((f - L : Nat) : Int) := w64_sub hfl.1 (by omega)
        have g1' : ∀ W, (Instr.sliceAt 52 (.slice Ar m cr) none (some (.int .u64 (L : Int))) none).run Try.prog W = _ := fun W => (sl_at _ _ _ _ _ W).trans (g1 W)
        have g2' : ∀ W, (Instr.sliceAt 52 (.slice Ar m cr) (some (.int .u64 (L : Int))) none none).run Try.prog W = _ := fun W => (sl_at _ _ _ _ _ W).trans (g2 W)
        have g3' : ∀ W, (Instr.sliceAt 52 (.slice A2 (m - L) (cr - L)) none (some (.int .i64 ((f - L : Nat) : Int))) none).run Try.prog W = _ := fun W => (sl_at _ _ _ _ _ W).trans (g3 W)
        have g4' : ∀ W, (Instr.sliceAt 52 (.slice A2 (m - L) (cr - L)) (some (.int .i64 ((f - L : Nat) : Int))) none none).run Try.prog W = _ := fun W => (sl_at _ _ _ _ _ W).trans (g4 W)
        obtain ⟨d, hdd⟩ : ∃ d, d = f - L := ⟨_, rfl⟩
        rw [← hdd] at N3 g3 g4 g3' g4' s1
        have HV3 := Lib.hid (show txt xs = if (((ys.drop L).take d).all fun x => x == 0) = true then some (ys.take L, ys.drop f) else none by rw [HV2.out, hdd])
        have HN1 := Lib.hid N1
        have HN3 := Lib.hid N3
        have HN4 := Lib.hid N4
        have HFl := Lib.hid hfl
        have HDd := Lib.hid hdd
        have hyf : (ys.drop f).length = m - f := by rw [List.length_drop, hyl]
        have hyL : (ys.take L).length = L := N1.len
        have HYf := Lib.hid hyf
        have HYL := Lib.hid hyL
        have hdm : d ≤ 3 := by omega
        have hLm : L ≤ 2048 := by omega
        clear hf hd hfl hdd N1 N2 N3 N4 hr hyf hyL hL2 hcr
        go_upto_region 6 with (go_at_call 58; refine (HF.out _).mono ?_; rintro e w1 ⟨rfl, hw1⟩; subst w1)
        go_quiet (fail)
        generalize hwr : wq.drewN nq = wr
        have HBr := Lib.hid (show RowKit.Below w.heap.size w wr by rw [← hwr]; exact below_drewN' HBq.out _)
        clear hwr
        go_wp2_with (go_at_call 58; refine (HF.out _).mono ?_; rintro e w1 ⟨rfl, hw1⟩; subst w1)
        go_loop [45] (fun i => ∃ j : Nat, j ≤ d ∧ i = .int .i64 (j : Int) ∧ (((ys.drop L).take d).take j).all (fun x => x == 0) = true) (fun i => (d - (match i with | .int _ z => z.toNat | _ => 0)))
        case atStart => exact ⟨0, by omega, rfl, rfl⟩
        case round =>
          obtain ⟨j, hjd, rfl, hz⟩ := hrel
          have HZ := Lib.hid hz
          clear hz
          by_cases hj : j < d
          · have e5 : (j : Int) < (d : Int) := by omega
            obtain ⟨b, off, hA3, hb, hc⟩ := (HN3.out.below (HBr.out.mono hB)).at_ hj
            have hl3 : j < ((ys.drop L).take d).length := by have := HN3.out.len; omega
            have HT := Lib.hid (take_next _ j hl3)
            subst hA3
            generalize ((ys.drop L).take d).getD j 0 = x at *
            have s0 : wrap64 ((j : Int) + 1) = ((j + 1 : Nat) : Int) := w64_one (by omega)
            have HJ := Lib.hid hj
            clear hl3 hj hb
            by_cases hx : x = 0
            · subst hx
              have HZ2 := Lib.hid (show (((ys.drop L).take d).take (j + 1)).all (fun x => x == 0) = true by rw [HT.out, List.all_append, HZ.out]; rfl)
              go_wp2_with fail
              go_round
              case rel => exact ⟨j + 1, HJ.out, by rw [s0], HZ2.out⟩
              case measure => show d - (wrap64 ((j : Int) + 1)).toNat < d - (j : Int).toNat; rw [s0]; exact meas HJ.out
            · have hx' : ((x : Int) == 0) = false := by simp; omega
              have hx2 : ((x : Int) != 0) = true := by simp; omega
              have hx3 : (x == 0) = false := by simpa using hx
              have HV4 := Lib.hid (show txt xs = none by
                rw [HV3.out, if_neg]
                intro hall
                rw [List.all_eq_true] at hall
                have hm : x ∈ (((ys.drop L).take d).take (j + 1)) := by rw [HT.out]; simp
                have := hall x (List.mem_of_mem_take hm)
                rw [hx3] at this; cases this)
              clear hx hx3
              go_wp2_with fail
              go_ret3
              exact ⟨HBr.out, by rw [HV4.out]; rfl⟩
          · have e5 : ((j : Int) < (d : Int)) = False := by simp only [eq_iff_iff, iff_false]; omega
            have HV4 := Lib.hid (show txt xs = some (ys.take L, ys.drop f) by
              have h3 : (((ys.drop L).take d).take j) = (ys.drop L).take d := List.take_of_length_le (by have := HN3.out.len; omega)
              have := HZ.out
              rw [h3] at this
              rw [HV3.out, if_pos this])
            have HC := Lib.hid (fun W (hb : RowKit.Below wr.heap.size wr W) => clone_any (w := W) ((HN1.out.below (HBr.out.mono hB)).below (hb.mono (Nat.le_trans hB HBr.out.size))) (Nat.le_trans (Nat.le_trans hB HBr.out.size) hb.size) (by omega))
            go_upto_region 14 with fail
            go_region_held3 (fun W => True) (trivial)
              (first
                | (go_at_call 57; refine (HC.out _ (Below.refl _ _).drew).mono ?_
                   rintro e w4 ⟨A5, c5, rfl, hn5, ha5, hb5⟩
                   have HN5 := Lib.hid hn5
                   have HA5 := Lib.hid ha5
                   have HB5 := Lib.hid (bthen HBr.out (((Below.refl wr.heap.size wr).drew).trans hb5) (Nat.le_refl _))
                   clear hn5 hb5 ha5))
            go_wp2_with fail
            go_ret3
            refine ⟨HB5.out, ?_⟩
            rw [HV4.out]
            refine ⟨A5, c5, A4, cr - f, ?_, fun ad e => Nat.le_trans HBr.out.size (HA5.out ad e), by rw [HYL.out]; exact HN5.out, ?_⟩
            · show _ = Ending.returned (.tuple #[.slice A5 (ys.take L).length c5, .slice A4 (ys.drop f).length (cr - f), .bool true])
              rw [HYL.out, HYf.out]; rfl
            · show Nb _ _ A4 (ys.drop f).length _ _
              rw [HYf.out]
              exact (HN4.out.below (HB5.out.mono hB)).more (Nat.le_trans hB HB5.out.size)
end Go.Proofs.Ytompggkdjbkjjaa.Wi
