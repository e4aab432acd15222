/- reader.bytes. -/
import Derived.Test.YtddpgckbdccldaaF4
namespace Go.Proofs.Ytddpgckbdccldaa
open Go.RowKit
set_option linter.unusedVariables false
set_option linter.unusedSimpArgs false
set_option maxRecDepth 100000
theorem und22 : Try.prog.underlying 22 = some (.slice (Try.prog.elem 22)) := by kernel_rfl
theorem size5 (W : World) : (sizeOf (Try.prog.elem 22)).run Try.prog W = .ok 1 W := by rfl
/-- a part of a slice of bytes -/
theorem cut_lh (A : Option Addr) (n c a e : Nat) (hae : a ≤ e) (hec : e ≤ c) :
    ∃ A', (∀ W, (Instr.slice 22 (.slice A n c) (some (.int .i64 (a : Int))) (some (.int .i64 (e : Int))) none).run Try.prog W = .ok (.slice A' (e - a) (c - a)) W) ∧
      (∀ W, (Instr.sliceAt 22 (.slice A n c) (some (.int .i64 (a : Int))) (some (.int .i64 (e : Int))) none).run Try.prog W = .ok (.slice A' (e - a) (c - a)) W) ∧ (A ≠ none → A' ≠ none) ∧
      ∀ {W : World} {B : Nat} {bs : List Nat}, Nb W B A n c bs → e ≤ n → Nb W B A' (e - a) (c - a) ((bs.drop a).take (e - a)) := by
  refine ⟨if c = a then A else A.map (·.add a), fun W => ?_, fun W => ?_, ?_, ?_⟩
  · rw [run_slice_lh W 22 A n c und22 .i64 .i64 a e (by omega) (by omega) (by omega), size5]
    simp [Result.andThen, sliced]
  · rw [run_sliceAt_slice W 22 _ _ _ _ und22, run_slice_lh W 22 A n c und22 .i64 .i64 a e (by omega) (by omega) (by omega), size5]
    simp [Result.andThen, sliced]
  · intro hA
    split
    · exact hA
    · cases A with
      | none => exact absurd rfl hA
      | some ad => simp
  · intro W B bs N hen
    refine ⟨by rw [List.length_take, List.length_drop, N.len]; omega, by omega, by have := N.room; omega, fun x hx => N.lim x (List.mem_of_mem_drop (List.mem_of_mem_take hx)), fun h0 => ?_⟩
    obtain ⟨b, off, rfl, hb, hc⟩ := N.cell (by omega)
    rw [if_neg (by omega)]
    refine ⟨b, off + a, ?_, hb, fun j x hj => ?_⟩
    · simp only [Option.map_some, Addr.add]
      by_cases ha : a = 0
      · subst ha; simp
      · simp [ha]
    · rw [List.getElem?_take] at hj
      split at hj
      · rw [List.getElem?_drop] at hj
        rw [Nat.add_assoc]
        exact hc _ _ hj
      · cases hj
/-- what reading a value's bytes comes to -/
def BytP (g : Nat) (A : Option Addr) (n c : Nat) (bs : List Nat) (a h : Nat) (t : Int) (e : Nat) (w : World) (r : Ending) (w' : World) : Prop :=
  ∃ A2 c2, r = .returned (.tuple #[.slice A2 (e - a) c2, .bool (may t ((bs.drop a).take (e - a)))]) ∧ Gb w' w.heap.size A2 (e - a) c2 ((bs.drop a).take (e - a)) ∧ Kp g w w' ∧ Rb w' g A n c e h
theorem rb_set1' {w1 : World} {g : Nat} {A : Option Addr} {n c a h : Nat} (R : Rb w1 g A n c a h) (a' : Nat) : Rb (w1.setCell ⟨g, 1, none⟩ (.int .i64 (a' : Int))) g A n c a' h := rb_set1 R a'
theorem Gb.kp {w w' : World} {base n c g : Nat} {A : Option Addr} {xs : List Nat} (h : Gb w base A n c xs) (k : Kp g w w') (hg : g < base) : Gb w' base A n c xs :=
  ⟨h.1, h.2.keep fun q hq => k.block q (h.2.blk_lt q hq).2 (fun e => by cases e; have := (h.2.blk_lt _ hq).1; omega)⟩
set_option maxHeartbeats 4000000 in
theorem bytes_any {w : World} {g : Nat} {A : Option Addr} {n c : Nat} {bs : List Nat} {a h e : Nat} (t : Int) (R : Rb w g A n c a h) (N : Nb w g A n c bs) (hA : A ≠ none) (hae : a ≤ e) (hen : e ≤ n) (hn : n ≤ 65535) :
    Calls Try.prog 65 #[.pointer (some ⟨g, 0, none⟩), .int .i64 t, .int .i64 (e : Int)] w (BytP g A n c bs a h t e w) := by
  have hg := R.lt
  have hcap := N.cap
  obtain ⟨A', hs1, hs2, hne, hnb⟩ := cut_lh A n c a e hae (by omega)
  obtain ⟨ad, rfl⟩ : ∃ ad, A' = some ad := by
    have := hne hA
    cases A' with
    | none => exact absurd rfl this
    | some ad => exact ⟨ad, rfl⟩
  have hN2 := hnb N hen
  have HC := Lib.hid (clone_any (hN2.keep (w' := w.drew) (fun _ _ => rfl)) (by show g ≤ w.heap.size; omega) (by omega))
  obtain ⟨c0, c1, c2, f0, f1, f2⟩ := R.cells
  have HR := Lib.hid R
  have HG := Lib.hid hg
  have HLim := Lib.hid hN2.lim
  clear hnb hN2 N hne R hg hcap hA
  have hm2 : e - a ≤ 65535 := by omega
  obtain ⟨xs, hxs⟩ : ∃ xs, Hid ((bs.drop a).take (e - a) = xs) := ⟨_, Lib.hid rfl⟩
  rw [hxs.out] at HC HLim
  obtain ⟨m, hm⟩ : ∃ m, Hid (e - a = m) := ⟨_, Lib.hid rfl⟩
  simp only [hm.out] at HC hs1 hs2 hm2
  go_enter Try.func65, Try.ntmps65
  go_wp2_with fail
  go_region_held3 (fun w' => w'.cell? ⟨g, 0, none⟩ = some (.slice A n c) ∧ w'.cell? ⟨g, 1, none⟩ = some (.int .i64 (a : Int)))
    (first | exact ⟨c0, c1⟩ | exact ⟨HR2.out.cells.1, HR2.out.cells.2.1⟩)
    (first
      | (go_at_call 76; (with_reducible refine HC.out.mono ?_)
         rintro r w2 ⟨A2, cc2, rfl, g2, b2⟩
         have HB2 : Hid (Below w.heap.size w w2) := bthen (w1 := w.drew) ((Below.refl _ _).drew) b2
         have HR2 : Hid (Rb w2 g A n c a h) := Bx.keep HR.out HB2.out HG.out
         have HG2 : Hid (Gb w2 w.heap.size A2 m cc2 xs) := g2
         clear g2 b2))
  obtain ⟨d0, d1, d2, e0, e1, e2⟩ := HR2.out.cells
  have HKs := Lib.hid ((Kp.of (g := g) HB2.out).set 1 (.int .i64 (e : Int)))
  have HRs := Lib.hid (rb_set1 HR2.out e)
  have HGs := Lib.hid (HG2.out.kp ((Kp.refl g w2).set 1 (.int .i64 (e : Int))) HG.out)
  have HM := Lib.hid (may_any t (HGs.out.nb HLim.out) (by omega))
  go_wp2_with fail
  refine (HM.out).mono ?_
  rintro r w' ⟨rfl, rfl⟩
  go_wp2_with fail
  go_ret2
  exact ⟨A2, cc2, by rw [hxs.out, hm.out]; rfl, by rw [hxs.out, hm.out]; exact HGs.out, HKs.out, HRs.out⟩
end Go.Proofs.Ytddpgckbdccldaa
