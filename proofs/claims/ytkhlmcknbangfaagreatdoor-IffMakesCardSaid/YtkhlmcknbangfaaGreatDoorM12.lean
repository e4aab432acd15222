/- modn: question and what is asked of each base; Tells. -/
import Derived.Test.YtkhlmcknbangfaaGreatDoorM11
import Derived.Test.YtkhlmcknbangfaaGreatDoorM3
namespace Go.Proofs.YtkhlmcknbangfaaGreatDoor
set_option linter.unusedSimpArgs false
set_option linter.unusedVariables false
open Go.RowKit
set_option linter.unusedVariables false
set_option maxRecDepth 100000

/-- does a base tell that n is no prime -/
def tellsN (n base : Nat) : Bool :=
  if n % 2 = 0 ∨ n < 2 then decide (n ≠ 2) else
  if base % n = 0 then false else
  decide (base ^ ((n - 1) / 2 ^ tz (n - 1)) % n ≠ 1) && !(among (base ^ ((n - 1) / 2 ^ tz (n - 1)) % n) n (n - 1) (tz (n - 1)))

/-- f answers for n whether a base tells -/
inductive Ques (w : World) (n M : Nat) : Value → Prop
  | a (p : Nat) (hp : p < w.heap.size) (hc : w.cell? ⟨p, 0, none⟩ = some (.bool (decide (n ≠ 2)))) (hn : n % 2 = 0 ∨ n < 2) : Ques w n M (.func (.func 176) #[] #[.pointer (some ⟨p, 0, none⟩)])
  | b (p1 p2 p3 p4 : Nat) (A1 A2 A3 : Option Addr) (n1 c1 n2 c2 n3 c3 : Nat) (x1 x2 x3 : List Nat) (hp1 : p1 < w.heap.size) (hp2 : p2 < w.heap.size) (hp3 : p3 < w.heap.size) (hp4 : p4 < w.heap.size)
      (hc1 : w.cell? ⟨p1, 0, none⟩ = some (.slice A1 n1 c1)) (hc2 : w.cell? ⟨p2, 0, none⟩ = some (.slice A2 n2 c2)) (hc3 : w.cell? ⟨p3, 0, none⟩ = some (.slice A3 n3 c3)) (hc4 : w.cell? ⟨p4, 0, none⟩ = some (.int .i64 ((tz (n - 1) : Nat) : Int)))
      (h1 : Nt w w.heap.size A1 n1 c1 x1) (h2 : Nt w w.heap.size A2 n2 c2 x2) (h3 : Nt w w.heap.size A3 n3 c3 x3) (v1 : val 18446744073709551616 x1 = n) (v2 : val 18446744073709551616 x2 = (n - 1) / 2 ^ tz (n - 1)) (v3 : val 18446744073709551616 x3 = n - 1)
      (l1 : n1 ≤ M) (l2 : n2 ≤ M) (l3 : n3 ≤ M) (hn : ¬ (n % 2 = 0 ∨ n < 2)) : Ques w n M (.func (.func 178) #[] #[.pointer (some ⟨p1, 0, none⟩), .pointer (some ⟨p2, 0, none⟩), .pointer (some ⟨p3, 0, none⟩), .pointer (some ⟨p4, 0, none⟩)])
theorem Ques.up {w w' : World} {n M : Nat} {f : Value} (h : Ques w n M f) (hb : Below w.heap.size w w') : Ques w' n M f := by
  have hs := hb.size
  cases h with
  | a p hp hc hn => exact .a p (by omega) ((hb.cell hp).trans hc) hn
  | b p1 p2 p3 p4 A1 A2 A3 n1 c1 n2 c2 n3 c3 x1 x2 x3 hp1 hp2 hp3 hp4 hc1 hc2 hc3 hc4 h1 h2 h3 v1 v2 v3 l1 l2 l3 hn =>
    exact .b p1 p2 p3 p4 A1 A2 A3 n1 c1 n2 c2 n3 c3 x1 x2 x3 (by omega) (by omega) (by omega) (by omega) ((hb.cell hp1).trans hc1) ((hb.cell hp2).trans hc2) ((hb.cell hp3).trans hc3) ((hb.cell hp4).trans hc4) (h1.up hb) (h2.up hb) (h3.up hb) v1 v2 v3 l1 l2 l3 hn

set_option maxHeartbeats 1000000 in
theorem q1_any {w : World} {p base : Nat} {b : Bool} (hc : w.cell? ⟨p, 0, none⟩ = some (.bool b)) : Calls Tryz.prog 176 #[.int .u64 (base : Int), .pointer (some ⟨p, 0, none⟩)] w fun e w' => e = .returned (.bool b) ∧ w = w' := by
  go_enter Tryz.func176, Tryz.ntmps176
  go_wp2_with fail
  go_ret
  exact ⟨rfl, rfl⟩

theorem bl_two_le {n : Nat} (h : 2 ≤ n) : 2 ≤ bl n := by
  unfold bl
  rw [if_neg (by omega)]
  have : 1 ≤ Nat.log2 n := (Nat.le_log2 (by omega)).2 (by omega)
  omega
theorem tz_le {n M : Nat} (h0 : 1 < n) (h : n < 18446744073709551616 ^ M) : tz (n - 1) < 64 * M := by
  rw [base_pow] at h
  obtain ⟨h1, _⟩ := tz_spec (a := n - 1) (by omega)
  have h2 := Nat.le_of_dvd (by omega) (Nat.dvd_of_mod_eq_zero h1)
  exact (Nat.pow_lt_pow_iff_right (by omega)).1 (show 2 ^ tz (n - 1) < 2 ^ (64 * M) by omega)

set_option maxHeartbeats 4000000 in
theorem q2_any {w : World} {p1 p2 p3 p4 n1 c1 n2 c2 n3 c3 M n base : Nat} {A1 A2 A3 : Option Addr} {x1 x2 x3 : List Nat} (hp1 : p1 < w.heap.size) (hp2 : p2 < w.heap.size) (hp3 : p3 < w.heap.size) (hp4 : p4 < w.heap.size)
      (hc1 : w.cell? ⟨p1, 0, none⟩ = some (.slice A1 n1 c1)) (hc2 : w.cell? ⟨p2, 0, none⟩ = some (.slice A2 n2 c2)) (hc3 : w.cell? ⟨p3, 0, none⟩ = some (.slice A3 n3 c3)) (hc4 : w.cell? ⟨p4, 0, none⟩ = some (.int .i64 ((tz (n - 1) : Nat) : Int)))
      (h1 : Nt w w.heap.size A1 n1 c1 x1) (h2 : Nt w w.heap.size A2 n2 c2 x2) (h3 : Nt w w.heap.size A3 n3 c3 x3) (v1 : val 18446744073709551616 x1 = n) (v2 : val 18446744073709551616 x2 = (n - 1) / 2 ^ tz (n - 1)) (v3 : val 18446744073709551616 x3 = n - 1)
      (l1 : n1 ≤ M) (l2 : n2 ≤ M) (l3 : n3 ≤ M) (hn : ¬ (n % 2 = 0 ∨ n < 2)) (hM : M ≤ 1099511) (hbase : base < 18446744073709551616) :
    Calls Tryz.prog 178 #[.int .u64 (base : Int), .pointer (some ⟨p1, 0, none⟩), .pointer (some ⟨p2, 0, none⟩), .pointer (some ⟨p3, 0, none⟩), .pointer (some ⟨p4, 0, none⟩)] w fun e w' => e = .returned (.bool (tellsN n base)) ∧ Below w.heap.size w w' := by
  obtain ⟨b, hb⟩ : ∃ b, tellsN n base = b := ⟨_, rfl⟩
  rw [hb]
  unfold tellsN at hb
  rw [if_neg hn] at hb
  have hn2 : 1 < n := by omega
  have htz := tz_le hn2 (by rw [← v1]; exact Nat.lt_of_lt_of_le (h1.below_pow l1) (Nat.le_refl _))
  obtain ⟨s, hs⟩ : ∃ s, tz (n - 1) = s := ⟨_, rfl⟩
  rw [hs] at hc4 v2 htz hb
  obtain ⟨od, hod⟩ : ∃ od, (n - 1) / 2 ^ s = od := ⟨_, rfl⟩
  rw [hod] at v2 hb
  have Hb := Lib.hid hb
  clear hb hs hod
  have d1 : w.drew.cell? ⟨p1, 0, none⟩ = some (.slice A1 n1 c1) := hc1
  have h1' := h1.drew
  have hq1 : p1 < w.drew.heap.size := hp1
  have hbd : Below w.heap.size w w.drew := (Below.refl _ w).drew
  go_enter Tryz.func178, Tryz.ntmps178
  go_wp2_with fail
  go_region_held3 (fun w' => w'.cell? ⟨p1, 0, none⟩ = some (Value.slice A1 n1 c1))
    (first | exact e2 | exact e1 | exact d1)
    ((first
    | (go_at_call 23; refine (of_any base _ rfl hbase _).mono ?_; rintro e w1 ⟨A4, n4, c4, x4, rfl, r4⟩
       have e1 := (r4.bel.cell (p := ⟨p1, 0, none⟩) hq1).trans d1
       have l4 := r4.le (k := 1) (by omega)
       have s1 : p1 < w1.heap.size := Nat.lt_of_lt_of_le hq1 r4.bel.size)
    | (go_at_call 66; refine (mod_pos r4.nt (h1'.up r4.bel) (by omega) (by omega)).mono ?_; rintro e w2 ⟨A5, n5, c5, x5, rfl, r5⟩
       have e2 := (r5.bel.cell (p := ⟨p1, 0, none⟩) s1).trans e1)))
  all_goals
    have v4 := r4.is
    have v5 := r5.is
    rw [v4, v1] at v5
    have b2 : Below w.heap.size w w2 := bthen (bthen hbd r4.bel) r5.bel
    have l5 : n5 ≤ 1 := r5.le (by rw [v4, v1]; exact Nat.lt_of_le_of_lt (Nat.mod_le _ _) (by omega))
    rcases Nat.eq_zero_or_pos (base % n) with hz | hz
    · go_wp2_with fail
      refine (nought_yes r5.nt (by omega) (by omega)).mono ?_
      rintro e w3 ⟨rfl, rfl⟩
      go_wp2_with fail
      go_ret
      have hb := Hb.out
      rw [if_pos hz] at hb
      exact ⟨by rw [← hb]; rfl, b2⟩
    · go_wp2_with fail
      refine (nought_no r5.nt (by omega) (by omega)).mono ?_
      rintro e w3 ⟨rfl, rfl⟩
      have f1 := (b2.cell (p := ⟨p1, 0, none⟩) hp1).trans hc1
      have f2 := (b2.cell (p := ⟨p2, 0, none⟩) hp2).trans hc2
      go_wp2_with fail
      refine (mpow_pos r5.nt (h2.up b2) (h1.up b2) (by omega) (by omega) (by omega) (by omega)).mono ?_
      rintro e w4 ⟨A6, n6, c6, x6, rfl, r6⟩
      have v6 := r6.is
      rw [v5, v2, v1, ← Nat.pow_mod] at v6
      have b4 := bthen b2 r6.bel
      have l6 : n6 ≤ n1 := r6.le (Nat.lt_of_lt_of_le (Nat.mod_lt _ (by omega)) (Nat.le_of_lt (h1.below_pow (Nat.le_refl _))))
      go_wp2_with fail
      refine (of_any 1 _ rfl (by omega) _).mono ?_
      rintro e w5 ⟨A7, n7, c7, x7, rfl, r7⟩
      have b5 := bthen b4 r7.bel
      have N6 := r6.nt.up r7.bel
      go_wp2_with fail
      refine (cmp_same N6 r7.nt).mono ?_
      rintro e w6 ⟨t, rfl, ht, d, rfl⟩
      rw [v6, r7.is] at ht
      have b6 := bdr b5 d
      have N6' := N6.dr d
      have g1 := (b6.cell (p := ⟨p1, 0, none⟩) hp1).trans hc1
      have g3 := (b6.cell (p := ⟨p3, 0, none⟩) hp3).trans hc3
      have g4 := (b6.cell (p := ⟨p4, 0, none⟩) hp4).trans hc4
      have hb := Hb.out
      rw [if_neg (by omega)] at hb
      by_cases h1' : base ^ od % n = 1
      · have ht0 : t = 0 := ht.2 h1'
        subst ht0
        have hb0 : b = false := by rw [← hb]; simp [h1']
        subst hb0
        clear hb ht
        go_wp2_with fail
        go_ret
        exact ⟨rfl, b6⟩
      · have ht0 : (t != 0) = true := by
          have : t ≠ 0 := fun h => h1' (ht.1 h)
          simpa using this
        have hb0 : b = !(among (base ^ od % n) n (n - 1) s) := by rw [← hb]; simp [h1']
        subst hb0
        clear hb ht
        go_wp2_with fail
        refine (squares_any N6' (h3.up b6) (h1.up b6) l6 (by omega) (by omega) s (by omega)).mono ?_
        rintro e w7 ⟨rfl, b7⟩
        rw [v6, v1, v3]
        go_wp2_with fail
        go_ret
        exact ⟨by simp, bthen b6 b7⟩
end Go.Proofs.YtkhlmcknbangfaaGreatDoor
