/- modn: Tells, slices.IndexFunc and ContainsFunc of what question hands back, Prime. -/
import Derived.Test.YtkhlmcknbangfaaGreatDoorM14
namespace Go.Proofs.YtkhlmcknbangfaaGreatDoor
set_option linter.unusedSimpArgs false
set_option linter.unusedVariables false
open Go.RowKit
set_option linter.unusedVariables false
set_option maxRecDepth 100000

theorem question_any {w : World} {A : Option Addr} {n c : Nat} {xs : List Nat} (h : Nt w w.heap.size A n c xs) (M : Nat) (hn : n ≤ M) (hM : M ≤ 1099511) :
    Calls Tryz.prog 162 #[.slice A n c] w (Asks (val 18446744073709551616 xs) M w) := by
  by_cases hev : val 18446744073709551616 xs % 2 = 0 ∨ val 18446744073709551616 xs < 2
  · exact question_even h (by omega) M hev
  · exact question_odd h M hn hM hev
theorem tells_even {n base : Nat} (h : n % 2 = 0 ∨ n < 2) : tellsN n base = decide (n ≠ 2) := by unfold tellsN; rw [if_pos h]


/-- what IndexFunc hands back -/
def Found (N : Nat) (bs : List Nat) (w : World) (e : Ending) (w' : World) : Prop := ∃ r : Int, e = .returned (.int .i64 r) ∧ decide (0 ≤ r) = bs.any (tellsN N) ∧ -1 ≤ r ∧ Below w.heap.size w w'

set_option maxHeartbeats 4000000 in
theorem index_a {w : World} {nb cb N M : Nat} {A : Option Addr} {bs : List Nat} (hB : Nt w w.heap.size A nb cb bs) (hnb : nb ≤ 1099511627776) (hM : M ≤ 1099511) (p : Nat) (hQ : Ques w N M (.func (.func 176) #[] #[.pointer (some ⟨p, 0, none⟩)])) :
    Calls Tryz.prog 175 #[.slice A nb cb, .func (.func 176) #[] #[.pointer (some ⟨p, 0, none⟩)]] w (Found N bs w) := by
  have hr := hB.rooms
  go_enter Tryz.func175, Tryz.ntmps175
  go_wp2_with fail
  go_loopw [8] (fun i wr => ∃ k : Nat, k ≤ nb ∧ i = .int .i64 (k : Int) ∧ Hid ((bs.take k).any (tellsN N) = false) ∧ Below w.heap.size w wr) (fun i _ => nb - (intOf i).toNat)
  case atStart => exact ⟨0, Nat.zero_le _, rfl, by simp [Hid], Below.refl _ _⟩
  case round =>
    obtain ⟨k, hk, rfl, ha, B0⟩ := hrel
    by_cases hlt : k < nb
    · have hBr := hB.up B0
      obtain ⟨b, off, rfl, hb, hx⟩ := hBr.at_ hlt
      have hxl := hB.lim.get (by omega) k
      have hkl : k < bs.length := by rw [hB.len]; exact hlt
      have htk : (bs.take (k + 1)).any (tellsN N) = ((bs.take k).any (tellsN N) || tellsN N (bs.getD k 0)) := by
        rw [List.take_add_one, List.any_append]
        simp [List.getD, List.getElem?_eq_getElem hkl]
      have hmem : tellsN N (bs.getD k 0) = true → bs.any (tellsN N) = true := fun h => List.any_eq_true.2 ⟨bs.getD k 0, by simp [List.getD, List.getElem?_eq_getElem hkl], h⟩
      generalize bs.getD k 0 = x at *
      have hQr := hQ.up B0
      have Htk := Lib.hid htk
      have Hmem := Lib.hid hmem
      clear htk hmem
      have hcell : wr.cell? ⟨p, 0, none⟩ = some (.bool (decide (N ≠ 2))) ∧ (N % 2 = 0 ∨ N < 2) := by
        cases hQr with
        | a p hp hc hn => exact ⟨hc, hn⟩
      have hq1 := fun (W : World) (hW : W.cell? ⟨p, 0, none⟩ = some (.bool (decide (N ≠ 2)))) => q1_any (base := x) hW
      rw [← tells_even (base := x) hcell.2] at hq1
      have hc2 := hcell.1
      rw [← tells_even (base := x) hcell.2] at hc2
      have Hq := Lib.hid (hq1 wr hc2)
      clear hcell hq1 hc2
      go_wp2_with fail
      refine Hq.out.mono ?_
      rintro e w1 ⟨rfl, rfl⟩
      have b1 : Below wr.heap.size wr wr := Below.refl _ _
      have B1 := B0.trans (b1.mono B0.size)
      cases hv : tellsN N x
      · have HA : Hid ((bs.take (k + 1)).any (tellsN N) = false) := by
          show _ = _
          rw [Htk.out, ha.out, hv]; rfl
        go_wp2_with fail
        go_roundw
        case rel => exact ⟨k + 1, by omega, by simp, HA, B1⟩
        case measure => simp [intOf]; omega
      · have hm := Hmem.out hv
        go_wp2_with fail
        go_ret
        exact ⟨_, rfl, by rw [hm]; simp, by show -1 ≤ (k : Int); omega, B1⟩
    · have hkn : k = nb := by omega
      subst hkn
      have ha' := ha.out
      rw [List.take_of_length_le (by rw [hB.len]; exact Nat.le_refl _)] at ha'
      go_wp2_with fail
      go_ret
      exact ⟨_, rfl, by rw [ha']; simp, by decide, B0⟩

set_option maxHeartbeats 4000000 in
theorem index_b {w : World} {nb cb N M : Nat} {A : Option Addr} {bs : List Nat} (hB : Nt w w.heap.size A nb cb bs) (hnb : nb ≤ 1099511627776) (hM : M ≤ 1099511) (p1 p2 p3 p4 : Nat) (hQ : Ques w N M (.func (.func 178) #[] #[.pointer (some ⟨p1, 0, none⟩), .pointer (some ⟨p2, 0, none⟩), .pointer (some ⟨p3, 0, none⟩), .pointer (some ⟨p4, 0, none⟩)])) :
    Calls Tryz.prog 175 #[.slice A nb cb, .func (.func 178) #[] #[.pointer (some ⟨p1, 0, none⟩), .pointer (some ⟨p2, 0, none⟩), .pointer (some ⟨p3, 0, none⟩), .pointer (some ⟨p4, 0, none⟩)]] w (Found N bs w) := by
  have hr := hB.rooms
  go_enter Tryz.func175, Tryz.ntmps175
  go_wp2_with fail
  go_loopw [8] (fun i wr => ∃ k : Nat, k ≤ nb ∧ i = .int .i64 (k : Int) ∧ Hid ((bs.take k).any (tellsN N) = false) ∧ Below w.heap.size w wr) (fun i _ => nb - (intOf i).toNat)
  case atStart => exact ⟨0, Nat.zero_le _, rfl, by simp [Hid], Below.refl _ _⟩
  case round =>
    obtain ⟨k, hk, rfl, ha, B0⟩ := hrel
    by_cases hlt : k < nb
    · have hBr := hB.up B0
      obtain ⟨b, off, rfl, hb, hx⟩ := hBr.at_ hlt
      have hxl := hB.lim.get (by omega) k
      have hkl : k < bs.length := by rw [hB.len]; exact hlt
      have htk : (bs.take (k + 1)).any (tellsN N) = ((bs.take k).any (tellsN N) || tellsN N (bs.getD k 0)) := by
        rw [List.take_add_one, List.any_append]
        simp [List.getD, List.getElem?_eq_getElem hkl]
      have hmem : tellsN N (bs.getD k 0) = true → bs.any (tellsN N) = true := fun h => List.any_eq_true.2 ⟨bs.getD k 0, by simp [List.getD, List.getElem?_eq_getElem hkl], h⟩
      generalize bs.getD k 0 = x at *
      have hQr := hQ.up B0
      have Htk := Lib.hid htk
      have Hmem := Lib.hid hmem
      clear htk hmem
      have hq2 : Calls Tryz.prog 178 #[.int .u64 (x : Int), .pointer (some ⟨p1, 0, none⟩), .pointer (some ⟨p2, 0, none⟩), .pointer (some ⟨p3, 0, none⟩), .pointer (some ⟨p4, 0, none⟩)] wr fun e w' => e = .returned (.bool (tellsN N x)) ∧ Below wr.heap.size wr w' := by
        cases hQr with
        | b p1 p2 p3 p4 A1 A2 A3 n1 c1 n2 c2 n3 c3 x1 x2 x3 hp1 hp2 hp3 hp4 hc1 hc2 hc3 hc4 h1 h2 h3 v1 v2 v3 l1 l2 l3 hn =>
          exact q2_any hp1 hp2 hp3 hp4 hc1 hc2 hc3 hc4 h1 h2 h3 v1 v2 v3 l1 l2 l3 hn hM hxl
      have Hq := Lib.hid hq2
      clear hq2
      go_wp2_with fail
      refine Hq.out.mono ?_
      rintro e w1 ⟨rfl, b1⟩
      have B1 := B0.trans (b1.mono B0.size)
      cases hv : tellsN N x
      · have HA : Hid ((bs.take (k + 1)).any (tellsN N) = false) := by
          show _ = _
          rw [Htk.out, ha.out, hv]; rfl
        go_wp2_with fail
        go_roundw
        case rel => exact ⟨k + 1, by omega, by simp, HA, B1⟩
        case measure => simp [intOf]; omega
      · have hm := Hmem.out hv
        go_wp2_with fail
        go_ret
        exact ⟨_, rfl, by rw [hm]; simp, by show -1 ≤ (k : Int); omega, B1⟩
    · have hkn : k = nb := by omega
      subst hkn
      have ha' := ha.out
      rw [List.take_of_length_le (by rw [hB.len]; exact Nat.le_refl _)] at ha'
      go_wp2_with fail
      go_ret
      exact ⟨_, rfl, by rw [ha']; simp, by decide, B0⟩

set_option maxHeartbeats 4000000 in
theorem contains_any {w : World} {nb cb N M : Nat} {A : Option Addr} {bs : List Nat} {f : Value} (hB : Nt w w.heap.size A nb cb bs) (hnb : nb ≤ 1099511627776) (hM : M ≤ 1099511) (hQ : Ques w N M f) :
    Calls Tryz.prog 161 #[.slice A nb cb, f] w fun e w' => e = .returned (.bool (bs.any (tellsN N))) ∧ Below w.heap.size w w' := by
  have hi : Calls Tryz.prog 175 #[.slice A nb cb, f] w (Found N bs w) := by
    cases hQ with
    | a p hp hc hn => exact index_a hB hnb hM p (.a p hp hc hn)
    | b p1 p2 p3 p4 A1 A2 A3 n1 c1 n2 c2 n3 c3 x1 x2 x3 hp1 hp2 hp3 hp4 hc1 hc2 hc3 hc4 h1 h2 h3 v1 v2 v3 l1 l2 l3 hn =>
      exact index_b hB hnb hM p1 p2 p3 p4 (.b p1 p2 p3 p4 A1 A2 A3 n1 c1 n2 c2 n3 c3 x1 x2 x3 hp1 hp2 hp3 hp4 hc1 hc2 hc3 hc4 h1 h2 h3 v1 v2 v3 l1 l2 l3 hn)
  obtain ⟨b, hbe⟩ : ∃ b, bs.any (tellsN N) = b := ⟨_, rfl⟩
  rw [hbe]
  have Hi := Lib.hid hi
  have Hb := Lib.hid hbe
  clear hi hbe
  go_enter Tryz.func161, Tryz.ntmps161
  go_wp2_with fail
  refine Hi.out.mono ?_
  rintro e w1 ⟨r, rfl, hr, hr1, b1⟩
  rw [Hb.out] at hr
  go_wp2_with fail
  go_ret
  exact ⟨by rw [← hr]; simp, b1⟩

/-- does no base of the row tell -/
def primeN (n : Nat) (bs : List Nat) : Bool := decide (2 ≤ n) && !(bs.any (tellsN n))
set_option maxHeartbeats 4000000 in
theorem prime_any {w : World} {A A2 : Option Addr} {n c nb cb : Nat} {xs bs : List Nat} (h : Nt w w.heap.size A n c xs) (hB : Nt w w.heap.size A2 nb cb bs) (hn : n ≤ 1099511) (hnb : nb ≤ 1099511627776) :
    Calls Tryz.prog 123 #[.slice A n c, .slice A2 nb cb] w fun e w' => e = .returned (.bool (primeN (val 18446744073709551616 xs) bs)) ∧ Below w.heap.size w w' := by
  obtain ⟨N, hN⟩ : ∃ N, val 18446744073709551616 xs = N := ⟨_, rfl⟩
  obtain ⟨b, hbe⟩ : ∃ b, primeN N bs = b := ⟨_, rfl⟩
  rw [hN, hbe]
  unfold primeN at hbe
  have Hb := Lib.hid hbe
  clear hbe
  go_enter Tryz.func123, Tryz.ntmps123
  go_wp2_with fail
  refine (of_any 2 _ rfl (by omega) _).mono ?_
  rintro e w1 ⟨A4, n4, c4, x4, rfl, r4⟩
  have h1 := h.up r4.bel
  rcases Nat.lt_or_ge N 2 with h2 | h2
  · have hb := Hb.out
    rw [decide_eq_false (by omega), Bool.false_and] at hb
    subst hb
    go_wp2_with fail
    refine (cmp_lt h1 r4.nt (by rw [hN, r4.is]; exact h2)).mono ?_
    rintro e w2 ⟨rfl, d, rfl⟩
    have b2 := bdr r4.bel d
    go_wp2_with fail
    go_ret
    exact ⟨rfl, b2⟩
  · have hb := Hb.out
    rw [decide_eq_true h2, Bool.true_and] at hb
    have hc := cmp_any h1 r4.nt
    have hs : 0 ≤ sgn (val 18446744073709551616 xs : Int) (val 18446744073709551616 x4 : Int) := by
      rw [hN, r4.is]
      unfold sgn
      split
      · omega
      · split <;> omega
    generalize sgn (val 18446744073709551616 xs : Int) (val 18446744073709551616 x4 : Int) = s at *
    have HB := Lib.hid hb
    clear hb
    go_wp2_with fail
    refine hc.mono ?_
    rintro e w2 ⟨rfl, d, rfl⟩
    have b2 := bdr r4.bel d
    have hq := question_any (h.up b2) n (Nat.le_refl _) hn
    rw [hN] at hq
    go_wp2_with fail
    refine hq.mono ?_
    rintro e w3 ⟨f, rfl, hQ, b3⟩
    have b3' := bthen b2 b3
    go_wp2_with fail
    refine (contains_any (hB.up b3') hnb hn hQ).mono ?_
    rintro e w4 ⟨rfl, b4⟩
    go_wp2_with fail
    go_ret
    exact ⟨by rw [← HB.out]; simp, bthen b3' b4⟩
end Go.Proofs.YtkhlmcknbangfaaGreatDoor
