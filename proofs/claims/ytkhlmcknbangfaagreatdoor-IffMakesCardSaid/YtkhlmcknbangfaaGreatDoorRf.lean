/- clepsydraref03: cut, at. clepsydraref03: Digits, noughts. clepsydraref03: cmp, bit. clepsydraref03: bit, double, drop, gain. clepsydraref03: gain, drop. clepsydraref03: parted. clepsydraref03: times. clepsydraref03: power. clepsydraref03: Number, Mod, Mul, Pow. clepsydraref03: Mod, Mul, Pow, gcd, Gcd. clepsydraref03: plus, minus. clepsydraref03: Inverse. clepsydraref03: Tells. clepsydraref03: Prime, Sure. -/
import Derived.Test.YtkhlmcknbangfaaGreatDoorG1
import Derived.Test.YtkhlmcknbangfaaGreatDoorM14
import Derived.Test.YtkhlmcknbangfaaGreatDoorMaths
import Derived.Test.YtkhlmcknbangfaaGreatDoorM15
namespace Go.Proofs.YtkhlmcknbangfaaGreatDoor
open Go.RowKit
set_option linter.unusedVariables false
set_option maxRecDepth 100000

set_option maxHeartbeats 400000 in
theorem rcut_any {w : World} {B : Nat} {A : Option Addr} {n c : Nat} {xs : List Nat} (h : Ni w B A n c xs) :
    Calls Tryz.prog 149 #[.slice A n c] w fun e w' => e = .returned (.slice A (tl xs n) c) ∧ w = w' := by
  have hc := h.cap
  have hr := h.rooms
  go_enter Tryz.func149, Tryz.ntmps149
  go_wp2
  go_loop [3] (fun i => ∃ k : Nat, k ≤ n ∧ i = .int .i64 k ∧ Hid (tl xs k = tl xs n)) (fun i => (intOf i).toNat)
  case atStart => exact ⟨n, Nat.le_refl _, rfl, rfl⟩
  case round =>
    obtain ⟨k, hk, rfl, hT⟩ := hrel
    by_cases hk0 : k = 0
    · subst hk0
      have ht : tl xs n = 0 := hT.symm
      go_wp2
      go_ret
      exact ⟨rfl, rfl⟩
    · obtain ⟨j, rfl⟩ : ∃ j, k = j + 1 := ⟨k - 1, by omega⟩
      obtain ⟨b, off, rfl, hb, hcell⟩ := h.at_ (k := j) (by omega)
      go_wp2
      · go_round
        case rel =>
          refine ⟨j, by omega, rfl, ?_⟩
          have hz : xs.getD j 0 = 0 := by
            have : ((xs[j]?.getD 0 : Nat) : Int) = 0 := by simpa using (by assumption : (((xs[j]?.getD 0 : Nat) : Int) == 0) = true)
            simpa [List.getD] using this
          have := hT.out
          rw [tl, if_pos hz] at this
          exact this
        case measure => simp [intOf]
      · have hz : ¬ xs.getD j 0 = 0 := by
          have : ¬ ((xs[j]?.getD 0 : Nat) : Int) = 0 := by simpa using (by assumption : (((xs[j]?.getD 0 : Nat) : Int) == 0) = false)
          simpa [List.getD] using this
        have ht := hT.out
        rw [tl, if_neg hz] at ht
        go_ret
        rw [← ht]
        exact ⟨rfl, rfl⟩
theorem rcut_ni {w : World} {B : Nat} {A : Option Addr} {n c : Nat} {xs : List Nat} (h : Ni w B A n c xs) :
    Calls Tryz.prog 149 #[.slice A n c] w fun e w' => ∃ m, e = .returned (.slice A m c) ∧ w = w' ∧ m ≤ n ∧ Ni w B A m c (cutL xs) :=
  (rcut_any h).mono fun e w' ⟨he, hw⟩ => ⟨tl xs n, he, hw, tl_le _ _, by
    have hl := h.len
    have ht := tl_le xs n
    exact ⟨by rw [length_cutL, hl], Nat.le_trans ht h.cap, h.room, lim_cutL h.lim, fun h0 => by
      obtain ⟨b, off, e, hb, hcell⟩ := h.cell (by omega)
      refine ⟨b, off, e, hb, fun j x hx => hcell j x ?_⟩
      unfold cutL at hx
      rw [List.getElem?_take] at hx
      split at hx
      · exact hx
      · cases hx⟩⟩
theorem rat_any {w : World} {B : Nat} {A : Option Addr} {n c : Nat} {xs : List Nat} (h : Ni w B A n c xs) (k : Nat) :
    Calls Tryz.prog 148 #[.slice A n c, .int .i64 (k : Int)] w fun e w' => e = .returned (.int .i64 ((xs.getD k 0 : Nat) : Int)) ∧ w = w' := by
  have hr := h.rooms
  have hl := h.len
  have h0' : (0 : Int) ≤ (k : Int) := by omega
  by_cases hk : k < n
  · obtain ⟨b, off, rfl, hb, hcell⟩ := h.at_ hk
    clear hl
    go_enter Tryz.func148, Tryz.ntmps148
    go_wp2
    go_ret
    exact ⟨by simp, rfl⟩
  · have hz : xs.getD k 0 = 0 := by simp [List.getD, List.getElem?_eq_none (show xs.length ≤ k by omega)]
    rw [hz]
    clear hl hz
    have hk' : n ≤ k := by omega
    go_enter Tryz.func148, Tryz.ntmps148
    go_wp2
    go_ret
    exact ⟨rfl, rfl⟩
end Go.Proofs.YtkhlmcknbangfaaGreatDoor
namespace Go.Proofs.YtkhlmcknbangfaaGreatDoor
open Go.RowKit
set_option linter.unusedVariables false
set_option maxRecDepth 100000

/-- a limb's digits of 16 bits -/
def dg4 (x : Nat) : List Nat := [x % 65536, x / 65536 % 65536, x / 4294967296 % 65536, x / 281474976710656 % 65536]
def dgs : List Nat → List Nat
  | [] => []
  | x :: xs => dg4 x ++ dgs xs
theorem val_dg4 {x : Nat} (h : x < 18446744073709551616) : val 65536 (dg4 x) = x := by simp only [dg4, val]; omega
theorem lim_dg4 (x : Nat) : Lim 65536 (dg4 x) := by intro y hy; simp only [dg4, List.mem_cons, List.not_mem_nil, or_false] at hy; omega
theorem dgs_append (xs ys : List Nat) : dgs (xs ++ ys) = dgs xs ++ dgs ys := by
  induction xs with
  | nil => rfl
  | cons x xs ih => simp [dgs, ih]
theorem length_dgs (xs : List Nat) : (dgs xs).length = 4 * xs.length := by
  induction xs with
  | nil => rfl
  | cons x xs ih => simp [dgs, dg4, ih]; omega
theorem val_dgs {xs : List Nat} (h : Lim 18446744073709551616 xs) : val 65536 (dgs xs) = val 18446744073709551616 xs := by
  induction xs with
  | nil => rfl
  | cons x xs ih =>
    simp only [dgs, val]
    rw [val_append, val_dg4 (h x (by simp)), ih (fun y hy => h y (by simp [hy])), show (dg4 x).length = 4 from rfl, show (65536 : Nat) ^ 4 = 18446744073709551616 by decide]
theorem lim_dgs (xs : List Nat) : Lim 65536 (dgs xs) := by
  induction xs with
  | nil => exact Lim.nil _
  | cons x xs ih => exact (lim_dg4 x).append ih
theorem maskE (a : Nat) (ha : a < 18446744073709551616) : bits .and .u64 (a : Int) 65535 = ((a % 65536 : Nat) : Int) := by
  have h := bits_and_u64_nat a 65535 ha (by omega)
  have e : a &&& 65535 = a % 65536 := Nat.and_two_pow_sub_one_eq_mod a 16
  rw [e] at h
  exact h

set_option maxHeartbeats 4000000 in
theorem digits_any {w : World} {A : Option Addr} {n c : Nat} {xs : List Nat} (h : Nt w w.heap.size A n c xs) (hn : n ≤ 1099511627) :
    Calls Tryz.prog 95 #[.slice A n c] w fun e w' => ∃ A' m c', e = .returned (.slice A' m c') ∧ m ≤ 4 * n ∧ Ni w' w'.heap.size A' m c' (cutL (dgs xs)) ∧ Below w.heap.size w w' := by
  have hr := h.rooms
  go_enter Tryz.func95, Tryz.ntmps95
  go_wp2_with fail
  go_loopw [3, 4] (fun v i wr => ∃ (k : Nat) (A' : Option Addr) (c' : Nat), k ≤ n ∧ i = .int .i64 (k : Int) ∧ v = .slice A' (4 * k) c' ∧ Gi wr w.heap.size A' (4 * k) c' (dgs (xs.take k)) ∧ Below w.heap.size w wr) (fun _ i _ => n - (intOf i).toNat)
  case atStart => exact ⟨0, none, 0, Nat.zero_le _, rfl, rfl, Gi.nil _ _, Below.refl _ _⟩
  case round =>
    obtain ⟨k, A', c', hk, rfl, rfl, hG, B0⟩ := hrel
    by_cases hlt : k < n
    · obtain ⟨b, off, rfl, hb, hx⟩ := (h.up B0).at_ hlt
      have hxl := h.lim.get (by omega) k
      have htk : xs.take (k + 1) = xs.take k ++ [xs.getD k 0] := by
        rw [List.take_add_one]
        simp [List.getD, List.getElem?_eq_getElem (show k < xs.length by rw [h.len]; exact hlt)]
      generalize hxe : xs.getD k 0 = x at *
      have Hxe := Lib.hid hxe
      clear hxe
      go_wp2_with fail
      go_loopw [3, 5] (fun v i wq => ∃ (j : Nat) (A'' : Option Addr) (c'' : Nat), j ≤ 4 ∧ i = .int .i64 (j : Int) ∧ v = .slice A'' (4 * k + j) c'' ∧ Gi wq w.heap.size A'' (4 * k + j) c'' (dgs (xs.take k) ++ (dg4 x).take j) ∧ Below w.heap.size w wq) (fun _ i _ => 4 - (intOf i).toNat)
      case atStart => exact ⟨0, A', c', by omega, rfl, rfl, by simpa using hG, B0⟩
      case round =>
        obtain ⟨j, A'', c'', hj, rfl, rfl, hG2, B1⟩ := hrel
        obtain ⟨_, _, eA, _, hx1⟩ := (h.up B1).at_ hlt
        cases eA
        rw [Hxe.out] at hx1
        have hs1 := B1.size
        by_cases hj4 : j < 4
        · have hdg : (dg4 x).take (j + 1) = (dg4 x).take j ++ [(dg4 x).getD j 0] := by
            rw [List.take_add_one]
            simp [List.getD, List.getElem?_eq_getElem (show j < (dg4 x).length from hj4)]
          have hg : ∀ y A3 c3 w3, (dg4 x).getD j 0 = y → Gi w3 w.heap.size A3 (4 * k + j + 1) c3 (dgs (xs.take k) ++ (dg4 x).take j ++ [y]) → Gi w3 w.heap.size A3 (4 * k + (j + 1)) c3 (dgs (xs.take k) ++ (dg4 x).take (j + 1)) := fun y A3 c3 w3 hy hG => by
            rw [hdg, hy, ← List.append_assoc]; exact hG
          have Hg := Lib.hid hg
          clear hg hdg
          have hsz := hG2.2
          rcases (show j = 0 ∨ j = 1 ∨ j = 2 ∨ j = 3 by omega) with rfl | rfl | rfl | rfl
          · obtain ⟨y, hy⟩ : ∃ y, x % 65536 = y := ⟨_, rfl⟩
            have hm : wrap64 (bits .and .u64 ((x : Int)) 65535) = (y : Int) := by
              have := maskE (x) (by omega)
              rw [hy] at this
              rw [show (x : Int) = ((x : Nat) : Int) by simp, this]
              unfold wrap64
              omega
            have Hy := Lib.hid hy
            clear hy
            go_wp2_with (refine wpList_app_i (y := y) _ rfl _ _ rfl rfl (hG2.alloc _) rfl (cell_new _ _ _) (by omega) (B1.alloc hs1 _) (by simp; omega) ?_; intro A3 c3 w3 hG3 hB3)
            go_roundw
            case rel => exact ⟨_, A3, c3, by omega, by simp, rfl, Hg.out y A3 c3 w3 Hy.out hG3, hB3⟩
            case measure => simp [intOf]
          · obtain ⟨y, hy⟩ : ∃ y, x / 65536 % 65536 = y := ⟨_, rfl⟩
            have hm : wrap64 (bits .and .u64 ((x : Int) / 65536) 65535) = (y : Int) := by
              have := maskE (x / 65536) (by omega)
              rw [hy] at this
              rw [show (x : Int) / 65536 = ((x / 65536 : Nat) : Int) by simp, this]
              unfold wrap64
              omega
            have Hy := Lib.hid hy
            clear hy
            go_wp2_with (refine wpList_app_i (y := y) _ rfl _ _ rfl rfl (hG2.alloc _) rfl (cell_new _ _ _) (by omega) (B1.alloc hs1 _) (by simp; omega) ?_; intro A3 c3 w3 hG3 hB3)
            go_roundw
            case rel => exact ⟨_, A3, c3, by omega, by simp, rfl, Hg.out y A3 c3 w3 Hy.out hG3, hB3⟩
            case measure => simp [intOf]
          · obtain ⟨y, hy⟩ : ∃ y, x / 4294967296 % 65536 = y := ⟨_, rfl⟩
            have hm : wrap64 (bits .and .u64 ((x : Int) / 4294967296) 65535) = (y : Int) := by
              have := maskE (x / 4294967296) (by omega)
              rw [hy] at this
              rw [show (x : Int) / 4294967296 = ((x / 4294967296 : Nat) : Int) by simp, this]
              unfold wrap64
              omega
            have Hy := Lib.hid hy
            clear hy
            go_wp2_with (refine wpList_app_i (y := y) _ rfl _ _ rfl rfl (hG2.alloc _) rfl (cell_new _ _ _) (by omega) (B1.alloc hs1 _) (by simp; omega) ?_; intro A3 c3 w3 hG3 hB3)
            go_roundw
            case rel => exact ⟨_, A3, c3, by omega, by simp, rfl, Hg.out y A3 c3 w3 Hy.out hG3, hB3⟩
            case measure => simp [intOf]
          · obtain ⟨y, hy⟩ : ∃ y, x / 281474976710656 % 65536 = y := ⟨_, rfl⟩
            have hm : wrap64 (bits .and .u64 ((x : Int) / 281474976710656) 65535) = (y : Int) := by
              have := maskE (x / 281474976710656) (by omega)
              rw [hy] at this
              rw [show (x : Int) / 281474976710656 = ((x / 281474976710656 : Nat) : Int) by simp, this]
              unfold wrap64
              omega
            have Hy := Lib.hid hy
            clear hy
            go_wp2_with (refine wpList_app_i (y := y) _ rfl _ _ rfl rfl (hG2.alloc _) rfl (cell_new _ _ _) (by omega) (B1.alloc hs1 _) (by simp; omega) ?_; intro A3 c3 w3 hG3 hB3)
            go_roundw
            case rel => exact ⟨_, A3, c3, by omega, by simp, rfl, Hg.out y A3 c3 w3 Hy.out hG3, hB3⟩
            case measure => simp [intOf]
        · have hj4' : j = 4 := by omega
          subst hj4'
          have hdg : dgs (xs.take (k + 1)) = dgs (xs.take k) ++ (dg4 x).take 4 := by
            rw [htk, dgs_append]
            simp [dgs, dg4]
          have HG : Hid (Gi wr w.heap.size A'' (4 * (k + 1)) c'' (dgs (xs.take (k + 1)))) := by
            show Gi _ _ _ _ _ _
            rw [hdg]
            exact hG2
          clear hdg htk
          go_wp2_with fail
          go_roundw
          case rel => exact ⟨k + 1, A'', c'', by omega, by simp, by simp; omega, HG.out, B1⟩
          case measure => simp [intOf]; omega
    · have hkn : k = n := by omega
      subst hkn
      have hNi := hG.ni (lim_dgs _)
      rw [List.take_of_length_le (by rw [h.len]; exact Nat.le_refl _)] at hNi
      go_wp2_with fail
      refine (rcut_ni hNi).mono ?_
      rintro e w' ⟨m, rfl, rfl, hm, hN⟩
      go_wp2_with fail
      go_ret
      exact ⟨_, _, _, rfl, hm, hN, B0⟩
set_option maxHeartbeats 4000000 in
theorem noughts_any {w : World} (n : Nat) (hn : n ≤ 1099511627) :
    Calls Tryz.prog 151 #[.int .i64 (n : Int)] w fun e w' => ∃ A c, e = .returned (.slice A n c) ∧ Gi w' w.heap.size A n c (List.replicate n 0) ∧ Below w.heap.size w w' := by
  go_enter Tryz.func151, Tryz.ntmps151
  go_wp2_with fail
  go_loopw [3, 4] (fun v i wr => ∃ (k : Nat) (A' : Option Addr) (c' : Nat), k ≤ n ∧ i = .int .i64 (k : Int) ∧ v = .slice A' k c' ∧ Gi wr w.heap.size A' k c' (List.replicate k 0) ∧ Below w.heap.size w wr) (fun _ i _ => n - (intOf i).toNat)
  case atStart => exact ⟨0, none, 0, Nat.zero_le _, rfl, rfl, Gi.nil _ _, Below.refl _ _⟩
  case round =>
    obtain ⟨k, A', c', hk, rfl, rfl, hG, B0⟩ := hrel
    by_cases hlt : k < n
    · have hs := B0.size
      go_wp2_with (refine wpList_app_i (y := 0) _ rfl _ _ rfl rfl (hG.alloc _) rfl (cell_new _ _ _) (by omega) (B0.alloc hs _) (by simp; omega) ?_; intro A3 c3 w3 hG3 hB3)
      go_roundw
      case rel => exact ⟨k + 1, A3, c3, by omega, by simp, rfl, by rw [List.replicate_succ']; exact hG3, hB3⟩
      case measure => simp [intOf]; omega
    · have hkn : k = n := by omega
      subst hkn
      go_wp2_with fail
      go_ret
      exact ⟨_, _, rfl, hG, B0⟩
end Go.Proofs.YtkhlmcknbangfaaGreatDoor
namespace Go.Proofs.YtkhlmcknbangfaaGreatDoor
open Go.RowKit
set_option linter.unusedVariables false
set_option maxRecDepth 100000

theorem val_getD_eq (β : Nat) : ∀ (xs ys : List Nat), (∀ j, xs.getD j 0 = ys.getD j 0) → val β xs = val β ys := by
  intro xs
  induction xs with
  | nil =>
    intro ys
    induction ys with
    | nil => intro _; rfl
    | cons y ys ih =>
      intro h
      have h0 := h 0
      simp at h0
      have := ih (fun j => by have := h (j + 1); simpa using this)
      simp only [val] at this ⊢
      rw [← this, ← h0]; simp
  | cons x xs ih =>
    intro ys h
    cases ys with
    | nil =>
      have h0 := h 0
      simp at h0
      have := ih [] (fun j => by have := h (j + 1); simpa using this)
      simp only [val] at this ⊢
      rw [this, h0]; simp
    | cons y ys =>
      have h0 := h 0
      simp at h0
      have := ih ys (fun j => by have := h (j + 1); simpa using this)
      simp only [val]
      rw [this, h0]
theorem val_split (β : Nat) (xs : List Nat) (k : Nat) : val β xs = val β (xs.take k) + β ^ k * (xs.getD k 0 + β * val β (xs.drop (k + 1))) := by
  by_cases h : k < xs.length
  · have h1 := val_take_drop β xs k (by omega)
    rw [h1]
    congr 2
    rw [List.drop_eq_getElem_cons h]
    simp [val, List.getD, List.getElem?_eq_getElem h]
  · rw [List.take_of_length_le (by omega), List.drop_eq_nil_of_le (by omega)]
    simp [val, List.getD, List.getElem?_eq_none (show xs.length ≤ k by omega)]
theorem val_take_lt {β : Nat} (hβ : 0 < β) {xs : List Nat} (h : Lim β xs) (k : Nat) : val β (xs.take k) < β ^ k := by
  have h1 := val_lt (h.take k)
  exact Nat.lt_of_lt_of_le h1 (Nat.pow_le_pow_right hβ (by rw [List.length_take]; omega))
theorem drop_same {β : Nat} {xs ys : List Nat} {k : Nat} (h : ∀ j, k < j → xs.getD j 0 = ys.getD j 0) : val β (xs.drop (k + 1)) = val β (ys.drop (k + 1)) := by
  apply val_getD_eq
  intro j
  have := h (k + 1 + j) (by omega)
  simpa [List.getD, List.getElem?_drop] using this
theorem val_lt_of_top {β : Nat} (hβ : 0 < β) {xs ys : List Nat} (hx : Lim β xs) {k : Nat} (h : ∀ j, k < j → xs.getD j 0 = ys.getD j 0) (hlt : xs.getD k 0 < ys.getD k 0) : val β xs < val β ys := by
  rw [val_split β xs k, val_split β ys k, drop_same (β := β) h]
  have h1 := val_take_lt hβ hx k
  have h2 := Nat.mul_le_mul_left (β ^ k) (show xs.getD k 0 + 1 + β * val β (ys.drop (k + 1)) ≤ ys.getD k 0 + β * val β (ys.drop (k + 1)) by omega)
  have h3 : β ^ k * (xs.getD k 0 + 1 + β * val β (ys.drop (k + 1))) = β ^ k * (xs.getD k 0 + β * val β (ys.drop (k + 1))) + β ^ k := by
    rw [← Nat.mul_succ]; congr 1; omega
  omega

set_option maxHeartbeats 4000000 in
theorem rcmp3_any {w : World} {B : Nat} {A A2 : Option Addr} {n c n2 c2 : Nat} {xs ys : List Nat} (h : Ni w B A n c xs) (h2 : Ni w B A2 n2 c2 ys) (hn : n ≤ 1099511627776) (hn2 : n2 ≤ 1099511627776) :
    Calls Tryz.prog 94 #[.slice A n c, .slice A2 n2 c2] w fun e w' => e = .returned (.int .i64 (sgn (val 65536 xs : Int) (val 65536 ys : Int))) ∧ w = w' := by
  have hl := h.len
  have hl2 := h2.len
  have hat := fun k => rat_any h k
  have hat2 := fun k => rat_any h2 k
  have Hlt : Hid (∀ k, (∀ j, k < j → xs.getD j 0 = ys.getD j 0) → xs.getD k 0 < ys.getD k 0 → sgn (val 65536 xs : Int) (val 65536 ys : Int) = -1) := fun k h1 h2' => sgn_lt (val_lt_of_top (by omega) h.lim h1 h2')
  have Hgt : Hid (∀ k, (∀ j, k < j → xs.getD j 0 = ys.getD j 0) → ys.getD k 0 < xs.getD k 0 → sgn (val 65536 xs : Int) (val 65536 ys : Int) = 1) := fun k h1 h2' => sgn_gt (val_lt_of_top (by omega) h2.lim (fun j hj => (h1 j hj).symm) h2')
  have Heq : Hid ((∀ j, xs.getD j 0 = ys.getD j 0) → sgn (val 65536 xs : Int) (val 65536 ys : Int) = 0) := fun h1 => by rw [val_getD_eq 65536 xs ys h1, sgn_self]
  obtain ⟨s, hs⟩ : ∃ s, sgn (val 65536 xs : Int) (val 65536 ys : Int) = s := ⟨_, rfl⟩
  rw [hs] at Hlt Hgt Heq
  rw [hs]
  have Hat := Lib.hid hat
  have Hat2 := Lib.hid hat2
  clear hat hat2 hs
  obtain ⟨M, hM, hMn, hMx, hMy⟩ : ∃ M, M ≤ 1099511627776 ∧ (if n < n2 then n2 else n) = M ∧ (∀ j, M ≤ j → xs.getD j 0 = 0) ∧ (∀ j, M ≤ j → ys.getD j 0 = 0) := by
    refine ⟨_, ?_, rfl, fun j hj => ?_, fun j hj => ?_⟩
    · split <;> omega
    · have : xs.length ≤ j := by split at hj <;> omega
      simp [List.getD, List.getElem?_eq_none this]
    · have : ys.length ≤ j := by split at hj <;> omega
      simp [List.getD, List.getElem?_eq_none this]
  have Hbeg : Hid (∀ j, M ≤ j → xs.getD j 0 = ys.getD j 0) := fun j hj => by rw [hMx j hj, hMy j hj]
  clear hMx hMy hl hl2
  have hr := h.rooms
  have hr2 := h2.rooms
  by_cases hc : n < n2
  · rw [if_pos hc] at hMn
    subst hMn
    go_enter Tryz.func94, Tryz.ntmps94
    go_wp2_with fail
    go_loopw [6] (fun i wr => ∃ k : Nat, k ≤ n2 ∧ i = .int .i64 ((k : Int) - 1) ∧ wr = w ∧ Hid (∀ j, k ≤ j → xs.getD j 0 = ys.getD j 0)) (fun i _ => (intOf i + 1).toNat)
    case atStart => exact ⟨n2, Nat.le_refl _, rfl, rfl, Hbeg.out⟩
    case round =>
      obtain ⟨k, hk, rfl, rfl, he⟩ := hrel
      by_cases h0 : k = 0
      · subst h0
        have hs := Heq.out (fun j => he.out j (Nat.zero_le _))
        subst hs
        go_wp2_with fail
        go_ret
        exact ⟨rfl, rfl⟩
      · obtain ⟨t, rfl⟩ : ∃ t, k = t + 1 := ⟨k - 1, by omega⟩
        have ei : ((t + 1 : Nat) : Int) - 1 = (t : Int) := by omega
        rw [ei]
        have hgt : ∀ j, t < j → xs.getD j 0 = ys.getD j 0 := fun j hj => he.out j hj
        have Hlt' := Lib.hid (Hlt.out t hgt)
        have Hgt' := Lib.hid (Hgt.out t hgt)
        have hx := Hat.out t
        have hy := Hat2.out t
        have hlx := h.lim.get (by omega) t
        have hly := h2.lim.get (by omega) t
        have Hst : Hid (xs.getD t 0 = ys.getD t 0 → ∀ j, t ≤ j → xs.getD j 0 = ys.getD j 0) := fun e j hj => by
          rcases Nat.lt_or_ge t j with hl | hl
          · exact hgt j hl
          · rw [show j = t by omega]; exact e
        clear hgt
        generalize xs.getD t 0 = x at *
        generalize ys.getD t 0 = y at *
        have Hx := Lib.hid hx
        have Hy := Lib.hid hy
        clear hx hy
        go_wp2_with fail
        refine Hx.out.mono ?_
        rintro e w1 ⟨rfl, rfl⟩
        go_wp2_with fail
        refine Hy.out.mono ?_
        rintro e w1 ⟨rfl, rfl⟩
        rcases Nat.lt_trichotomy x y with hc' | hc' | hc'
        · have hs := Hlt'.out hc'
          subst hs
          go_wp2_with fail
          go_ret
          exact ⟨rfl, rfl⟩
        · have hst := Lib.hid (Hst.out hc')
          subst hc'
          go_wp2_with fail
          refine Hx.out.mono ?_
          rintro e w1 ⟨rfl, rfl⟩
          go_wp2_with fail
          refine Hy.out.mono ?_
          rintro e w1 ⟨rfl, rfl⟩
          go_wp2_with fail
          go_roundw
          case rel => exact ⟨t, by omega, rfl, by simp, hst⟩
          case measure => simp [intOf]
        · have hs := Hgt'.out hc'
          subst hs
          have hnl : ¬ x < y := by omega
          go_wp2_with fail
          refine Hx.out.mono ?_
          rintro e w1 ⟨rfl, rfl⟩
          go_wp2_with fail
          refine Hy.out.mono ?_
          rintro e w1 ⟨rfl, rfl⟩
          go_wp2_with fail
          go_ret
          exact ⟨rfl, rfl⟩
  · rw [if_neg hc] at hMn
    subst hMn
    go_enter Tryz.func94, Tryz.ntmps94
    go_wp2_with fail
    go_loopw [6] (fun i wr => ∃ k : Nat, k ≤ n ∧ i = .int .i64 ((k : Int) - 1) ∧ wr = w ∧ Hid (∀ j, k ≤ j → xs.getD j 0 = ys.getD j 0)) (fun i _ => (intOf i + 1).toNat)
    case atStart => exact ⟨n, Nat.le_refl _, rfl, rfl, Hbeg.out⟩
    case round =>
      obtain ⟨k, hk, rfl, rfl, he⟩ := hrel
      by_cases h0 : k = 0
      · subst h0
        have hs := Heq.out (fun j => he.out j (Nat.zero_le _))
        subst hs
        go_wp2_with fail
        go_ret
        exact ⟨rfl, rfl⟩
      · obtain ⟨t, rfl⟩ : ∃ t, k = t + 1 := ⟨k - 1, by omega⟩
        have ei : ((t + 1 : Nat) : Int) - 1 = (t : Int) := by omega
        rw [ei]
        have hgt : ∀ j, t < j → xs.getD j 0 = ys.getD j 0 := fun j hj => he.out j hj
        have Hlt' := Lib.hid (Hlt.out t hgt)
        have Hgt' := Lib.hid (Hgt.out t hgt)
        have hx := Hat.out t
        have hy := Hat2.out t
        have hlx := h.lim.get (by omega) t
        have hly := h2.lim.get (by omega) t
        have Hst : Hid (xs.getD t 0 = ys.getD t 0 → ∀ j, t ≤ j → xs.getD j 0 = ys.getD j 0) := fun e j hj => by
          rcases Nat.lt_or_ge t j with hl | hl
          · exact hgt j hl
          · rw [show j = t by omega]; exact e
        clear hgt
        generalize xs.getD t 0 = x at *
        generalize ys.getD t 0 = y at *
        have Hx := Lib.hid hx
        have Hy := Lib.hid hy
        clear hx hy
        go_wp2_with fail
        refine Hx.out.mono ?_
        rintro e w1 ⟨rfl, rfl⟩
        go_wp2_with fail
        refine Hy.out.mono ?_
        rintro e w1 ⟨rfl, rfl⟩
        rcases Nat.lt_trichotomy x y with hc' | hc' | hc'
        · have hs := Hlt'.out hc'
          subst hs
          go_wp2_with fail
          go_ret
          exact ⟨rfl, rfl⟩
        · have hst := Lib.hid (Hst.out hc')
          subst hc'
          go_wp2_with fail
          refine Hx.out.mono ?_
          rintro e w1 ⟨rfl, rfl⟩
          go_wp2_with fail
          refine Hy.out.mono ?_
          rintro e w1 ⟨rfl, rfl⟩
          go_wp2_with fail
          go_roundw
          case rel => exact ⟨t, by omega, rfl, by simp, hst⟩
          case measure => simp [intOf]
        · have hs := Hgt'.out hc'
          subst hs
          have hnl : ¬ x < y := by omega
          go_wp2_with fail
          refine Hx.out.mono ?_
          rintro e w1 ⟨rfl, rfl⟩
          go_wp2_with fail
          refine Hy.out.mono ?_
          rintro e w1 ⟨rfl, rfl⟩
          go_wp2_with fail
          go_ret
          exact ⟨rfl, rfl⟩
end Go.Proofs.YtkhlmcknbangfaaGreatDoor
namespace Go.Proofs.YtkhlmcknbangfaaGreatDoor
open Go.RowKit
set_option linter.unusedVariables false
set_option maxRecDepth 100000

theorem pow_split16 (k p : Nat) : (2 : Nat) ^ (16 * k + p) = 65536 ^ k * 2 ^ p := by
  rw [Nat.pow_add, Nat.pow_mul]
theorem digit_of3 {xs : List Nat} (hL : Lim 65536 xs) (k p : Nat) (hp : p < 16) : val 65536 xs / 2 ^ (16 * k + p) % 2 = xs.getD k 0 / 2 ^ p % 2 := by
  rw [pow_split16, ← Nat.div_div_eq_div_mul]
  have h1 := val_split 65536 xs k
  have h2 := val_take_lt (β := 65536) (by omega) hL k
  have h3 : val 65536 xs / 65536 ^ k = xs.getD k 0 + 65536 * val 65536 (xs.drop (k + 1)) := by
    rw [h1, Nat.add_mul_div_left _ _ (Nat.pow_pos (by omega)), Nat.div_eq_of_lt h2, Nat.zero_add]
  rw [h3, show (65536 : Nat) = 2 ^ p * (2 * 2 ^ (15 - p)) by rw [← Nat.mul_assoc, Nat.mul_comm (2 ^ p) 2, ← Nat.pow_succ', ← Nat.pow_add, show p.succ + (15 - p) = 16 by omega], Nat.mul_assoc, Nat.add_mul_div_left _ _ (Nat.two_pow_pos p), Nat.mul_assoc, Nat.add_mul_mod_self_left]

theorem i64_and1 (n : Int) : bits .and .i64 n 1 = n % 2 := by
  have h1 : (BitVec.ofInt 64 1).toNat = 2 ^ 1 - 1 := by decide
  have key : (BitVec.ofInt 64 n &&& BitVec.ofInt 64 1).toNat = (n % ((2 ^ 64 : Nat) : Int)).toNat % 2 ^ 1 := by
    rw [BitVec.toNat_and, BitVec.toNat_ofInt, h1, Nat.and_two_pow_sub_one_eq_mod]
  show IntKind.i64.wrap ((BitVec.ofInt 64 n &&& BitVec.ofInt 64 1).toNat : Nat) = n % 2
  rw [key, IntKind.wrap_i64]
  omega
theorem i64_and16 (n : Int) : bits .and .i64 n 65535 = n % 65536 := by
  have h1 : (BitVec.ofInt 64 65535).toNat = 2 ^ 16 - 1 := by decide
  have key : (BitVec.ofInt 64 n &&& BitVec.ofInt 64 65535).toNat = (n % ((2 ^ 64 : Nat) : Int)).toNat % 2 ^ 16 := by
    rw [BitVec.toNat_and, BitVec.toNat_ofInt, h1, Nat.and_two_pow_sub_one_eq_mod]
  show IntKind.i64.wrap ((BitVec.ofInt 64 n &&& BitVec.ofInt 64 65535).toNat : Nat) = n % 65536
  rw [key, IntKind.wrap_i64]
  omega
set_option maxHeartbeats 4000000 in
theorem rbit_any {w : World} {B : Nat} {A : Option Addr} {n c : Nat} {xs : List Nat} (h : Ni w B A n c xs) (i : Nat) (hi : i ≤ 1099511627776) :
    Calls Tryz.prog 150 #[.slice A n c, .int .i64 (i : Int)] w fun e w' => e = .returned (.int .i64 ((val 65536 xs / 2 ^ i % 2 : Nat) : Int)) ∧ w = w' := by
  have hat := rat_any h (i / 16)
  have e : val 65536 xs / 2 ^ i % 2 = xs.getD (i / 16) 0 / 2 ^ (i % 16) % 2 := by
    rw [← digit_of3 h.lim _ _ (by omega)]
    congr 3
    omega
  have hxl := h.lim.get (by omega) (i / 16)
  rw [e]
  generalize xs.getD (i / 16) 0 = x at *
  have hq : (i : Int).tdiv 16 = ((i / 16 : Nat) : Int) := by
    rw [Int.tdiv_eq_ediv_of_nonneg (by omega)]; exact (Int.natCast_ediv _ _).symm
  have hr : (i : Int).tmod 16 = ((i % 16 : Nat) : Int) := by
    rw [Int.tmod_eq_emod_of_nonneg (by omega)]; exact (Int.natCast_emod _ _).symm
  obtain ⟨q, hqe⟩ : ∃ q, i / 16 = q := ⟨_, rfl⟩
  obtain ⟨p, hpe⟩ : ∃ p, i % 16 = p := ⟨_, rfl⟩
  rw [hqe] at hq hat
  rw [hpe] at hr
  rw [hpe]
  have hp : p < 16 := by omega
  have hq1 : q ≤ 1099511627776 := by omega
  have Hat := Lib.hid hat
  clear hat e hqe hpe
  go_enter Tryz.func150, Tryz.ntmps150
  go_wp2_with fail
  refine Hat.out.mono ?_
  rintro e w1 ⟨rfl, rfl⟩
  go_wp2_with fail
  go_ret
  refine ⟨?_, rfl⟩
  rw [i64_and1]
  simp

theorem Gi.at_ {w : World} {base n c : Nat} {A : Option Addr} {xs : List Nat} (h : Gi w base A n c xs) {k : Nat} (hk : k < n) :
    ∃ g, A = some ⟨g, 0, none⟩ ∧ base ≤ g ∧ w.cell? ⟨g, k, none⟩ = some (.int .i64 ((xs.getD k 0 : Nat) : Int)) ∧ w.frozen? ⟨g, k, none⟩ = false := by
  obtain ⟨hl, ho⟩ := h
  rcases ho.2 with ⟨_, rfl⟩ | ⟨g, cap, cur, e, hg, _⟩
  · omega
  · injection e with e1 e2 e3
    subst e1; subst e3
    refine ⟨g, rfl, hg, ?_, ho.frozenAt k⟩
    rw [ho.cellAt k (by omega)]
    have hk2 : k < xs.length := by omega
    simp [is, List.getD, List.getElem?_eq_getElem hk2]
theorem Gi.set_ {w : World} {base n c g : Nat} {xs : List Nat} (h : Gi w base (some ⟨g, 0, none⟩) n c xs) (k y : Nat) : Gi (w.setCell ⟨g, k, none⟩ (.int .i64 (y : Int))) base (some ⟨g, 0, none⟩) n c (xs.set k y) := by
  refine ⟨by simp [h.1], ?_⟩
  have := (h.2.stored k (.int .i64 (y : Int))).1
  rwa [show is (xs.set k y) = (is xs).set k (.int .i64 (y : Int)) by simp [is, List.map_set]]
theorem Gi.lt {w : World} {base n c g : Nat} {xs : List Nat} (h : Gi w base (some ⟨g, 0, none⟩) n c xs) : base ≤ g ∧ g < w.heap.size := h.2.lt g rfl

/-- a row behind a pointer -/
structure Rw (w : World) (base p g n c : Nat) (xs : List Nat) : Prop where
  own : Gi w base (some ⟨g, 0, none⟩) n c xs
  cell : w.cell? ⟨p, 0, none⟩ = some (.slice (some ⟨g, 0, none⟩) n c)
  lim : Lim 65536 xs
  ne : p ≠ g
  pl : p < w.heap.size

/-- twice the row, and b: what holds at the loop's head -/
structure Db (w wr : World) (base p g n c k b ov : Nat) (xs done : List Nat) : Prop where
  row : Rw wr base p g n c (done ++ xs.drop k)
  gr : w.grownBy wr (some g)
  len : done.length = k
  o1 : ov ≤ 1
  v : val 65536 done + ov * 65536 ^ k = 2 * val 65536 (xs.take k) + b
theorem Db.step {w wr : World} {base p g n c k b ov x : Nat} {xs done : List Nat} (h : Db w wr base p g n c k b ov xs done) (hk : k < xs.length) (hx : xs.getD k 0 = x) (hxl : x < 65536) :
    Db w (wr.setCell ⟨g, k, none⟩ (.int .i64 (((ov + 2 * x) % 65536 : Nat) : Int))) base p g n c (k + 1) b ((ov + 2 * x) / 65536) xs (done ++ [(ov + 2 * x) % 65536]) := by
  have hl := h.len
  have ho := h.o1
  have e : xs.drop k = x :: xs.drop (k + 1) := by
    rw [List.drop_eq_getElem_cons hk]
    simp [← hx, List.getD, List.getElem?_eq_getElem hk]
  have hset : (done ++ xs.drop k).set k ((ov + 2 * x) % 65536) = done ++ [(ov + 2 * x) % 65536] ++ xs.drop (k + 1) := by
    rw [e, List.set_append, if_neg (by omega), hl, Nat.sub_self]
    simp
  refine ⟨⟨?_, keep_store h.row.cell h.row.ne, ?_, h.row.ne, by rw [size_setCell]; exact h.row.pl⟩, only_setCell h.gr (.inl rfl) _, by simp [hl], by omega, ?_⟩
  · rw [← hset]; exact h.row.own.set_ k _
  · have h1 := h.row.lim
    exact ((h1.left).append (Lim.one (Nat.mod_lt _ (by omega)))).append (fun y hy => h1.right y (by rw [e]; exact List.mem_cons_of_mem _ hy))
  · have hv := h.v
    rw [val_snoc, hl, val_take_succ, hx, Nat.pow_succ]
    have e1 := Nat.mod_add_div (ov + 2 * x) 65536
    generalize (ov + 2 * x) % 65536 = r at *
    generalize (ov + 2 * x) / 65536 = q at *
    generalize 65536 ^ k = Q at *
    have e2 : Q * r + q * (Q * 65536) = Q * (ov + 2 * x) := by
      rw [← e1, Nat.mul_add]
      simp only [Nat.mul_comm, Nat.mul_left_comm]
    have e3 : Q * (ov + 2 * x) = Q * ov + Q * x + Q * x := by rw [Nat.mul_add, Nat.two_mul, Nat.mul_add]; omega
    have e4 : ov * Q = Q * ov := Nat.mul_comm _ _
    omega

set_option maxHeartbeats 4000000 in
theorem double_any {w : World} {base p g n c b : Nat} {xs : List Nat} (h : Rw w base p g n c xs) (hn : n ≤ 1099511627776) (hb : b ≤ 1) (hfit : 2 * val 65536 xs + b < 65536 ^ n) :
    Calls Tryz.prog 152 #[.pointer (some ⟨p, 0, none⟩), .int .i64 (b : Int)] w fun e w' => e = .returned (.tuple #[]) ∧ ∃ ys, Rw w' base p g n c ys ∧ val 65536 ys = 2 * val 65536 xs + b ∧ w.grownBy w' (some g) := by
  have hl := h.own.1
  have Hfit := Lib.hid hfit
  have hd0 : Db w w base p g n c 0 b b xs [] := ⟨by simpa using h, World.grownBy.refl _ _, rfl, hb, by simp [val]⟩
  clear hfit
  go_enter Tryz.func152, Tryz.ntmps152
  go_wp2_with fail
  go_loopw [1, 4] (fun u i wr => ∃ (k ov : Nat) (done : List Nat), k ≤ n ∧ i = .int .i64 (k : Int) ∧ u = .int .i64 (ov : Int) ∧ Hid (Db w wr base p g n c k b ov xs done)) (fun _ i _ => n - (intOf i).toNat)
  case atStart => exact ⟨0, b, [], Nat.zero_le _, rfl, rfl, hd0⟩
  case round =>
    clear hd0
    obtain ⟨k, ov, done, hk, rfl, rfl, HD⟩ := hrel
    have hc := HD.out.row.cell
    have ho1 := HD.out.o1
    by_cases hlt : k < n
    · obtain ⟨_, eA, _, hcell, hfr⟩ := HD.out.row.own.at_ hlt
      cases eA
      have hxk : (done ++ xs.drop k).getD k 0 = xs.getD k 0 := by
        have := HD.out.len
        simp only [List.getD]
        rw [List.getElem?_append_right (by omega), List.getElem?_drop]
        congr 2
        omega
      rw [hxk] at hcell
      have hxl : xs.getD k 0 < 65536 := by
        rw [← hxk]; exact HD.out.row.lim.get (by omega) k
      obtain ⟨x, hx⟩ : ∃ x, xs.getD k 0 = x := ⟨_, rfl⟩
      rw [hx] at hcell hxl
      have HS := Lib.hid (HD.out.step (by omega) hx hxl)
      clear hxk hx
      have m1 := i64_and16 ((ov : Int) + 2 * (x : Int))
      go_wp2_with fail
      go_roundw
      case rel => exact ⟨k + 1, (ov + 2 * x) / 65536, done ++ [(ov + 2 * x) % 65536], by omega, by simp, by simp, by simpa using HS⟩
      case measure => simp [intOf]; omega
    · have hkn : k = n := by omega
      subst hkn
      go_wp2_with fail
      go_end0
      have HD' := HD.out
      have hv := HD'.v
      rw [List.take_of_length_le (by omega)] at hv
      have hov : ov = 0 := by
        rcases Nat.eq_zero_or_pos ov with h0 | h0
        · exact h0
        · exfalso
          have h1 := Nat.mul_le_mul_right (65536 ^ k) (show 1 ≤ ov from h0)
          have h2 := Hfit.out
          omega
      subst hov
      have hr := HD'.row
      rw [List.drop_eq_nil_of_le (by omega), List.append_nil] at hr
      exact ⟨rfl, done, hr, by omega, HD'.gr⟩
end Go.Proofs.YtkhlmcknbangfaaGreatDoor
namespace Go.Proofs.YtkhlmcknbangfaaGreatDoor
open Go.RowKit
set_option linter.unusedSimpArgs false
set_option linter.unusedVariables false
set_option maxRecDepth 100000

theorem Ni.only {w w' : World} {B g n c : Nat} {A : Option Addr} {xs : List Nat} (h : Ni w B A n c xs) (hg : w.grownBy w' (some g)) (hBg : B ≤ g) (hB : B ≤ w.heap.size) : Ni w' B A n c xs := h.below (below_of_only hg hBg hB)
theorem Ni.drewN {w : World} {B n c : Nat} {A : Option Addr} {xs : List Nat} (h : Ni w B A n c xs) (d : Nat) : Ni (w.drewN d) B A n c xs := ⟨h.len, h.cap, h.room, h.lim, h.cell⟩
theorem Rw.drewN {w : World} {base p g n c : Nat} {xs : List Nat} (h : Rw w base p g n c xs) (d : Nat) : Rw (w.drewN d) base p g n c xs := ⟨h.own, h.cell, h.lim, h.ne, h.pl⟩
theorem mid_get {done xs : List Nat} {k : Nat} (hl : done.length = k) : (done ++ xs.drop k).getD k 0 = xs.getD k 0 := by
  simp only [List.getD]
  rw [List.getElem?_append_right (by omega), List.getElem?_drop]
  congr 2
  omega
/-- a digit is written: what stays -/
theorem Rw.put {wr : World} {base p g n c k y x : Nat} {xs done : List Nat} (h : Rw wr base p g n c (done ++ xs.drop k)) (hl : done.length = k) (hk : k < xs.length) (hy : y < 65536) :
    Rw (wr.setCell ⟨g, k, none⟩ (.int .i64 (y : Int))) base p g n c (done ++ [y] ++ xs.drop (k + 1)) := by
  have e : xs.drop k = xs.getD k 0 :: xs.drop (k + 1) := by
    rw [List.drop_eq_getElem_cons hk]
    simp [List.getD, List.getElem?_eq_getElem hk]
  have hset : (done ++ xs.drop k).set k y = done ++ [y] ++ xs.drop (k + 1) := by
    rw [e, List.set_append, if_neg (by omega), hl, Nat.sub_self]
    simp
  refine ⟨?_, keep_store h.cell h.ne, ?_, h.ne, by rw [size_setCell]; exact h.pl⟩
  · rw [← hset]; exact h.own.set_ k _
  · exact ((h.lim.left).append (Lim.one hy)).append (fun z hz => h.lim.right z (by rw [e]; exact List.mem_cons_of_mem _ hz))

structure Gn (w wr : World) (base p g n c k ov : Nat) (xs az done : List Nat) : Prop where
  row : Rw wr base p g n c (done ++ xs.drop k)
  gr : w.grownBy wr (some g)
  len : done.length = k
  o1 : ov ≤ 1
  v : val 65536 done + ov * 65536 ^ k = val 65536 (xs.take k) + val 65536 (az.take k)
theorem Gn.drewN {w wr : World} {base p g n c k ov : Nat} {xs az done : List Nat} (h : Gn w wr base p g n c k ov xs az done) (d : Nat) : Gn w (wr.drewN d) base p g n c k ov xs az done := ⟨h.row.drewN d, only_drewN h.gr d, h.len, h.o1, h.v⟩
theorem Gn.step {w wr : World} {base p g n c k ov x a : Nat} {xs az done : List Nat} (h : Gn w wr base p g n c k ov xs az done) (hk : k < xs.length) (hx : xs.getD k 0 = x) (ha : az.getD k 0 = a) (hxl : x < 65536) (hal : a < 65536) :
    Gn w (wr.setCell ⟨g, k, none⟩ (.int .i64 (((ov + x + a) % 65536 : Nat) : Int))) base p g n c (k + 1) ((ov + x + a) / 65536) xs az (done ++ [(ov + x + a) % 65536]) := by
  have hl := h.len
  have ho := h.o1
  refine ⟨h.row.put (x := 0) hl hk (Nat.mod_lt _ (by omega)), only_setCell h.gr (.inl rfl) _, by simp [hl], by omega, ?_⟩
  have hv := h.v
  rw [val_snoc, hl, val_take_succ, val_take_succ, hx, ha, Nat.pow_succ]
  have e1 := Nat.mod_add_div (ov + x + a) 65536
  generalize (ov + x + a) % 65536 = r at *
  generalize (ov + x + a) / 65536 = q at *
  generalize 65536 ^ k = Q at *
  have e2 : Q * r + q * (Q * 65536) = Q * (ov + x + a) := by
    rw [← e1, Nat.mul_add]
    simp only [Nat.mul_comm, Nat.mul_left_comm]
  have e3 : Q * (ov + x + a) = Q * ov + Q * x + Q * a := by rw [Nat.mul_add, Nat.mul_add]
  have e4 : ov * Q = Q * ov := Nat.mul_comm _ _
  omega

set_option maxHeartbeats 4000000 in
theorem gain_any {w : World} {base p g n c an ac : Nat} {aA : Option Addr} {xs az : List Nat} (h : Rw w base p g n c xs) (ha : Ni w base aA an ac az) (hbs : base ≤ w.heap.size) (hn : n ≤ 1099511627776) (hle : an ≤ n) (hfit : val 65536 xs + val 65536 az < 65536 ^ n) :
    Calls Tryz.prog 154 #[.pointer (some ⟨p, 0, none⟩), .slice aA an ac] w fun e w' => e = .returned (.tuple #[]) ∧ ∃ ys, Rw w' base p g n c ys ∧ val 65536 ys = val 65536 xs + val 65536 az ∧ w.grownBy w' (some g) := by
  have hl := h.own.1
  have hal := ha.len
  have hbg := h.own.lt.1
  have Hfit := Lib.hid hfit
  have hd0 : Gn w w base p g n c 0 0 xs az [] := ⟨by simpa using h, World.grownBy.refl _ _, rfl, by omega, by simp [val]⟩
  clear hfit
  go_enter Tryz.func154, Tryz.ntmps154
  go_wp2_with fail
  go_loopw [4, 5] (fun u i wr => ∃ (k ov : Nat) (done : List Nat), k ≤ n ∧ i = .int .i64 (k : Int) ∧ u = .int .i64 (ov : Int) ∧ Hid (Gn w wr base p g n c k ov xs az done)) (fun _ i _ => n - (intOf i).toNat)
  case atStart => exact ⟨0, 0, [], Nat.zero_le _, rfl, rfl, hd0⟩
  case round =>
    clear hd0
    obtain ⟨k, ov, done, hk, rfl, rfl, HD⟩ := hrel
    have hc := HD.out.row.cell
    have ho1 := HD.out.o1
    by_cases hlt : k < n
    · obtain ⟨_, eA, _, hcell, hfr⟩ := HD.out.row.own.at_ hlt
      cases eA
      rw [mid_get HD.out.len] at hcell
      have hxl : xs.getD k 0 < 65536 := h.lim.get (by omega) k
      have hxa := ha.lim.get (by omega) k
      have hat := fun d => rat_any ((ha.only HD.out.gr hbg hbs).drewN d) k
      obtain ⟨x, hx⟩ : ∃ x, xs.getD k 0 = x := ⟨_, rfl⟩
      obtain ⟨a, hae⟩ : ∃ a, az.getD k 0 = a := ⟨_, rfl⟩
      rw [hx] at hcell hxl
      rw [hae] at hxa hat
      have HS := fun d => Lib.hid ((HD.out.drewN d).step (by omega) hx hae hxl hxa)
      have HSS := Lib.hid HS
      have Hat := Lib.hid hat
      clear hx hae HS hat
      have m1 := i64_and16 ((ov : Int) + (x : Int) + (a : Int))
      go_wp2_with fail
      go_quiet ((go_at_call 148; exact (Hat.out _).mono fun _ _ ⟨he, hw⟩ => ⟨he, _, hw.symm⟩))
      have HS2 := HSS.out nq
      go_wp2_with fail
      go_roundw
      case rel => exact ⟨k + 1, (ov + x + a) / 65536, done ++ [(ov + x + a) % 65536], by omega, by simp, by simp, by simpa using HS2⟩
      case measure => simp [intOf]; omega
    · have hkn : k = n := by omega
      subst hkn
      go_wp2_with fail
      go_end0
      have HD' := HD.out
      have hv := HD'.v
      rw [List.take_of_length_le (by omega), List.take_of_length_le (by omega)] at hv
      have hov : ov = 0 := by
        rcases Nat.eq_zero_or_pos ov with h0 | h0
        · exact h0
        · exfalso
          have h1 := Nat.mul_le_mul_right (65536 ^ k) (show 1 ≤ ov from h0)
          have h2 := Hfit.out
          omega
      subst hov
      have hr := HD'.row
      rw [List.drop_eq_nil_of_le (by omega), List.append_nil] at hr
      exact ⟨rfl, done, hr, by omega, HD'.gr⟩

structure Dp (w wr : World) (base p g n c k ow : Nat) (xs ns done : List Nat) : Prop where
  row : Rw wr base p g n c (done ++ xs.drop k)
  gr : w.grownBy wr (some g)
  len : done.length = k
  o1 : ow ≤ 1
  v : val 65536 done + val 65536 (ns.take k) = val 65536 (xs.take k) + ow * 65536 ^ k
theorem Dp.drewN {w wr : World} {base p g n c k ow : Nat} {xs ns done : List Nat} (h : Dp w wr base p g n c k ow xs ns done) (d : Nat) : Dp w (wr.drewN d) base p g n c k ow xs ns done := ⟨h.row.drewN d, only_drewN h.gr d, h.len, h.o1, h.v⟩
theorem Dp.step {w wr : World} {base p g n c k ow ow' x a y : Nat} {xs ns done : List Nat} (h : Dp w wr base p g n c k ow xs ns done) (hk : k < xs.length) (hx : xs.getD k 0 = x) (ha : ns.getD k 0 = a) (hy : y < 65536) (ho' : ow' ≤ 1) (he : y + a + ow = x + ow' * 65536) :
    Dp w (wr.setCell ⟨g, k, none⟩ (.int .i64 (y : Int))) base p g n c (k + 1) ow' xs ns (done ++ [y]) := by
  have hl := h.len
  refine ⟨h.row.put (x := 0) hl hk hy, only_setCell h.gr (.inl rfl) _, by simp [hl], ho', ?_⟩
  have hv := h.v
  rw [val_snoc, hl, val_take_succ, val_take_succ, hx, ha, Nat.pow_succ]
  generalize 65536 ^ k = Q at *
  have e2 : Q * (y + a + ow) = Q * (x + ow' * 65536) := by rw [he]
  have e3 : Q * (y + a + ow) = Q * y + Q * a + Q * ow := by rw [Nat.mul_add, Nat.mul_add]
  have e4 : Q * (x + ow' * 65536) = Q * x + ow' * (Q * 65536) := by
    rw [Nat.mul_add]; congr 1; simp only [Nat.mul_comm, Nat.mul_left_comm]
  have e5 : ow * Q = Q * ow := Nat.mul_comm _ _
  omega

set_option maxHeartbeats 4000000 in
theorem drop_any {w : World} {base p g n c an ac : Nat} {aA : Option Addr} {xs ns : List Nat} (h : Rw w base p g n c xs) (ha : Ni w base aA an ac ns) (hbs : base ≤ w.heap.size) (hn : n ≤ 1099511627776) (hle : an ≤ n) :
    Calls Tryz.prog 153 #[.pointer (some ⟨p, 0, none⟩), .slice aA an ac] w fun e w' => ∃ b ys, e = .returned (.bool b) ∧ Rw w' base p g n c ys ∧ w.grownBy w' (some g) ∧
      (b = true ∧ val 65536 ns ≤ val 65536 xs ∧ val 65536 ys = val 65536 xs - val 65536 ns ∨ b = false ∧ val 65536 xs < val 65536 ns ∧ ys = xs) := by
  have hl := h.own.1
  have hal := ha.len
  have hbg := h.own.lt.1
  have hc := h.cell
  have hcmp := rcmp3_any (h.own.ni h.lim |>.more (Nat.le_refl _)) (ha.more hbs) hn (by omega)
  have hd0 : Dp w w base p g n c 0 0 xs ns [] := ⟨by simpa using h, World.grownBy.refl _ _, rfl, by omega, by simp [val]⟩
  have Hcmp := Lib.hid hcmp
  clear hcmp
  rcases Nat.lt_or_ge (val 65536 xs) (val 65536 ns) with hlt | hge
  · have hs := sgn_lt hlt
    have HL := Lib.hid hlt
    clear hlt
    go_enter Tryz.func153, Tryz.ntmps153
    go_wp2_with fail
    refine Hcmp.out.mono ?_
    rintro e w1 ⟨rfl, rfl⟩
    rw [hs]
    clear hs
    go_wp2_with fail
    go_ret
    exact ⟨false, xs, rfl, h, World.grownBy.refl _ _, .inr ⟨rfl, HL.out, rfl⟩⟩
  · have hs : ¬ sgn (val 65536 xs : Int) (val 65536 ns : Int) < 0 := by
      unfold sgn
      split
      · omega
      · split <;> omega
    generalize sgn (val 65536 xs : Int) (val 65536 ns : Int) = s at *
    have HG := Lib.hid hge
    clear hge
    go_enter Tryz.func153, Tryz.ntmps153
    go_wp2_with fail
    refine Hcmp.out.mono ?_
    rintro e w1 ⟨rfl, rfl⟩
    go_wp2_with fail
    go_loopw [5, 6] (fun u i wr => ∃ (k ow : Nat) (done : List Nat), k ≤ n ∧ i = .int .i64 (k : Int) ∧ u = .int .i64 (ow : Int) ∧ Hid (Dp w wr base p g n c k ow xs ns done)) (fun _ i _ => n - (intOf i).toNat)
    case atStart => exact ⟨0, 0, [], Nat.zero_le _, rfl, rfl, hd0⟩
    case round =>
      clear hd0
      obtain ⟨k, ow, done, hk, rfl, rfl, HD⟩ := hrel
      have hc := HD.out.row.cell
      have ho1 := HD.out.o1
      by_cases hlt : k < n
      · obtain ⟨_, eA, _, hcell, hfr⟩ := HD.out.row.own.at_ hlt
        cases eA
        rw [mid_get HD.out.len] at hcell
        have hxl : xs.getD k 0 < 65536 := h.lim.get (by omega) k
        have hxa := ha.lim.get (by omega) k
        have hat := fun d => rat_any ((ha.only HD.out.gr hbg hbs).drewN d) k
        obtain ⟨x, hx⟩ : ∃ x, xs.getD k 0 = x := ⟨_, rfl⟩
        obtain ⟨a, hae⟩ : ∃ a, ns.getD k 0 = a := ⟨_, rfl⟩
        rw [hx] at hcell hxl
        rw [hae] at hxa hat
        have HS := fun d y ow' h1 h2 h3 => Lib.hid ((HD.out.drewN d).step (y := y) (ow' := ow') (by omega) hx hae h1 h2 h3)
        have HSS := Lib.hid HS
        have Hat := Lib.hid hat
        clear hx hae HS hat
        by_cases hneg : x < a + ow
        · have hy := fun d => HSS.out d (x + 65536 - a - ow) 1 (by omega) (by omega) (by omega)
          have hi : (x : Int) - (a : Int) - (ow : Int) < 0 := by omega
          have hi2 : (x : Int) - (a : Int) - (ow : Int) + 65536 = ((x + 65536 - a - ow : Nat) : Int) := by omega
          have Hy := Lib.hid hy
          clear hy
          go_wp2_with fail
          go_quiet ((go_at_call 148; exact (Hat.out _).mono fun _ _ ⟨he, hw⟩ => ⟨he, _, hw.symm⟩))
          have HS2 := Hy.out nq
          go_wp2_with fail
          go_roundw
          case rel => exact ⟨k + 1, 1, _, by omega, by simp, rfl, HS2⟩
          case measure => simp [intOf]; omega
        · have hy := fun d => HSS.out d (x - a - ow) 0 (by omega) (by omega) (by omega)
          have hi : ¬ (x : Int) - (a : Int) - (ow : Int) < 0 := by omega
          have hi2 : (x : Int) - (a : Int) - (ow : Int) = ((x - a - ow : Nat) : Int) := by omega
          have Hy := Lib.hid hy
          clear hy
          go_wp2_with fail
          go_quiet ((go_at_call 148; exact (Hat.out _).mono fun _ _ ⟨he, hw⟩ => ⟨he, _, hw.symm⟩))
          have HS2 := Hy.out nq
          go_wp2_with fail
          go_roundw
          case rel => exact ⟨k + 1, 0, _, by omega, by simp, rfl, HS2⟩
          case measure => simp [intOf]; omega
      · have hkn : k = n := by omega
        subst hkn
        go_wp2_with fail
        go_ret
        have HD' := HD.out
        have hv := HD'.v
        rw [List.take_of_length_le (by omega), List.take_of_length_le (by omega)] at hv
        have hr := HD'.row
        rw [List.drop_eq_nil_of_le (by omega), List.append_nil] at hr
        have hG := HG.out
        have hlt2 := val_lt hr.lim
        rw [HD'.len] at hlt2
        have hov : ow = 0 := by
          rcases Nat.eq_zero_or_pos ow with h0 | h0
          · exact h0
          · exfalso
            have h1 := Nat.mul_le_mul_right (65536 ^ k) (show 1 ≤ ow from h0)
            omega
        subst hov
        exact ⟨true, done, rfl, hr, HD'.gr, .inl ⟨rfl, hG, by omega⟩⟩
end Go.Proofs.YtkhlmcknbangfaaGreatDoor
namespace Go.Proofs.YtkhlmcknbangfaaGreatDoor
open Go.RowKit
set_option linter.unusedVariables false
set_option maxRecDepth 100000

theorem Gi.keep {w w' : World} {base n c : Nat} {A : Option Addr} {xs : List Nat} (h : Gi w base A n c xs) (hb : ∀ g, A = some ⟨g, 0, none⟩ → w'.heap[g]? = w.heap[g]?) : Gi w' base A n c xs := by
  obtain ⟨hl, h1, h2⟩ := h
  refine ⟨hl, h1, ?_⟩
  rcases h2 with h2 | ⟨g, cap, cur, e, hg, hh, hr⟩
  · exact .inl h2
  · right
    injection e with e1 e2 e3
    subst e1; subst e3
    exact ⟨g, _, cur, rfl, hg, (hb g rfl).trans hh, hr⟩
theorem Gi.block {w : World} {base n c : Nat} {A : Option Addr} {xs : List Nat} (h : Gi w base A n c xs) {g : Nat} (e : A = some ⟨g, 0, none⟩) : base ≤ g ∧ g < w.heap.size := by
  subst e; exact h.2.lt g rfl
theorem Gi.grown {w w' : World} {base n c g : Nat} {A : Option Addr} {xs : List Nat} (h : Gi w base A n c xs) (hg : w.grownBy w' (some g)) (hne : ∀ g', A = some ⟨g', 0, none⟩ → g' ≠ g) : Gi w' base A n c xs :=
  h.keep fun g' e => hg.block g' (h.block e).2 (by simpa using hne g' e)
theorem Gi.below {w w' : World} {base B n c : Nat} {A : Option Addr} {xs : List Nat} (h : Gi w base A n c xs) (hb : Below B w w') (hB : w.heap.size ≤ B) : Gi w' base A n c xs :=
  h.keep fun g' e => hb.block g' (by have := (h.block e).2; omega)
theorem Rw.far {w : World} {base p g n c gq k : Nat} {xs : List Nat} {v : Value} (h : Rw w base p g n c xs) (h1 : p ≠ gq) (h2 : g ≠ gq) : Rw (w.setCell ⟨gq, k, none⟩ v) base p g n c xs :=
  ⟨h.own.keep fun g' e => by cases e; exact Below.heap_setCell w _ _ g (by simpa using h2), keep_store h.cell h1, h.lim, h.ne, by rw [size_setCell]; exact h.pl⟩

/-- the next step of a division by binary digits -/
theorem div_next {A N t b r : Nat} (hN : 0 < N) (hb : b = A / 2 ^ t % 2) (hr : r = A / 2 ^ (t + 1) % N) :
    (2 * r + b < 2 * N) ∧ (N ≤ 2 * r + b → A / 2 ^ t % N = 2 * r + b - N ∧ A / 2 ^ t / N = 2 * (A / 2 ^ (t + 1) / N) + 1) ∧ (2 * r + b < N → A / 2 ^ t % N = 2 * r + b ∧ A / 2 ^ t / N = 2 * (A / 2 ^ (t + 1) / N)) := by
  have e : A / 2 ^ (t + 1) = A / 2 ^ t / 2 := by rw [Nat.pow_succ, Nat.div_div_eq_div_mul]
  rw [e] at hr ⊢
  generalize A / 2 ^ t = X at *
  have hx : X = 2 * (X / 2) + b := by omega
  have hd := Nat.div_add_mod (X / 2) N
  have hlt := Nat.mod_lt (X / 2) hN
  rw [← hr] at hd hlt
  generalize X / 2 / N = q at *
  generalize X / 2 = Y at *
  have hX : X = N * (2 * q) + (2 * r + b) := by
    rw [hx, ← hd, Nat.mul_add, Nat.mul_left_comm]; omega
  refine ⟨by omega, fun h => ?_, fun h => ?_⟩
  · have h1 : X = N * (2 * q + 1) + (2 * r + b - N) := by rw [hX, Nat.mul_add N]; omega
    rw [h1]
    constructor
    · rw [Nat.mul_add_mod, Nat.mod_eq_of_lt (by omega)]
    · rw [Nat.mul_add_div hN, Nat.div_eq_of_lt (by omega), Nat.add_zero]
  · rw [hX]
    constructor
    · rw [Nat.mul_add_mod, Nat.mod_eq_of_lt h]
    · rw [Nat.mul_add_div hN, Nat.div_eq_of_lt h, Nat.add_zero]
/-- a binary digit is set -/
theorem set_bit {qs : List Nat} (hL : Lim 65536 qs) {t : Nat} (ht : t / 16 < qs.length) (h0 : val 65536 qs % 2 ^ (t + 1) = 0) :
    qs.getD (t / 16) 0 + 2 ^ (t % 16) < 65536 ∧ val 65536 (qs.set (t / 16) (qs.getD (t / 16) 0 + 2 ^ (t % 16))) = val 65536 qs + 2 ^ t := by
  have hd := hL.get (by omega) (t / 16)
  have hp : t % 16 < 16 := by omega
  have hk : t = 16 * (t / 16) + t % 16 := by omega
  generalize t / 16 = k at *
  generalize t % 16 = p at *
  subst hk
  have hs := val_split 65536 qs k
  have hlo := val_take_lt (β := 65536) (by omega) hL k
  have hdig : qs.getD k 0 % 2 ^ (p + 1) = 0 := by
    have e1 : (2 : Nat) ^ (16 * k + p + 1) = 65536 ^ k * 2 ^ (p + 1) := by rw [Nat.add_assoc, pow_split16]
    rw [e1, Nat.mod_mul] at h0
    have h1 : val 65536 qs / 65536 ^ k % 2 ^ (p + 1) = 0 := by
      rcases Nat.mul_eq_zero.1 (show 65536 ^ k * (val 65536 qs / 65536 ^ k % 2 ^ (p + 1)) = 0 by omega) with h | h
      · have := Nat.pow_pos (n := k) (show 0 < 65536 by omega); omega
      · exact h
    rw [hs, Nat.add_mul_div_left _ _ (Nat.pow_pos (by omega)), Nat.div_eq_of_lt hlo, Nat.zero_add] at h1
    rw [show (65536 : Nat) = 2 ^ (p + 1) * 2 ^ (15 - p) by rw [← Nat.pow_add, show p + 1 + (15 - p) = 16 by omega], Nat.mul_assoc, Nat.add_mul_mod_self_left] at h1
    exact h1
  constructor
  · obtain ⟨u, hu⟩ := Nat.dvd_of_mod_eq_zero hdig
    have e2 : (65536 : Nat) = 2 ^ (p + 1) * 2 ^ (15 - p) := by rw [← Nat.pow_add, show p + 1 + (15 - p) = 16 by omega]
    have hu1 : u < 2 ^ (15 - p) := by
      apply Nat.lt_of_mul_lt_mul_left (a := 2 ^ (p + 1))
      rw [← hu, ← e2]; exact hd
    have h3 := Nat.mul_le_mul_left (2 ^ (p + 1)) (show u + 1 ≤ 2 ^ (15 - p) from hu1)
    rw [Nat.mul_add, ← hu, ← e2, Nat.pow_succ] at h3
    have := Nat.two_pow_pos p
    omega
  · have e3 : qs.set k (qs.getD k 0 + 2 ^ p) = qs.take k ++ (qs.getD k 0 + 2 ^ p) :: qs.drop (k + 1) := by
      rw [List.set_eq_take_append_cons_drop, if_pos ht]
    rw [e3, val_append, val, List.length_take, Nat.min_eq_left (by omega)]
    conv => rhs; rw [hs]
    rw [pow_split16, Nat.mul_add, Nat.mul_add, Nat.mul_add]
    omega

theorem Ni.cut {w : World} {B : Nat} {A : Option Addr} {n c : Nat} {xs : List Nat} (h : Ni w B A n c xs) : Ni w B A (tl xs n) c (cutL xs) :=
  ⟨by rw [length_cutL, h.len], Nat.le_trans (tl_le xs n) h.cap, h.room, lim_cutL h.lim, fun h0 => by
    have ht := tl_le xs n
    obtain ⟨b, off, e, hb, hcell⟩ := h.cell (by omega)
    refine ⟨b, off, e, hb, fun j x hx => hcell j x ?_⟩
    unfold cutL at hx
    rw [List.getElem?_take] at hx
    split at hx
    · exact hx
    · cases hx⟩
/-- digits of 16 bits without noughts at the end, of a known value -/
structure Dig (w : World) (A : Option Addr) (n c v : Nat) (ds : List Nat) : Prop where
  ni : Ni w w.heap.size A n c ds
  trm : Trm ds
  is : val 65536 ds = v

theorem wrap_two (x u : Nat) (h : x + u < 65536) : wrap64 ((x : Int) + wrap64 (u : Int)) = ((x + u : Nat) : Int) := by
  unfold wrap64
  omega
theorem wrap_bit {x tp : Nat} (h : x + 2 ^ tp < 65536) : wrap64 ((x : Int) + wrap64 (2 ^ tp)) = ((x + 2 ^ tp : Nat) : Int) := by
  rw [← wrap_two x (2 ^ tp) h]
  congr 3
/-- what holds at the loop's head, behind the digits from k on -/
structure Pt (w w1 wr : World) (p g la cq ln cr A N k : Nat) (Aq : Option Addr) (qs rs : List Nat) : Prop where
  q : Gi wr w.heap.size Aq la cq qs
  qb : ∀ g', Aq = some ⟨g', 0, none⟩ → g' < w1.heap.size
  ql : Lim 65536 qs
  r : Rw wr w1.heap.size p g (ln + 1) cr rs
  vr : val 65536 rs = A / 2 ^ k % N
  vq : val 65536 qs = A / 2 ^ k / N * 2 ^ k
  b : Below w.heap.size w wr
  s1 : w.heap.size ≤ w1.heap.size
  s2 : w1.heap.size ≤ wr.heap.size
  pb : w1.heap.size ≤ p

set_option maxHeartbeats 8000000 in
theorem parted_any {w : World} {aA nA : Option Addr} {la ca ln cn : Nat} {az ns : List Nat} (ha : Ni w w.heap.size aA la ca az) (hn : Ni w w.heap.size nA ln cn ns) (hla : la ≤ 1099511) (hln : ln ≤ 1099511) (hpos : 0 < val 65536 ns) :
    Calls Tryz.prog 97 #[.slice aA la ca, .slice nA ln cn] w fun e w' => ∃ A1 n1 c1 A2 n2 c2 qs rs, e = .returned (.tuple #[.slice A1 n1 c1, .slice A2 n2 c2]) ∧ n1 ≤ la ∧ n2 ≤ ln ∧
      Dig w' A1 n1 c1 (val 65536 az / val 65536 ns) qs ∧ Dig w' A2 n2 c2 (val 65536 az % val 65536 ns) rs ∧ Below w.heap.size w w' := by
  have hra := ha.rooms
  have hrn := hn.rooms
  have pa := val_lt ha.lim
  have pn := val_lt hn.lim
  rw [ha.len] at pa
  rw [hn.len] at pn
  have hbit := fun W (k : Ni W W.heap.size aA la ca az) (i : Nat) (hi : i ≤ 1099511627776) => rbit_any k i hi
  obtain ⟨A, hA⟩ : ∃ A, val 65536 az = A := ⟨_, rfl⟩
  obtain ⟨N, hN⟩ : ∃ N, val 65536 ns = N := ⟨_, rfl⟩
  rw [hA] at pa hbit
  rw [hN] at pn hpos
  rw [hA, hN]
  have Pa := Lib.hid pa
  have Pn := Lib.hid pn
  have Hbit := Lib.hid hbit
  clear pa pn hbit
  go_enter Tryz.func97, Tryz.ntmps97
  go_wp2_with fail
  refine (noughts_any la (by omega)).mono ?_
  rintro e w1 ⟨Aq, cq, rfl, G1, b1⟩
  go_wp2_with fail
  refine (noughts_any (ln + 1) (by omega)).mono ?_
  rintro e w2 ⟨Ar, cr, rfl, G2, b2⟩
  obtain ⟨g, rfl, hg, _⟩ := G2.at_ (k := 0) (by omega)
  obtain ⟨w3, e3⟩ : ∃ w3, w3 = w2.alloc (Obj.cells #[Value.slice (some ⟨g, 0, none⟩) (ln + 1) cr] 142) := ⟨_, rfl⟩
  go_wp2_with fail
  rw [← e3]
  have hbx : w3.heap[w2.heap.size]? = some (.cells #[Value.slice (some ⟨g, 0, none⟩) (ln + 1) cr] 142 (0, 0)) := e3 ▸ heap_alloc_new w2 _
  have b3 : Below w2.heap.size w2 w3 := e3 ▸ (Below.refl _ w2).alloc (Nat.le_refl _) _
  have hs3 : w2.heap.size < w3.heap.size := by rw [e3]; simp
  have hgl := G2.lt
  have hc3 : w3.cell? ⟨w2.heap.size, 0, none⟩ = some (Value.slice (some ⟨g, 0, none⟩) (ln + 1) cr) := by rw [cell_of_row w3 _ 0 _ 142 (0, 0) hbx]; rfl
  have R3 : Rw w3 w1.heap.size w2.heap.size g (ln + 1) cr (List.replicate (ln + 1) 0) :=
    ⟨G2.below b3 (Nat.le_refl _), hc3, fun y hy => by rw [(List.mem_replicate.1 hy).2]; omega, by omega, hs3⟩
  have HP : Pt w w1 w3 w2.heap.size g la cq ln cr A N (16 * la) Aq (List.replicate la 0) (List.replicate (ln + 1) 0) := by
    have hA0 : A / 2 ^ (16 * la) = 0 := by
      apply Nat.div_eq_of_lt
      have := Pa.out
      rw [show (65536 : Nat) ^ la = 2 ^ (16 * la) by rw [Nat.pow_mul]] at this
      exact this
    refine ⟨(G1.below b2 (Nat.le_refl _)).below b3 (Nat.le_refl _), fun g' e => (G1.block e).2, fun y hy => by rw [(List.mem_replicate.1 hy).2]; omega, R3, ?_, ?_, bthen (bthen b1 b2) b3, b1.size, by have := b2.size; omega, b2.size⟩
    · rw [val_replicate, hA0, Nat.zero_mod]
    · rw [val_replicate, hA0, Nat.zero_div, Nat.zero_mul]
  generalize w2.heap.size = p at *
  have HP' := Lib.hid HP
  clear HP R3 hc3 b3 hs3 e3 hbx G2 G1 b2 hg hgl
  go_loopw [8] (fun i wr => ∃ (k : Nat) (qs rs : List Nat), k ≤ 16 * la ∧ i = .int .i64 ((k : Int) - 1) ∧ Hid (Pt w w1 wr p g la cq ln cr A N k Aq qs rs)) (fun i _ => (intOf i + 1).toNat)
  case atStart => exact ⟨16 * la, _, _, Nat.le_refl _, by simp, HP'.out⟩
  case round =>
    clear HP'
    obtain ⟨k, qs, rs, hk, rfl, HQ⟩ := hrel
    by_cases h0 : k = 0
    · subst h0
      have HD := HQ.out
      have hvq := HD.vq
      have hvr := HD.vr
      rw [Nat.pow_zero, Nat.div_one] at hvq hvr
      rw [Nat.mul_one] at hvq
      have hq := HD.q.ni HD.ql
      have hr := HD.r.own.ni HD.r.lim
      have hcell := HD.r.cell
      have hcq := fun d => rcut_any (hq.drewN d)
      have hcr := fun d => rcut_any (hr.drewN d)
      have Hcq := Lib.hid hcq
      have Hcr := Lib.hid hcr
      have lq := tl_le qs la
      have kq := hq.cut
      have kr := hr.cut
      have l2 : tl rs (ln + 1) ≤ ln := by
        have e := kr.len
        rw [← e]
        exact length_of_val (β := 65536) (by omega) (trm_cutL rs) (by rw [val_cutL, hvr]; exact Nat.lt_trans (Nat.mod_lt _ hpos) Pn.out)
      have hbw := HD.b
      clear hcq hcr
      go_wp2_with fail
      go_quiet ((go_at_call 149; first | (with_reducible exact (Hcq.out _).mono fun _ _ ⟨he, hw⟩ => ⟨he, _, hw.symm⟩) | (with_reducible exact (Hcr.out _).mono fun _ _ ⟨he, hw⟩ => ⟨he, _, hw.symm⟩)))
      go_wp2
      go_ret2
      exact ⟨_, _, _, _, _, _, _, _, rfl, lq, l2, ⟨kq.drewN nq, trm_cutL _, by rw [val_cutL, hvq]⟩, ⟨kr.drewN nq, trm_cutL _, by rw [val_cutL, hvr]⟩, below_drewN hbw nq⟩
    · obtain ⟨t, rfl⟩ : ∃ t, k = t + 1 := ⟨k - 1, by omega⟩
      have ei : ((t + 1 : Nat) : Int) - 1 = (t : Int) := by omega
      rw [ei]
      have hrow := HQ.out.r
      have hs2 := HQ.out.s2
      obtain ⟨d1, d2, d3⟩ := div_next hpos rfl HQ.out.vr
      have hb2 : A / 2 ^ t % 2 ≤ 1 := by omega
      have hbt := Hbit.out wr ((ha.below HQ.out.b).more HQ.out.b.size) t (by omega)
      obtain ⟨b, hb⟩ : ∃ b, A / 2 ^ t % 2 = b := ⟨_, rfl⟩
      rw [hb] at d1 d2 d3 hb2 hbt
      have hfit : 2 * val 65536 rs + b < 65536 ^ (ln + 1) := by
        have := Pn.out
        rw [Nat.pow_succ]
        omega
      have D2 := Lib.hid d2
      have D3 := Lib.hid d3
      have hdb := double_any hrow (by omega) hb2 hfit
      have Hdb := Lib.hid hdb
      have Hbt := Lib.hid hbt
      clear d1 d2 d3 hfit hdb hbt
      go_wp2_with fail
      refine Hbt.out.mono ?_
      rintro e w4 ⟨rfl, rfl⟩
      go_wp2_with fail
      refine Hdb.out.mono ?_
      rintro e w5 ⟨rfl, ys, R5, v5, g5⟩
      go_wp2_with fail
      refine (drop_any R5 ((hn.below ((HQ.out.b.trans (below_of_only g5 (by have := hrow.own.lt; have := HQ.out.s1; omega) HQ.out.b.size)))).more HQ.out.s1) (Nat.le_trans HQ.out.s2 g5.size) (by omega) (by omega)).mono ?_
      rintro e w6 ⟨bb, zs, rfl, R6, g6, h6⟩
      have hgg := hrow.own.lt
      have q6 : Gi w6 w.heap.size Aq la cq qs := (HQ.out.q.grown g5 (fun g' e => by have := HQ.out.qb g' e; omega)).grown g6 (fun g' e => by have := HQ.out.qb g' e; omega)
      have b6 : Below w.heap.size w w6 := (HQ.out.b.trans (below_of_only g5 (by have := HQ.out.s1; omega) HQ.out.b.size)).trans (below_of_only g6 (by have := HQ.out.s1; omega) (Nat.le_trans HQ.out.b.size g5.size))
      have s6 := Nat.le_trans (Nat.le_trans hs2 g5.size) g6.size
      rw [hN] at h6
      rw [v5] at h6
      rcases h6 with ⟨rfl, hle, vz⟩ | ⟨rfl, hlt, rfl⟩
      · obtain ⟨m1, m2⟩ := D2.out hle
        have hql := q6.1
        have htq : t / 16 < qs.length := by omega
        obtain ⟨gq, rfl, hgq, cq6, fq6⟩ := q6.at_ (k := t / 16) (by omega)
        have hq0 : val 65536 qs % 2 ^ (t + 1) = 0 := by rw [HQ.out.vq]; exact Nat.mul_mod_left _ _
        obtain ⟨hb1, hb2'⟩ := set_bit HQ.out.ql htq hq0
        have hqn := HQ.out.qb gq rfl
        have hpb := HQ.out.pb
        have e16 : (t : Int).tdiv 16 = ((t / 16 : Nat) : Int) := by
          rw [Int.tdiv_eq_ediv_of_nonneg (by omega)]; exact (Int.natCast_ediv _ _).symm
        have r16 : (t : Int).tmod 16 = ((t % 16 : Nat) : Int) := by
          rw [Int.tmod_eq_emod_of_nonneg (by omega)]; exact (Int.natCast_emod _ _).symm
        have hp16 : t % 16 < 16 := by omega
        have HPt : Hid (Pt w w1 (w6.setCell ⟨gq, t / 16, none⟩ (.int .i64 ((qs.getD (t / 16) 0 + 2 ^ (t % 16) : Nat) : Int))) p g la cq ln cr A N t (some ⟨gq, 0, none⟩) (qs.set (t / 16) (qs.getD (t / 16) 0 + 2 ^ (t % 16))) zs) := by
          refine ⟨q6.set_ _ _, HQ.out.qb, ?_, R6.far (by omega) (by omega), ?_, ?_, b6.setCell (by simpa using hgq) _, HQ.out.s1, by rw [size_setCell]; exact s6, hpb⟩
          · intro x hx
            rcases List.mem_or_eq_of_mem_set hx with hx | hx
            · exact HQ.out.ql x hx
            · omega
          · rw [vz, m1]
          · rw [hb2', HQ.out.vq, m2, Nat.pow_succ, Nat.add_mul]
            generalize A / (2 ^ t * 2) / N = q
            have : q * (2 ^ t * 2) = 2 * q * 2 ^ t := by rw [Nat.mul_comm (2 ^ t) 2, ← Nat.mul_assoc, Nat.mul_comm q 2]
            omega
        generalize qs.getD (t / 16) 0 = x at *
        obtain ⟨tq, htqe⟩ : ∃ tq, t / 16 = tq := ⟨_, rfl⟩
        obtain ⟨tp, htpe⟩ : ∃ tp, t % 16 = tp := ⟨_, rfl⟩
        rw [htqe] at cq6 fq6 e16 HPt htq
        rw [htpe] at r16 hp16 HPt hb1
        clear htqe htpe m1 m2 hq0 hb2'
        rw [hql] at htq
        have hwr := wrap_bit hb1
        have Hwr := Lib.hid hwr
        clear hwr
        go_wp2_with fail
        rw [Hwr.out]
        go_roundw
        case rel => exact ⟨t, _, _, by omega, rfl, HPt⟩
        case measure => simp [intOf]
      · obtain ⟨m1, m2⟩ := D3.out (by omega)
        have HPt : Hid (Pt w w1 w6 p g la cq ln cr A N t Aq qs zs) :=
          ⟨q6, HQ.out.qb, HQ.out.ql, R6, by rw [v5, m1], by
            rw [HQ.out.vq, m2, Nat.pow_succ]
            generalize A / (2 ^ t * 2) / N = q
            rw [Nat.mul_comm (2 ^ t) 2, ← Nat.mul_assoc, Nat.mul_comm q 2], b6, HQ.out.s1, s6, HQ.out.pb⟩
        clear m1 m2
        go_wp2_with fail
        go_roundw
        case rel => exact ⟨t, qs, zs, by omega, rfl, HPt⟩
        case measure => simp [intOf]
end Go.Proofs.YtkhlmcknbangfaaGreatDoor
namespace Go.Proofs.YtkhlmcknbangfaaGreatDoor
open Go.RowKit
set_option linter.unusedVariables false
set_option maxRecDepth 100000

theorem drop_mod {w : World} {base p g n c an ac : Nat} {aA : Option Addr} {xs ns : List Nat} (h : Rw w base p g n c xs) (ha : Ni w base aA an ac ns) (hbs : base ≤ w.heap.size) (hn : n ≤ 1099511627776) (hle : an ≤ n) (h2 : val 65536 xs < 2 * val 65536 ns) :
    Calls Tryz.prog 153 #[.pointer (some ⟨p, 0, none⟩), .slice aA an ac] w fun e w' => ∃ b ys, e = .returned (.bool b) ∧ Rw w' base p g n c ys ∧ w.grownBy w' (some g) ∧ val 65536 ys = val 65536 xs % val 65536 ns :=
  (drop_any h ha hbs hn hle).mono fun e w' ⟨b, ys, he, hr, hg, h6⟩ => ⟨b, ys, he, hr, hg, by
    rcases h6 with ⟨_, h1, hv⟩ | ⟨_, h1, rfl⟩
    · rw [hv]
      have e : val 65536 xs = (val 65536 xs - val 65536 ns) + val 65536 ns := by omega
      conv => rhs; rw [e]
      rw [Nat.add_mod_right, Nat.mod_eq_of_lt (by omega)]
    · rw [Nat.mod_eq_of_lt h1]⟩

theorem fit_sum {x a N k : Nat} (h : x < N) (h2 : a < N) (h3 : N < 65536 ^ k) : x + a < 65536 ^ (k + 1) := by rw [Nat.pow_succ]; omega
theorem sum_two {x a N : Nat} (h : x < N) (h2 : a < N) : x + a < 2 * N := by omega
/-- what holds at the loop's head -/
structure Mt (w w1 wr : World) (p g ln cr rv : Nat) (rs : List Nat) : Prop where
  r : Rw wr w1.heap.size p g (ln + 1) cr rs
  vr : val 65536 rs = rv
  b : Below w.heap.size w wr
  s1 : w.heap.size ≤ w1.heap.size
  s2 : w1.heap.size ≤ wr.heap.size
theorem Mt.next {w w1 wr w' : World} {p g ln cr r r' : Nat} {rs ys : List Nat} (h : Mt w w1 wr p g ln cr r rs) (hr : Rw w' w1.heap.size p g (ln + 1) cr ys) (hg : wr.grownBy w' (some g)) (hv : val 65536 ys = r') : Mt w w1 w' p g ln cr r' ys :=
  ⟨hr, hv, h.b.trans (below_of_only hg (by have := h.r.own.lt; have := h.s1; omega) h.b.size), h.s1, Nat.le_trans h.s2 hg.size⟩
theorem Mt.arg {w w1 wr : World} {p g ln cr r n c : Nat} {A : Option Addr} {rs xs : List Nat} (h : Mt w w1 wr p g ln cr r rs) (ha : Ni w w.heap.size A n c xs) : Ni wr w1.heap.size A n c xs := (ha.below h.b).more h.s1

set_option maxHeartbeats 8000000 in
theorem times3_any {w : World} {aA bA nA : Option Addr} {la ca lb cb ln cn : Nat} {az bz ns : List Nat} (ha : Ni w w.heap.size aA la ca az) (hb : Ni w w.heap.size bA lb cb bz) (hn : Ni w w.heap.size nA ln cn ns)
    (hla : la ≤ ln) (hlb : lb ≤ 1099511) (hln : ln ≤ 1099511) (hlt : val 65536 az < val 65536 ns) :
    Calls Tryz.prog 100 #[.slice aA la ca, .slice bA lb cb, .slice nA ln cn] w fun e w' => ∃ A2 n2 c2 rs, e = .returned (.slice A2 n2 c2) ∧ n2 ≤ ln ∧ Dig w' A2 n2 c2 (val 65536 az * val 65536 bz % val 65536 ns) rs ∧ Below w.heap.size w w' := by
  have hra := ha.rooms
  have hrb := hb.rooms
  have hrn := hn.rooms
  have pb := val_lt hb.lim
  have pn := val_lt hn.lim
  rw [hb.len] at pb
  rw [hn.len] at pn
  have hbit := fun W (k : Ni W W.heap.size bA lb cb bz) (i : Nat) (hi : i ≤ 1099511627776) => rbit_any k i hi
  obtain ⟨a, hA⟩ : ∃ a, val 65536 az = a := ⟨_, rfl⟩
  obtain ⟨Bv, hB⟩ : ∃ Bv, val 65536 bz = Bv := ⟨_, rfl⟩
  obtain ⟨N, hN⟩ : ∃ N, val 65536 ns = N := ⟨_, rfl⟩
  rw [hA, hN] at hlt
  rw [hB] at pb hbit
  rw [hN] at pn
  rw [hA, hB, hN]
  have hpos : 0 < N := by omega
  have Pb := Lib.hid pb
  have Pn := Lib.hid pn
  have Hbit := Lib.hid hbit
  clear pb pn hbit
  go_enter Tryz.func100, Tryz.ntmps100
  go_wp2_with fail
  refine (noughts_any (ln + 1) (by omega)).mono ?_
  rintro e w2 ⟨Ar, cr, rfl, G2, b2⟩
  obtain ⟨g, rfl, hg, _⟩ := G2.at_ (k := 0) (by omega)
  obtain ⟨w3, e3⟩ : ∃ w3, w3 = w2.alloc (Obj.cells #[Value.slice (some ⟨g, 0, none⟩) (ln + 1) cr] 142) := ⟨_, rfl⟩
  go_wp2_with fail
  rw [← e3]
  have hbx : w3.heap[w2.heap.size]? = some (.cells #[Value.slice (some ⟨g, 0, none⟩) (ln + 1) cr] 142 (0, 0)) := e3 ▸ heap_alloc_new w2 _
  have b3 : Below w2.heap.size w2 w3 := e3 ▸ (Below.refl _ w2).alloc (Nat.le_refl _) _
  have hs3 : w2.heap.size < w3.heap.size := by rw [e3]; simp
  have hgl := G2.lt
  have hc3 : w3.cell? ⟨w2.heap.size, 0, none⟩ = some (Value.slice (some ⟨g, 0, none⟩) (ln + 1) cr) := by rw [cell_of_row w3 _ 0 _ 142 (0, 0) hbx]; rfl
  have HP : Mt w w w3 w2.heap.size g ln cr (a * (Bv / 2 ^ (16 * lb)) % N) (List.replicate (ln + 1) 0) := by
    have hB0 : Bv / 2 ^ (16 * lb) = 0 := by
      apply Nat.div_eq_of_lt
      have := Pb.out
      rw [show (65536 : Nat) ^ lb = 2 ^ (16 * lb) by rw [Nat.pow_mul]] at this
      exact this
    refine ⟨⟨G2.below b3 (Nat.le_refl _), hc3, fun y hy => by rw [(List.mem_replicate.1 hy).2]; omega, by omega, hs3⟩, ?_, bthen b2 b3, Nat.le_refl _, by have := b2.size; omega⟩
    rw [val_replicate, hB0, Nat.mul_zero, Nat.zero_mod]
  generalize w2.heap.size = p at *
  have HP' := Lib.hid HP
  clear HP hc3 b3 hs3 e3 hbx G2 b2 hg hgl
  go_loopw [8] (fun i wr => ∃ (k : Nat) (rs : List Nat), k ≤ 16 * lb ∧ i = .int .i64 ((k : Int) - 1) ∧ Hid (Mt w w wr p g ln cr (a * (Bv / 2 ^ k) % N) rs)) (fun i _ => (intOf i + 1).toNat)
  case atStart => exact ⟨16 * lb, _, Nat.le_refl _, by simp, HP'.out⟩
  case round =>
    clear HP'
    obtain ⟨k, rs, hk, rfl, HQ⟩ := hrel
    by_cases h0 : k = 0
    · subst h0
      have HD := HQ.out
      have hvr := HD.vr
      rw [Nat.pow_zero, Nat.div_one] at hvr
      have hr := HD.r.own.ni HD.r.lim
      have hcell := HD.r.cell
      have kr := hr.cut
      have hcr := rcut_any hr
      have l2 : tl rs (ln + 1) ≤ ln := by
        have e := kr.len
        rw [← e]
        exact length_of_val (β := 65536) (by omega) (trm_cutL rs) (by rw [val_cutL, hvr]; exact Nat.lt_trans (Nat.mod_lt _ hpos) Pn.out)
      have hbw := HD.b
      have Hcr := Lib.hid hcr
      clear hcr
      go_wp2_with fail
      refine Hcr.out.mono ?_
      rintro e w4 ⟨rfl, rfl⟩
      go_wp2_with fail
      go_ret
      exact ⟨_, _, _, _, rfl, l2, ⟨kr, trm_cutL _, by rw [val_cutL, hvr]⟩, hbw⟩
    · obtain ⟨t, rfl⟩ : ∃ t, k = t + 1 := ⟨k - 1, by omega⟩
      have ei : ((t + 1 : Nat) : Int) - 1 = (t : Int) := by omega
      rw [ei]
      have hfit : ∀ r, r < N → 2 * r < 65536 ^ (ln + 1) := fun r hr => by
        have := Pn.out
        rw [Nat.pow_succ]
        omega
      have hxb : Bv / 2 ^ t = 2 * (Bv / 2 ^ (t + 1)) + Bv / 2 ^ t % 2 := by
        rw [Nat.pow_succ, ← Nat.div_div_eq_div_mul]; omega
      have hm1 := Nat.mod_lt (a * (Bv / 2 ^ (t + 1))) hpos
      have Hfit := Lib.hid hfit
      clear hfit
      go_wp2_with fail
      refine (double_any HQ.out.r (by omega) (show 0 ≤ 1 by omega) (by rw [HQ.out.vr]; exact Hfit.out _ hm1)).mono ?_
      rintro e w4 ⟨rfl, ys, R4, v4, g4⟩
      have Q4 := HQ.out.next R4 g4 v4
      rw [HQ.out.vr, Nat.add_zero] at Q4
      go_wp2_with fail
      refine (drop_mod Q4.r (Q4.arg hn) Q4.s2 (by omega) (by omega) (by rw [Q4.vr, hN]; omega)).mono ?_
      rintro e w5 ⟨bb, zs, rfl, R5, g5, v5⟩
      rw [Q4.vr, hN] at v5
      have Q5 := Q4.next R5 g5 v5
      have e5 : 2 * (a * (Bv / 2 ^ (t + 1)) % N) % N = a * (2 * (Bv / 2 ^ (t + 1))) % N := by
        rw [Nat.mul_mod_mod, Nat.mul_left_comm]
      rw [e5] at Q5
      have hm5 := Nat.mod_lt (a * (2 * (Bv / 2 ^ (t + 1)))) hpos
      have Q5' := Lib.hid Q5
      go_wp2_with fail
      refine (Hbit.out _ ((hb.below Q5.b).more Q5.b.size) t (by omega)).mono ?_
      rintro e w6 ⟨rfl, rfl⟩
      rcases Nat.mod_two_eq_zero_or_one (Bv / 2 ^ t) with hbt | hbt
      · rw [hbt, Nat.add_zero] at hxb
        rw [← hxb] at Q5'
        rw [hbt]
        go_wp2_with fail
        go_roundw
        case rel => exact ⟨t, _, by omega, rfl, Q5'⟩
        case measure => simp [intOf]
      · rw [hbt] at hxb
        rw [hbt]
        go_wp2_with fail
        refine (gain_any Q5.r (Q5.arg ha) Q5.s2 (by omega) (by omega) (by rw [Q5.vr, hA]; exact fit_sum hm5 hlt Pn.out)).mono ?_
        rintro e w7 ⟨rfl, us, R7, v7, g7⟩
        rw [Q5.vr, hA] at v7
        have Q7 := Q5.next R7 g7 v7
        go_wp2_with fail
        refine (drop_mod Q7.r (Q7.arg hn) Q7.s2 (by omega) (by omega) (by rw [Q7.vr, hN]; exact sum_two hm5 hlt)).mono ?_
        rintro e w8 ⟨bb8, ts, rfl, R8, g8, v8⟩
        rw [Q7.vr, hN] at v8
        have Q8 := Q7.next R8 g8 v8
        have e8 : (a * (2 * (Bv / 2 ^ (t + 1))) % N + a) % N = a * (Bv / 2 ^ t) % N := by
          rw [hxb, Nat.mul_add, Nat.mul_one, Nat.mod_add_mod]
        rw [e8] at Q8
        have Q8' := Lib.hid Q8
        go_wp2_with fail
        go_roundw
        case rel => exact ⟨t, _, by omega, rfl, Q8'⟩
        case measure => simp [intOf]
end Go.Proofs.YtkhlmcknbangfaaGreatDoor
namespace Go.Proofs.YtkhlmcknbangfaaGreatDoor
open Go.RowKit
set_option linter.unusedVariables false
set_option maxRecDepth 100000

theorem Dig.up {w w' : World} {A : Option Addr} {n c v : Nat} {ds : List Nat} (h : Dig w A n c v ds) (hb : Below w.heap.size w w') : Dig w' A n c v ds := ⟨h.ni.up hb, h.trm, h.is⟩

set_option maxHeartbeats 8000000 in
theorem power3_any {w : World} {aA eA nA : Option Addr} {la ca le ce ln cn : Nat} {az ez ns : List Nat} (ha : Ni w w.heap.size aA la ca az) (he : Ni w w.heap.size eA le ce ez) (hn : Ni w w.heap.size nA ln cn ns)
    (hla : la ≤ ln) (hle : le ≤ 1099511) (hln : ln ≤ 1099511) (hlt : val 65536 az < val 65536 ns) :
    Calls Tryz.prog 124 #[.slice aA la ca, .slice eA le ce, .slice nA ln cn] w fun e w' => ∃ A2 n2 c2 rs, e = .returned (.slice A2 n2 c2) ∧ n2 ≤ ln ∧ Dig w' A2 n2 c2 (val 65536 az ^ val 65536 ez % val 65536 ns) rs ∧ Below w.heap.size w w' := by
  have hra := ha.rooms
  have hre := he.rooms
  have hrn := hn.rooms
  have pe := val_lt he.lim
  rw [he.len] at pe
  have hbit := fun W (k : Ni W W.heap.size eA le ce ez) (i : Nat) (hi : i ≤ 1099511627776) => rbit_any k i hi
  obtain ⟨a, hA⟩ : ∃ a, val 65536 az = a := ⟨_, rfl⟩
  obtain ⟨E, hE⟩ : ∃ E, val 65536 ez = E := ⟨_, rfl⟩
  obtain ⟨N, hN⟩ : ∃ N, val 65536 ns = N := ⟨_, rfl⟩
  rw [hA, hN] at hlt
  rw [hE] at pe hbit
  rw [hA, hE, hN]
  have hpos : 0 < N := by omega
  have Pe := Lib.hid pe
  have Hbit := Lib.hid hbit
  clear pe hbit
  obtain ⟨w1, e1⟩ : ∃ w1, w1 = w.alloc (Obj.cells #[Value.int .i64 1] 3) := ⟨_, rfl⟩
  have hb1 : Below w.heap.size w w1 := e1 ▸ (Below.refl _ w).alloc (Nat.le_refl _) _
  have hone : Ni w1 w1.heap.size (some ⟨w.heap.size, 0, none⟩) 1 1 [1] := by
    refine ⟨rfl, Nat.le_refl _, by unfold maxLen; omega, Lim.one (by omega), fun _ => ⟨w.heap.size, 0, rfl, by rw [e1]; simp, fun j x hj => ?_⟩⟩
    have : j = 0 ∧ x = 1 := by
      cases j with
      | zero => simpa using hj.symm
      | succ j => simp at hj
    obtain ⟨rfl, rfl⟩ := this
    rw [e1, Nat.add_zero, cell_of_row _ _ 0 #[Value.int .i64 1] 3 (0, 0) (heap_alloc_new w _)]
    rfl
  go_enter Tryz.func124, Tryz.ntmps124
  go_wp2_with fail
  rw [← e1]
  refine (parted_any hone (hn.up hb1) (by omega) hln (by rw [hN]; exact hpos)).mono ?_
  rintro e w2 ⟨A1, n1, c1, A2, n2, c2, qs, rs, rfl, l1, l2, D1, D2, b2⟩
  rw [hN, show val 65536 [1] = 1 from rfl] at D2
  have B2 := bthen hb1 b2
  clear e1 D1
  go_wp2_with fail
  go_loopw [8, 9] (fun u i wr => ∃ (k n2 c2 : Nat) (A2 : Option Addr) (rs : List Nat), k ≤ 16 * le ∧ i = .int .i64 ((k : Int) - 1) ∧ u = .slice A2 n2 c2 ∧ n2 ≤ ln ∧ Hid (Dig wr A2 n2 c2 (a ^ (E / 2 ^ k) % N) rs) ∧ Below w.heap.size w wr) (fun _ i _ => (intOf i + 1).toNat)
  case atStart =>
    have hE0 : E / 2 ^ (16 * le) = 0 := by
      apply Nat.div_eq_of_lt
      have := Pe.out
      rw [show (65536 : Nat) ^ le = 2 ^ (16 * le) by rw [Nat.pow_mul]] at this
      exact this
    exact ⟨16 * le, n2, c2, A2, rs, Nat.le_refl _, by simp, rfl, l2, by show Dig _ _ _ _ _ _; rw [hE0, Nat.pow_zero]; exact D2, B2⟩
  case round =>
    clear D2
    obtain ⟨k, n3, c3, A3, rs3, hk, rfl, rfl, l3, HD, B3⟩ := hrel
    by_cases h0 : k = 0
    · subst h0
      go_wp2_with fail
      go_ret
      have HD' := HD.out
      rw [Nat.pow_zero, Nat.div_one] at HD'
      exact ⟨_, _, _, _, rfl, l3, HD', B3⟩
    · obtain ⟨t, rfl⟩ : ∃ t, k = t + 1 := ⟨k - 1, by omega⟩
      have ei : ((t + 1 : Nat) : Int) - 1 = (t : Int) := by omega
      rw [ei]
      have hxb : E / 2 ^ t = 2 * (E / 2 ^ (t + 1)) + E / 2 ^ t % 2 := by
        rw [Nat.pow_succ, ← Nat.div_div_eq_div_mul]; omega
      have hD3 := HD.out
      have N3 := hD3.ni
      have v3 := hD3.is
      have hm := Nat.mod_lt (a ^ (E / 2 ^ (t + 1))) hpos
      go_wp2_with fail
      refine (times3_any N3 N3 (hn.up B3) l3 (by omega) hln (by rw [v3, hN]; exact hm)).mono ?_
      rintro e w4 ⟨A4, n4, c4, rs4, rfl, l4, D4, b4⟩
      rw [v3, hN, ← Nat.mul_mod, ← Nat.pow_add, ← Nat.two_mul] at D4
      have B4 := B3.trans (b4.mono B3.size)
      go_wp2_with fail
      refine (Hbit.out _ (he.up B4) t (by omega)).mono ?_
      rintro e w5 ⟨rfl, rfl⟩
      rcases Nat.mod_two_eq_zero_or_one (E / 2 ^ t) with hbt | hbt
      · rw [hbt, Nat.add_zero] at hxb
        rw [← hxb] at D4
        have HD4 := Lib.hid D4
        rw [hbt]
        go_wp2_with fail
        go_roundw
        case rel => exact ⟨t, n4, c4, A4, rs4, by omega, rfl, rfl, l4, HD4, B4⟩
        case measure => simp [intOf]
      · rw [hbt] at hxb
        rw [hbt]
        have v4 := D4.is
        have hm4 := Nat.mod_lt (a ^ (2 * (E / 2 ^ (t + 1)))) hpos
        go_wp2_with fail
        refine (times3_any D4.ni (ha.up B4) (hn.up B4) l4 (by omega) hln (by rw [v4, hN]; exact hm4)).mono ?_
        rintro e w6 ⟨A6, n6, c6, rs6, rfl, l6, D6, b6⟩
        rw [v4, hN, hA, Nat.mod_mul_mod, ← Nat.pow_succ, Nat.succ_eq_add_one, ← hxb] at D6
        have B6 := B4.trans (b6.mono B4.size)
        have HD6 := Lib.hid D6
        go_wp2_with fail
        go_roundw
        case rel => exact ⟨t, n6, c6, A6, rs6, by omega, rfl, rfl, l6, HD6, B6⟩
        case measure => simp [intOf]
end Go.Proofs.YtkhlmcknbangfaaGreatDoor
namespace Go.Proofs.YtkhlmcknbangfaaGreatDoor
open Go.RowKit
set_option linter.unusedVariables false
set_option maxRecDepth 100000

theorem trm_of_ge {xs : List Nat} (hL : Lim 18446744073709551616 xs) (h : 0 < xs.length → 18446744073709551616 ^ (xs.length - 1) ≤ val 18446744073709551616 xs) : Trm xs := by
  intro ys x e h0
  have hl : xs.length = ys.length + 1 := by rw [e]; simp
  have h1 := h (by omega)
  have h2 : Lim 18446744073709551616 ys := by rw [e] at hL; exact hL.left
  have h3 := val_lt h2
  rw [hl, e, val_snoc, h0, Nat.mul_zero, Nat.add_zero] at h1
  simp at h1
  omega
theorem pow_digit (q r : Nat) : 65536 ^ (4 * q + r) = 18446744073709551616 ^ q * 65536 ^ r := by
  rw [Nat.pow_add, Nat.pow_mul, show (65536 : Nat) ^ 4 = 18446744073709551616 by decide]
/-- one digit more -/
theorem digit_in {xs : List Nat} {q r d v : Nat} (hL : Lim 18446744073709551616 xs) (hr : r < 4) (hi : q < xs.length) (hv : val 18446744073709551616 xs = v) (hlt : v < 65536 ^ (4 * q + r)) (hd : d < 65536) :
    xs.getD q 0 + d * 65536 ^ r < 18446744073709551616 ∧ val 18446744073709551616 (xs.set q (xs.getD q 0 + d * 65536 ^ r)) = v + 65536 ^ (4 * q + r) * d := by
  have hlo : xs.getD q 0 < 65536 ^ r := by
    rw [limb_of (by omega) hL, hv]
    rw [pow_digit] at hlt
    have h1 : v / 18446744073709551616 ^ q < 65536 ^ r := by
      rw [Nat.div_lt_iff_lt_mul (Nat.pow_pos (by omega)), Nat.mul_comm]; exact hlt
    exact Nat.lt_of_le_of_lt (Nat.mod_le _ _) h1
  have hs : (d + 1) * 65536 ^ r ≤ 65536 * 65536 ^ 3 := Nat.mul_le_mul (by omega) (Nat.pow_le_pow_right (by omega) (by omega))
  rw [show (65536 : Nat) * 65536 ^ 3 = 18446744073709551616 by decide, Nat.add_mul] at hs
  refine ⟨by omega, ?_⟩
  have := val_set 18446744073709551616 xs q (xs.getD q 0 + d * 65536 ^ r) hi
  rw [Nat.mul_add, hv] at this
  have e : 18446744073709551616 ^ q * (d * 65536 ^ r) = 65536 ^ (4 * q + r) * d := by rw [pow_digit]; ac_rfl
  omega
theorem number_next {w w3 : World} {j m q r P n3 c3 x d g : Nat} {es xs1 : List Nat} (hlt : j < m) (hj : j = 4 * q + r) (hr : r < 4) (hP : 65536 ^ r = P) (hG : Gu w3 w.heap.size (some ⟨g, 0, none⟩) n3 c3 xs1) (hg : w.heap.size ≤ g) (hn3 : n3 = q + 1) (hL : Lim 18446744073709551616 xs1) (hB : Below w.heap.size w w3)
    (hV : val 18446744073709551616 xs1 = val 65536 (es.take j)) (hvj : val 65536 (es.take j) < 65536 ^ j) (hd : es.getD j 0 = d) (hdl : d < 65536) (hx : xs1.getD q 0 = x) {z : Int} (hz : z = ((x + d * P : Nat) : Int)) :
    ∃ (j' : Nat) (A' : Option Addr) (n' c' : Nat) (xs : List Nat), j' ≤ m ∧ Value.int .i64 ((j : Int) + 1) = .int .i64 j' ∧ Value.slice (some ⟨g, 0, none⟩) n3 c3 = .slice A' n' c' ∧ Hid (n' = (j' + 3) / 4) ∧ Gu (w3.setCell ⟨g, q, none⟩ (.int .u64 z)).drew w.heap.size A' n' c' xs ∧ Lim 18446744073709551616 xs ∧
      Below w.heap.size w (w3.setCell ⟨g, q, none⟩ (.int .u64 z)).drew ∧ Hid (val 18446744073709551616 xs = val 65536 (es.take j')) := by
  subst hz
  have hi := digit_in hL hr (show q < xs1.length by rw [hG.1]; omega) hV (by rw [← hj]; exact hvj) hdl
  rw [hP, hx, ← hj] at hi
  refine ⟨j + 1, _, n3, c3, xs1.set q (x + d * P), hlt, by simp, rfl, by show _ = _; omega, hG.set_ q _, ?_, below_drewN (hB.setCell (by exact hg) _) 1, ?_⟩
  · intro y hy
    rcases List.mem_or_eq_of_mem_set hy with hy | hy
    · exact hL y hy
    · omega
  · show _ = _
    rw [hi.2, val_take_succ, hd]

set_option maxHeartbeats 1600000 in
theorem number3_any {w : World} {A : Option Addr} {n c : Nat} {ds : List Nat} (h : Ni w w.heap.size A n c ds) (hn : n ≤ 1099511627776) : Calls Tryz.prog 101 #[.slice A n c] w (RetS (val 65536 ds) w) := by
  rw [← val_cutL 65536 ds]
  have ht := trm_cutL ds
  have hcut := rcut_any h
  have hN := h.cut
  have hmn := tl_le ds n
  obtain ⟨m, hm⟩ : ∃ m, tl ds n = m := ⟨_, rfl⟩
  rw [hm] at hcut hN hmn
  have Hcut := Lib.hid hcut
  clear hcut hm
  generalize cutL ds = es at *
  have hr := hN.rooms
  have Hlen := Lib.hid hN.len
  have Ht := Lib.hid ht
  clear ht
  go_enter Tryz.func101, Tryz.ntmps101
  go_wp2_with fail
  refine Hcut.out.mono ?_
  rintro e w' ⟨rfl, rfl⟩
  go_wp2_with fail
  go_loopw [3, 4] (fun v i wr => ∃ (j : Nat) (A' : Option Addr) (n' c' : Nat) (xs : List Nat), j ≤ m ∧ i = .int .i64 j ∧ v = .slice A' n' c' ∧ Hid (n' = (j + 3) / 4) ∧ Gu wr w.heap.size A' n' c' xs ∧ Lim 18446744073709551616 xs ∧ Below w.heap.size w wr ∧ Hid (val 18446744073709551616 xs = val 65536 (es.take j))) (fun _ i _ => m - (intOf i).toNat)
  case atStart => exact ⟨0, none, 0, 0, [], Nat.zero_le _, rfl, rfl, rfl, Gu.nil _ _, Lim.nil _, Below.refl _ _, by simp [Hid, val]⟩
  case round =>
    obtain ⟨j, A', n', c', xs, hj, rfl, rfl, hn', hG, hL, hB, hV⟩ := hrel
    by_cases hlt : j < m
    · obtain ⟨b, off, rfl, hb, hcellw⟩ := hN.at_ hlt
      have hd2 := hN.lim.get (by omega) j
      have hjl : j < es.length := by rw [Hlen.out]; exact hlt
      have hvj : val 65536 (es.take j) < 65536 ^ j := by
        have := val_lt (hN.lim.take j)
        rwa [List.length_take, Nat.min_eq_left (by omega)] at this
      obtain ⟨d, hd⟩ : ∃ d, es.getD j 0 = d := ⟨_, rfl⟩
      rw [hd] at hcellw hd2
      have hcell := (hB.cell (p := ⟨b, off + j, none⟩) hb).trans hcellw
      have Hd := Lib.hid hd
      have hs := hB.size
      have hn'b : n' ≤ 1099511627776 := by have := hn'.out; omega
      obtain ⟨r, hr⟩ : ∃ r, j % 4 = r := ⟨_, rfl⟩
      obtain ⟨q, hq⟩ : ∃ q, j / 4 = q := ⟨_, rfl⟩
      have em : (j : Int) % 4 = (r : Int) := by omega
      have ed : (j : Int) / 4 = (q : Int) := by omega
      have em2 : (j : Int).tmod 4 = (r : Int) := by rw [Int.tmod_eq_emod_of_nonneg (by omega)]; exact em
      have ed2 : (j : Int).tdiv 4 = (q : Int) := by rw [Int.tdiv_eq_ediv_of_nonneg (by omega)]; exact ed
      have hr4 : r < 4 := by omega
      have hjq : j = 4 * q + r := by omega
      have Hjq := Lib.hid hjq
      have Hvj := Lib.hid hvj
      clear hd hr hq hjl hvj hjq
      have hroom : ∀ ys : List Nat, Lim 18446744073709551616 ys → ys.length = q + 1 → val 18446744073709551616 ys = val 65536 (es.take j) → ys.getD q 0 + d * 65536 ^ r < 18446744073709551616 := fun ys h1 h2 h3 =>
        (digit_in h1 hr4 (show q < ys.length by omega) h3 (by rw [← Hjq.out]; exact Hvj.out) hd2).1
      have Hroom := Lib.hid hroom
      clear hroom
      rcases Nat.eq_zero_or_pos r with hp0 | hp0
      · subst hp0
        have hn3 : n' + 1 = q + 1 := by have := hn'.out; have := Hjq.out; omega
        have Hn3 := Lib.hid hn3
        have hL1 : Lim 18446744073709551616 (xs ++ [0]) := hL.append (Lim.one (by omega))
        have HV1 : Hid (val 18446744073709551616 (xs ++ [0]) = val 65536 (es.take j)) := by show _ = _; rw [val_snoc, hV.out]; simp
        have hqn : q < n' + 1 := by omega
        clear hn3
        go_wp2_with (refine wpList_app_u _ rfl _ _ rfl rfl (hG.alloc _) rfl (cell_new _ _ _) hn'b (hB.alloc hs _) (by simp; omega) ?_; intro A3 c3 w3 hG3 hB3; have hcell3 := (hB3.cell (p := ⟨b, off + j, none⟩) hb).trans hcellw; obtain ⟨g, rfl, hg, hc3, hf3⟩ := hG3.at_ hqn; have hx3 := Hroom.out _ hL1 (by rw [hG3.1]; exact Hn3.out) HV1.out; obtain ⟨x, hx⟩ : ∃ x, (xs ++ [0]).getD q 0 = x := ⟨_, rfl⟩; rw [hx] at hc3 hx3; have Hx := Lib.hid hx; clear hx)
        go_region
        go_wp2_with fail
        go_roundw
        case rel => exact number_next hlt Hjq.out (by omega) rfl hG3 hg Hn3.out hL1 hB3 HV1.out Hvj.out Hd.out hd2 Hx.out (by simp)
        case measure => simp [intOf]; omega
      · have hn3 : n' = q + 1 := by have := hn'.out; have := Hjq.out; omega
        have Hn3 := Lib.hid hn3
        have hqn : q < n' := by omega
        obtain ⟨g, rfl, hg, hc3, hf3⟩ := hG.at_ hqn
        have hx3 := Hroom.out _ hL (by rw [hG.1]; exact hn3) hV.out
        obtain ⟨x, hx⟩ : ∃ x, xs.getD q 0 = x := ⟨_, rfl⟩
        rw [hx] at hc3 hx3
        have Hx := Lib.hid hx
        clear hx hn3
        rcases (show r = 1 ∨ r = 2 ∨ r = 3 by omega) with rfl | rfl | rfl
        · simp only [Nat.reducePow] at hx3
          go_wp2_with fail
          go_region
          go_wp2_with fail
          go_roundw
          case rel => exact number_next hlt Hjq.out (by omega) rfl hG hg Hn3.out hL hB hV.out Hvj.out Hd.out hd2 Hx.out (by simp)
          case measure => simp [intOf]; omega
        · simp only [Nat.reducePow] at hx3
          go_wp2_with fail
          go_region
          go_wp2_with fail
          go_roundw
          case rel => exact number_next hlt Hjq.out (by omega) rfl hG hg Hn3.out hL hB hV.out Hvj.out Hd.out hd2 Hx.out (by simp)
          case measure => simp [intOf]; omega
        · simp only [Nat.reducePow] at hx3
          go_wp2_with fail
          go_region
          go_wp2_with fail
          go_roundw
          case rel => exact number_next hlt Hjq.out (by omega) rfl hG hg Hn3.out hL hB hV.out Hvj.out Hd.out hd2 Hx.out (by simp)
          case measure => simp [intOf]; omega
    · have hjm : j = m := by omega
      have hv := hV.out
      rw [hjm, List.take_of_length_le (by rw [Hlen.out]; exact Nat.le_refl _)] at hv
      have Hv := Lib.hid hv
      have hlx : xs.length = (m + 3) / 4 := by rw [hG.1, ← hjm]; exact hn'.out
      have Hlx := Lib.hid hlx
      clear hv hjm hlx
      go_wp2_with fail
      go_ret
      refine ⟨_, _, _, xs, rfl, hG.nt hL, trm_of_ge hL fun h0 => ?_, Hv.out, hB⟩
      have hm0 : 0 < es.length := by have := Hlx.out; have := Hlen.out; omega
      have h1 := val_ge (β := 65536) Ht.out hm0
      rw [Hv.out]
      refine Nat.le_trans ?_ h1
      rw [show (18446744073709551616 : Nat) = 65536 ^ 4 by decide, ← Nat.pow_mul]
      exact Nat.pow_le_pow_right (by omega) (by have := Hlx.out; have := Hlen.out; omega)
end Go.Proofs.YtkhlmcknbangfaaGreatDoor
namespace Go.Proofs.YtkhlmcknbangfaaGreatDoor
open Go.RowKit
set_option linter.unusedVariables false
set_option maxRecDepth 100000

theorem Dig.pos {w : World} {A : Option Addr} {n c v : Nat} {ds : List Nat} (h : Dig w A n c v ds) (hv : 0 < v) : 0 < n := by
  rcases Nat.eq_zero_or_pos n with h0 | h0
  · exfalso
    have hl := h.ni.len
    have : ds = [] := List.length_eq_zero_iff.1 (by omega)
    have hi := h.is
    rw [this] at hi
    simp [val] at hi
    omega
  · exact h0
theorem Dig.nil {w : World} {A : Option Addr} {n c v : Nat} {ds : List Nat} (h : Dig w A n c v ds) (hv : v = 0) : n = 0 := by
  have hl := h.ni.len
  have := length_of_val (β := 65536) (by omega) h.trm (k := 0) (by rw [h.is, hv]; decide)
  omega
theorem Dig.lt {w : World} {A : Option Addr} {n c v : Nat} {ds : List Nat} (h : Dig w A n c v ds) : v < 65536 ^ n := by
  have := val_lt h.ni.lim
  rwa [h.ni.len, h.is] at this
/-- a smaller number has not more digits -/
theorem Dig.le {w w' : World} {A A' : Option Addr} {n c v n' c' v' : Nat} {ds ds' : List Nat} (h : Dig w A n c v ds) (h' : Dig w' A' n' c' v' ds') (hv : v ≤ v') : n ≤ n' := by
  have := length_of_val (β := 65536) (by omega) h.trm (k := n') (by rw [h.is]; exact Nat.lt_of_le_of_lt hv h'.lt)
  rwa [h.ni.len] at this
theorem Dig.rooms {w : World} {A : Option Addr} {n c v : Nat} {ds : List Nat} (h : Dig w A n c v ds) : n ≤ 9223372036854775807 ∧ c ≤ 9223372036854775807 := h.ni.rooms
theorem dig_of {w : World} {A : Option Addr} {n c v : Nat} {xs : List Nat} (h : Nt w w.heap.size A n c xs) (hv : val 18446744073709551616 xs = v) (hn : n ≤ 1099511627) :
    Calls Tryz.prog 95 #[.slice A n c] w fun e w' => ∃ A' m c' ds, e = .returned (.slice A' m c') ∧ m ≤ 4 * n ∧ Dig w' A' m c' v ds ∧ Below w.heap.size w w' :=
  (digits_any h hn).mono fun e w' ⟨A', m, c', he, hm, hN, hb⟩ => ⟨A', m, c', _, he, hm, ⟨hN, trm_cutL _, by rw [val_cutL, val_dgs h.lim, hv]⟩, hb⟩
theorem number_dig {w : World} {A : Option Addr} {n c v : Nat} {ds : List Nat} (h : Dig w A n c v ds) (hn : n ≤ 1099511627776) : Calls Tryz.prog 101 #[.slice A n c] w (RetS v w) :=
  h.is ▸ number3_any h.ni hn
theorem parted_dig {w : World} {aA nA : Option Addr} {la ca ln cn a N : Nat} {az ns : List Nat} (ha : Dig w aA la ca a az) (hn : Dig w nA ln cn N ns) (hla : la ≤ 1099511) (hln : ln ≤ 1099511) (hpos : 0 < N) :
    Calls Tryz.prog 97 #[.slice aA la ca, .slice nA ln cn] w fun e w' => ∃ A1 n1 c1 A2 n2 c2 qs rs, e = .returned (.tuple #[.slice A1 n1 c1, .slice A2 n2 c2]) ∧ n1 ≤ la ∧ n2 ≤ ln ∧
      Dig w' A1 n1 c1 (a / N) qs ∧ Dig w' A2 n2 c2 (a % N) rs ∧ Below w.heap.size w w' := by
  have h := parted_any ha.ni hn.ni hla hln (by rw [hn.is]; exact hpos)
  rwa [ha.is, hn.is] at h
theorem times_dig {w : World} {aA bA nA : Option Addr} {la ca lb cb ln cn a b N : Nat} {az bz ns : List Nat} (ha : Dig w aA la ca a az) (hb : Dig w bA lb cb b bz) (hn : Dig w nA ln cn N ns) (hlb : lb ≤ 1099511) (hln : ln ≤ 1099511) (hlt : a < N) :
    Calls Tryz.prog 100 #[.slice aA la ca, .slice bA lb cb, .slice nA ln cn] w fun e w' => ∃ A2 n2 c2 rs, e = .returned (.slice A2 n2 c2) ∧ n2 ≤ ln ∧ Dig w' A2 n2 c2 (a * b % N) rs ∧ Below w.heap.size w w' := by
  have h := times3_any ha.ni hb.ni hn.ni (ha.le hn (by omega)) hlb hln (by rw [ha.is, hn.is]; exact hlt)
  rwa [ha.is, hb.is, hn.is] at h
theorem power_dig {w : World} {aA bA nA : Option Addr} {la ca lb cb ln cn a b N : Nat} {az bz ns : List Nat} (ha : Dig w aA la ca a az) (hb : Dig w bA lb cb b bz) (hn : Dig w nA ln cn N ns) (hlb : lb ≤ 1099511) (hln : ln ≤ 1099511) (hlt : a < N) :
    Calls Tryz.prog 124 #[.slice aA la ca, .slice bA lb cb, .slice nA ln cn] w fun e w' => ∃ A2 n2 c2 rs, e = .returned (.slice A2 n2 c2) ∧ n2 ≤ ln ∧ Dig w' A2 n2 c2 (a ^ b % N) rs ∧ Below w.heap.size w w' := by
  have h := power3_any ha.ni hb.ni hn.ni (ha.le hn (by omega)) hlb hln (by rw [ha.is, hn.is]; exact hlt)
  rwa [ha.is, hb.is, hn.is] at h

set_option maxHeartbeats 4000000 in
theorem rmod_pos {w : World} {A A2 : Option Addr} {n c n2 c2 : Nat} {xs ys : List Nat} (h : Nt w w.heap.size A n c xs) (h2 : Nt w w.heap.size A2 n2 c2 ys) (hn : n ≤ 100000) (hn2 : n2 ≤ 100000) (hb : 0 < val 18446744073709551616 ys) :
    Calls Tryz.prog 68 #[.slice A n c, .slice A2 n2 c2] w (RetT (val 18446744073709551616 xs % val 18446744073709551616 ys) w) := by
  obtain ⟨a, ha⟩ : ∃ a, val 18446744073709551616 xs = a := ⟨_, rfl⟩
  obtain ⟨N, hN⟩ : ∃ N, val 18446744073709551616 ys = N := ⟨_, rfl⟩
  rw [hN] at hb
  rw [ha, hN]
  have hr := h.rooms
  have hr2 := h2.rooms
  go_enter Tryz.func68, Tryz.ntmps68
  go_wp2_with fail
  refine (dig_of h2 hN (by omega)).mono ?_
  rintro e w1 ⟨A1, m1, c1, ds1, rfl, l1, D1, b1⟩
  have hm0 := D1.pos hb
  have hr3 := D1.rooms
  have hmz : ((m1 : Int) == 0) = false := by simp; omega
  go_wp2_with fail
  refine (dig_of (h.up b1) ha (by omega)).mono ?_
  rintro e w2 ⟨A3, m3, c3, ds3, rfl, l3, D3, b2⟩
  go_wp2_with fail
  refine (parted_dig D3 (D1.up b2) (by omega) (by omega) hb).mono ?_
  rintro e w3 ⟨A4, m4, c4, A5, m5, c5, qs, rs, rfl, l4, l5, D4, D5, b3⟩
  have B3 := bthen (bthen b1 b2) b3
  go_wp2_with fail
  refine (number_dig D5 (by omega)).mono ?_
  rintro e w4 ⟨A6, m6, c6, zs, rfl, r6⟩
  go_wp2_with fail
  go_ret2
  exact ⟨_, _, _, _, rfl, ⟨r6.nt, r6.trm, r6.is, bthen B3 r6.bel⟩⟩
set_option maxHeartbeats 4000000 in
theorem rmod_nil {w : World} {A A2 : Option Addr} {n c n2 c2 : Nat} {xs ys : List Nat} (h : Nt w w.heap.size A n c xs) (h2 : Nt w w.heap.size A2 n2 c2 ys) (hn2 : n2 ≤ 100000) (hb : val 18446744073709551616 ys = 0) :
    Calls Tryz.prog 68 #[.slice A n c, .slice A2 n2 c2] w (RetBad 11 w) := by
  have hr := h.rooms
  have hr2 := h2.rooms
  go_enter Tryz.func68, Tryz.ntmps68
  go_wp2_with fail
  refine (dig_of h2 hb (by omega)).mono ?_
  rintro e w1 ⟨A1, m1, c1, ds1, rfl, l1, D1, b1⟩
  have hm0 := D1.nil rfl
  subst hm0
  go_wp2_with fail
  go_ret2
  exact ⟨rfl, b1⟩


set_option maxHeartbeats 4000000 in
theorem rpow_pos {w : World} {A A2 A3 : Option Addr} {n c n2 c2 n3 c3 : Nat} {xs ys zs : List Nat} (h : Nt w w.heap.size A n c xs) (h2 : Nt w w.heap.size A2 n2 c2 ys) (h3 : Nt w w.heap.size A3 n3 c3 zs) (hn : n ≤ 100000) (hn2 : n2 ≤ 100000) (hn3 : n3 ≤ 100000) (hb : 0 < val 18446744073709551616 zs) :
    Calls Tryz.prog 69 #[.slice A n c, .slice A2 n2 c2, .slice A3 n3 c3] w (RetT (val 18446744073709551616 xs ^ val 18446744073709551616 ys % val 18446744073709551616 zs) w) := by
  obtain ⟨a, ha⟩ : ∃ a, val 18446744073709551616 xs = a := ⟨_, rfl⟩
  obtain ⟨b, hbb⟩ : ∃ a, val 18446744073709551616 ys = a := ⟨_, rfl⟩
  obtain ⟨N, hN⟩ : ∃ N, val 18446744073709551616 zs = N := ⟨_, rfl⟩
  rw [hN] at hb
  rw [ha, hN, hbb]
  have hr := h.rooms
  have hr2 := h2.rooms
  have hr3 := h3.rooms
  have hmm := (Nat.pow_mod a b N).symm
  have Hmm := Lib.hid hmm
  clear hmm
  have hmlt := Nat.mod_lt a hb
  go_enter Tryz.func69, Tryz.ntmps69
  go_wp2_with fail
  refine (dig_of h3 hN (by omega)).mono ?_
  rintro e w1 ⟨A1, m1, c1, ds1, rfl, l1, D1, b1⟩
  have hm0 := D1.pos hb
  have hr3 := D1.rooms
  have hmz : ((m1 : Int) == 0) = false := by simp; omega
  go_wp2_with fail
  refine (dig_of (h.up b1) ha (by omega)).mono ?_
  rintro e w2 ⟨A3, m3, c3, ds3, rfl, l3, D3, b2⟩
  have B2 := bthen b1 b2
  go_wp2_with fail
  refine (parted_dig D3 (D1.up b2) (by omega) (by omega) hb).mono ?_
  rintro e w3 ⟨A4, m4, c4, A5, m5, c5, qs, rs, rfl, l4, l5, D4, D5, b3⟩
  have B3 := bthen B2 b3
  go_wp2_with fail
  refine (dig_of (h2.up B3) hbb (by omega)).mono ?_
  rintro e w4 ⟨A6, m6, c6, ds6, rfl, l6, D6, b4⟩
  have B4 := bthen B3 b4
  go_wp2_with fail
  refine (power_dig (D5.up b4) D6 ((D1.up b2).up (bthen b3 b4)) (by omega) (by omega) hmlt).mono ?_
  rintro e w5 ⟨A7, m7, c7, ds7, rfl, l7, D7, b5⟩
  rw [Hmm.out] at D7
  have B5 := bthen B4 b5
  go_wp2_with fail
  refine (number_dig D7 (by omega)).mono ?_
  rintro e w6 ⟨A8, m8, c8, us, rfl, r8⟩
  go_wp2_with fail
  go_ret2
  exact ⟨_, _, _, _, rfl, ⟨r8.nt, r8.trm, r8.is, bthen B5 r8.bel⟩⟩
set_option maxHeartbeats 4000000 in
theorem rpow_nil {w : World} {A A2 A3 : Option Addr} {n c n2 c2 n3 c3 : Nat} {xs ys zs : List Nat} (h : Nt w w.heap.size A n c xs) (h2 : Nt w w.heap.size A2 n2 c2 ys) (h3 : Nt w w.heap.size A3 n3 c3 zs) (hn3 : n3 ≤ 100000) (hb : val 18446744073709551616 zs = 0) :
    Calls Tryz.prog 69 #[.slice A n c, .slice A2 n2 c2, .slice A3 n3 c3] w (RetBad 11 w) := by
  have hr := h.rooms
  have hr2 := h2.rooms
  have hr3 := h3.rooms
  go_enter Tryz.func69, Tryz.ntmps69
  go_wp2_with fail
  refine (dig_of h3 hb (by omega)).mono ?_
  rintro e w1 ⟨A1, m1, c1, ds1, rfl, l1, D1, b1⟩
  have hm0 := D1.nil rfl
  subst hm0
  go_wp2_with fail
  go_ret2
  exact ⟨rfl, b1⟩

set_option maxHeartbeats 4000000 in
theorem rgcd_any : ∀ (b : Nat) {w : World} {aA bA : Option Addr} {la ca lb cb a : Nat} {az bz : List Nat} (ha : Dig w aA la ca a az) (hb : Dig w bA lb cb b bz) (hla : la ≤ 1099511) (hlb : lb ≤ 1099511),
    Calls Tryz.prog 157 #[.slice aA la ca, .slice bA lb cb] w fun e w' => ∃ A n c ds, e = .returned (.slice A n c) ∧ n ≤ 1099511 ∧ Dig w' A n c (Nat.gcd a b) ds ∧ Below w.heap.size w w' := by
  intro b
  induction b using Nat.strongRecOn with
  | ind b ih =>
    intro w aA bA la ca lb cb a az bz ha hb hla hlb
    have hr := ha.rooms
    have hr2 := hb.rooms
    have Ih := Lib.hid ih
    clear ih
    rcases Nat.eq_zero_or_pos b with h0 | h0
    · have hn := hb.nil h0
      subst hn
      subst h0
      go_enter Tryz.func157, Tryz.ntmps157
      go_wp2_with fail
      go_ret
      exact ⟨_, _, _, _, rfl, hla, by rw [Nat.gcd_zero_right]; exact ha, Below.refl _ _⟩
    · have hn := hb.pos h0
      have hmz : ((lb : Int) == 0) = false := by simp; omega
      have hg : Nat.gcd b (a % b) = Nat.gcd a b := by rw [Nat.gcd_comm a b, Nat.gcd_rec b a, Nat.gcd_comm]
      have Hg := Lib.hid hg
      clear hg
      go_enter Tryz.func157, Tryz.ntmps157
      go_wp2_with fail
      refine (parted_dig ha hb hla hlb h0).mono ?_
      rintro e w3 ⟨A4, m4, c4, A5, m5, c5, qs, rs, rfl, l4, l5, D4, D5, b3⟩
      go_wp2_with fail
      refine (Ih.out (a % b) (Nat.mod_lt _ h0) (hb.up b3) D5 hlb (by omega)).mono ?_
      rintro e w4 ⟨A6, m6, c6, ds, rfl, l6, D6, b4⟩
      rw [Hg.out] at D6
      go_wp2_with fail
      go_ret
      exact ⟨_, _, _, _, rfl, l6, D6, bthen b3 b4⟩
set_option maxHeartbeats 4000000 in
theorem rGcd_any {w : World} {A A2 : Option Addr} {n c n2 c2 : Nat} {xs ys : List Nat} (h : Nt w w.heap.size A n c xs) (h2 : Nt w w.heap.size A2 n2 c2 ys) (hn : n ≤ 100000) (hn2 : n2 ≤ 100000) :
    Calls Tryz.prog 111 #[.slice A n c, .slice A2 n2 c2] w (RetS (Nat.gcd (val 18446744073709551616 xs) (val 18446744073709551616 ys)) w) := by
  obtain ⟨a, ha⟩ : ∃ a, val 18446744073709551616 xs = a := ⟨_, rfl⟩
  obtain ⟨N, hN⟩ : ∃ N, val 18446744073709551616 ys = N := ⟨_, rfl⟩
  rw [ha, hN]
  have hr := h.rooms
  have hr2 := h2.rooms
  go_enter Tryz.func111, Tryz.ntmps111
  go_wp2_with fail
  refine (dig_of h ha (by omega)).mono ?_
  rintro e w1 ⟨A1, m1, c1, ds1, rfl, l1, D1, b1⟩
  go_wp2_with fail
  refine (dig_of (h2.up b1) hN (by omega)).mono ?_
  rintro e w2 ⟨A3, m3, c3, ds3, rfl, l3, D3, b2⟩
  go_wp2_with fail
  refine (rgcd_any N (D1.up b2) D3 (by omega) (by omega)).mono ?_
  rintro e w3 ⟨A4, m4, c4, ds4, rfl, l4, D4, b3⟩
  have B3 := bthen (bthen b1 b2) b3
  go_wp2_with fail
  refine (number_dig D4 (by omega)).mono ?_
  rintro e w4 ⟨A6, m6, c6, zs, rfl, r6⟩
  go_wp2_with fail
  go_ret
  exact ⟨_, _, _, _, rfl, ⟨r6.nt, r6.trm, r6.is, bthen B3 r6.bel⟩⟩
end Go.Proofs.YtkhlmcknbangfaaGreatDoor
namespace Go.Proofs.YtkhlmcknbangfaaGreatDoor
open Go.RowKit
set_option linter.unusedVariables false
set_option maxRecDepth 100000

theorem carry_step {β V k x y c A B : Nat} (h : V + c * β ^ k = A + B) : V + β ^ k * ((x + y + c) % β) + (x + y + c) / β * β ^ (k + 1) = A + β ^ k * x + (B + β ^ k * y) := by
  have e := Nat.div_add_mod (x + y + c) β
  have e2 := congrArg (fun t => β ^ k * t) e
  simp only [Nat.mul_add] at e2
  have e3 : (x + y + c) / β * β ^ (k + 1) = β ^ k * (β * ((x + y + c) / β)) := by rw [Nat.pow_succ]; ac_rfl
  rw [e3]
  have e4 : β ^ k * c = c * β ^ k := Nat.mul_comm _ _
  omega
theorem cell_new' (w : World) {u v : Int} (h : u = v) : (w.alloc (.cells #[.int .i64 u] 3)).cell? ⟨w.heap.size, 0, none⟩ = some (.int .i64 v) := by
  subst h; exact cell_new w _ _
/-- behind the digits ahead of k: what is told, and what is carried -/
structure Ps (w wr : World) (A : Option Addr) (k cp cv : Nat) (az bz done : List Nat) : Prop where
  own : Gi wr w.heap.size A k cp done
  lim : Lim 65536 done
  v : val 65536 done + cv * 65536 ^ k = val 65536 (az.take k) + val 65536 (bz.take k)
  b : Below w.heap.size w wr
theorem Ps.drewN {w wr : World} {A : Option Addr} {k cp cv : Nat} {az bz done : List Nat} (h : Ps w wr A k cp cv az bz done) (d : Nat) : Ps w (wr.drewN d) A k cp cv az bz done := ⟨h.own, h.lim, h.v, below_drewN h.b d⟩
theorem Ps.step {w wr w3 : World} {A A3 : Option Addr} {k cp c3 cv x y : Nat} {az bz done : List Nat} (h : Ps w wr A k cp cv az bz done) (hx : az.getD k 0 = x) (hy : bz.getD k 0 = y) (hG : Gi w3 w.heap.size A3 (k + 1) c3 (done ++ [(x + y + cv) % 65536])) (hB : Below w.heap.size w w3) :
    Ps w w3 A3 (k + 1) c3 ((x + y + cv) / 65536) az bz (done ++ [(x + y + cv) % 65536]) :=
  ⟨hG, h.lim.append (Lim.one (by omega)), by
    rw [val_take_succ, val_take_succ, hx, hy, val_snoc, h.own.1]
    exact carry_step h.v, hB⟩
/-- for minus: what is told, and what is owed -/
structure Ms (w wr : World) (A : Option Addr) (k cp ow : Nat) (az bz done : List Nat) : Prop where
  own : Gi wr w.heap.size A k cp done
  lim : Lim 65536 done
  v : val 65536 done + val 65536 (bz.take k) = val 65536 (az.take k) + ow * 65536 ^ k
  b : Below w.heap.size w wr
theorem Ms.drewN {w wr : World} {A : Option Addr} {k cp cv : Nat} {az bz done : List Nat} (h : Ms w wr A k cp cv az bz done) (d : Nat) : Ms w (wr.drewN d) A k cp cv az bz done := ⟨h.own, h.lim, h.v, below_drewN h.b d⟩
theorem Ms.step {w wr w3 : World} {A A3 : Option Addr} {k cp c3 ow ow' x y z : Nat} {az bz done : List Nat} (h : Ms w wr A k cp ow az bz done) (hx : az.getD k 0 = x) (hy : bz.getD k 0 = y) (hz : z < 65536) (he : z + y + ow = x + ow' * 65536) (hG : Gi w3 w.heap.size A3 (k + 1) c3 (done ++ [z])) (hB : Below w.heap.size w w3) :
    Ms w w3 A3 (k + 1) c3 ow' az bz (done ++ [z]) :=
  ⟨hG, h.lim.append (Lim.one hz), by
    rw [val_take_succ, val_take_succ, hx, hy, val_snoc, h.own.1]
    have hv := h.v
    have e := congrArg (fun t => 65536 ^ k * t) he
    simp only [Nat.mul_add] at e
    have e3 : ow' * 65536 ^ (k + 1) = 65536 ^ k * (ow' * 65536) := by rw [Nat.pow_succ]; ac_rfl
    rw [e3]
    have e4 : 65536 ^ k * ow = ow * 65536 ^ k := Nat.mul_comm _ _
    omega, hB⟩

set_option maxHeartbeats 8000000 in
theorem rplus_any {w : World} {aA bA : Option Addr} {la ca lb cb : Nat} {az bz : List Nat} (ha : Ni w w.heap.size aA la ca az) (hb : Ni w w.heap.size bA lb cb bz) (hla : la ≤ 1099511) (hlb : lb ≤ 1099511) :
    Calls Tryz.prog 99 #[.slice aA la ca, .slice bA lb cb] w fun e w' => ∃ A n c ds, e = .returned (.slice A n c) ∧ n ≤ la + lb + 1 ∧ Ni w' w'.heap.size A n c ds ∧ val 65536 ds = val 65536 az + val 65536 bz ∧ Below w.heap.size w w' := by
  have hra := ha.rooms
  have hrb := hb.rooms
  have hal := ha.len
  have hbl := hb.len
  have hd0 : Ps w w none 0 0 0 az bz [] := ⟨Gi.nil _ _, Lim.nil _, by simp [val], Below.refl _ _⟩
  go_enter Tryz.func99, Tryz.ntmps99
  go_wp2_with fail
  go_loopw [5, 6, 7] (fun v u i wr => ∃ (k cv cp : Nat) (A : Option Addr) (done : List Nat), k + cv ≤ la + lb + 1 ∧ cv ≤ 1 ∧ i = .int .i64 (k : Int) ∧ u = .int .i64 (cv : Int) ∧ v = .slice A k cp ∧ Hid (Ps w wr A k cp cv az bz done)) (fun _ u i _ => 2 * (la + lb - (intOf i).toNat) + (intOf u).toNat)
  case atStart => exact ⟨0, 0, 0, none, [], by omega, by omega, rfl, rfl, rfl, hd0⟩
  case round =>
    clear hd0
    obtain ⟨k, cv, cp, A, done, hk, hcv, rfl, rfl, rfl, HD⟩ := hrel
    by_cases hgo : k < la ∨ k < lb ∨ 0 < cv
    · have hs := HD.out.b.size
      have hxa := ha.lim.get (by omega) k
      have hxb := hb.lim.get (by omega) k
      have hat := rat_any (ha.below HD.out.b) k
      have hat2 := rat_any (hb.below HD.out.b) k
      have hmx : ¬ (k < la ∨ k < lb) → az.getD k 0 = 0 ∧ bz.getD k 0 = 0 := fun h => by
        simp [List.getD, List.getElem?_eq_none (show az.length ≤ k by omega), List.getElem?_eq_none (show bz.length ≤ k by omega)]
      obtain ⟨x, hx⟩ : ∃ x, az.getD k 0 = x := ⟨_, rfl⟩
      obtain ⟨y, hy⟩ : ∃ y, bz.getD k 0 = y := ⟨_, rfl⟩
      rw [hx] at hxa hat hmx
      rw [hy] at hxb hat2 hmx
      have hme : 2 * (la + lb - (k + 1)) + (x + y + cv) / 65536 < 2 * (la + lb - k) + cv ∧ k + 1 + (x + y + cv) / 65536 ≤ la + lb + 1 := by
        by_cases hh : k < la ∨ k < lb
        · omega
        · have := hmx hh
          omega
      have hq1 : (x + y + cv) / 65536 ≤ 1 := by omega
      have HS : ∀ A3 c3 w3, _ → _ → Hid _ := fun A3 c3 w3 hG hB => Lib.hid (HD.out.step (A3 := A3) (c3 := c3) (w3 := w3) hx hy hG hB)
      have HSS := Lib.hid HS
      have Hat := Lib.hid hat
      have Hat2 := Lib.hid hat2
      have Hme := Lib.hid hme
      clear hx hy HS hat hat2 hmx hme
      have m1 := i64_and16 ((x : Int) + (y : Int) + (cv : Int))
      have M2 := Lib.hid (show ((x : Int) + (y : Int) + (cv : Int)) / 65536 = (((x + y + cv) / 65536 : Nat) : Int) by omega)
      have HG : Gi wr w.heap.size A k cp done := HD.out.own
      have HB : Below w.heap.size w wr := HD.out.b
      have HGH := Lib.hid HG
      have HBH := Lib.hid HB
      clear HG HB
      have hkl : k ≤ 1099511627776 := by omega
      clear hal hbl
      by_cases h1 : k < la
      · go_wp2_with fail
        refine Hat.out.mono ?_
        rintro e w1 ⟨rfl, rfl⟩
        go_wp2_with fail
        refine Hat2.out.mono ?_
        rintro e w1 ⟨rfl, rfl⟩
        go_wp2_with (refine wpList_app_i (y := (x + y + cv) % 65536) _ rfl _ _ rfl rfl ((HGH.out).alloc _) rfl (cell_new _ _ _) hkl ((HBH.out).alloc hs _) (by simp; omega) ?_; intro A3 c3 w3 hG3 hB3)
        go_roundw
        case rel => exact ⟨k + 1, (x + y + cv) / 65536, c3, A3, _, Hme.out.2, hq1, by simp, by simp, rfl, HSS.out A3 c3 w3 hG3 hB3⟩
        case measure => have := Hme.out.1; simp [intOf]; omega
      · by_cases h2 : k < lb
        · go_wp2_with fail
          refine Hat.out.mono ?_
          rintro e w1 ⟨rfl, rfl⟩
          go_wp2_with fail
          refine Hat2.out.mono ?_
          rintro e w1 ⟨rfl, rfl⟩
          go_wp2_with (refine wpList_app_i (y := (x + y + cv) % 65536) _ rfl _ _ rfl rfl ((HGH.out).alloc _) rfl (cell_new _ _ _) hkl ((HBH.out).alloc hs _) (by simp; omega) ?_; intro A3 c3 w3 hG3 hB3)
          go_roundw
          case rel => exact ⟨k + 1, (x + y + cv) / 65536, c3, A3, _, Hme.out.2, hq1, by simp, by simp, rfl, HSS.out A3 c3 w3 hG3 hB3⟩
          case measure => have := Hme.out.1; simp [intOf]; omega
        · have hcv1 : 0 < cv := by omega
          go_wp2_with fail
          refine Hat.out.mono ?_
          rintro e w1 ⟨rfl, rfl⟩
          go_wp2_with fail
          refine Hat2.out.mono ?_
          rintro e w1 ⟨rfl, rfl⟩
          go_wp2_with (refine wpList_app_i (y := (x + y + cv) % 65536) _ rfl _ _ rfl rfl ((HGH.out).alloc _) rfl (cell_new _ _ _) hkl ((HBH.out).alloc hs _) (by simp; omega) ?_; intro A3 c3 w3 hG3 hB3)
          go_roundw
          case rel => exact ⟨k + 1, (x + y + cv) / 65536, c3, A3, _, Hme.out.2, hq1, by simp, by simp, rfl, HSS.out A3 c3 w3 hG3 hB3⟩
          case measure => have := Hme.out.1; simp [intOf]; omega
    · have h1 : ¬ k < la := by omega
      have h2 : ¬ k < lb := by omega
      have hcv1 : cv = 0 := by omega
      subst hcv1
      clear hgo
      have hN := HD.out.own.ni HD.out.lim
      have hv := HD.out.v
      rw [List.take_of_length_le (by omega), List.take_of_length_le (by omega), Nat.zero_mul, Nat.add_zero] at hv
      have Hv := Lib.hid hv
      clear hv
      have hB := HD.out.b
      clear hal hbl
      go_wp2_with fail
      go_ret
      exact ⟨_, _, _, _, rfl, by omega, hN, Hv.out, hB⟩

set_option maxHeartbeats 8000000 in
theorem rminus_any {w : World} {aA bA : Option Addr} {la ca lb cb : Nat} {az bz : List Nat} (ha : Ni w w.heap.size aA la ca az) (hb : Ni w w.heap.size bA lb cb bz) (hla : la ≤ 1099511627) (hlb : lb ≤ 1099511627) (hle : val 65536 bz ≤ val 65536 az) (hbt : Trm bz) :
    Calls Tryz.prog 98 #[.slice aA la ca, .slice bA lb cb] w fun e w' => ∃ A n c ds, e = .returned (.slice A n c) ∧ n ≤ la ∧ Dig w' A n c (val 65536 az - val 65536 bz) ds ∧ Below w.heap.size w w' := by
  have hra := ha.rooms
  have hrb := hb.rooms
  have hal := ha.len
  have hbl := hb.len
  have hlba : lb ≤ la := by
    have := length_of_val (β := 65536) (by omega) hbt (k := la) (by
      have := val_lt ha.lim
      rw [hal] at this
      omega)
    omega
  have Hle := Lib.hid hle
  clear hle
  have hd0 : Ms w w none 0 0 0 az bz [] := ⟨Gi.nil _ _, Lim.nil _, by simp [val], Below.refl _ _⟩
  go_enter Tryz.func98, Tryz.ntmps98
  go_wp2_with fail
  go_loopw [5, 6, 7] (fun v u i wr => ∃ (k ow cp : Nat) (A : Option Addr) (done : List Nat), k ≤ la ∧ ow ≤ 1 ∧ i = .int .i64 (k : Int) ∧ u = .int .i64 (ow : Int) ∧ v = .slice A k cp ∧ Hid (Ms w wr A k cp ow az bz done)) (fun _ _ i _ => la - (intOf i).toNat)
  case atStart => exact ⟨0, 0, 0, none, [], by omega, by omega, rfl, rfl, rfl, hd0⟩
  case round =>
    clear hd0
    obtain ⟨k, ow, cp, A, done, hk, how, rfl, rfl, rfl, HD⟩ := hrel
    by_cases hlt : k < la
    · have hs := HD.out.b.size
      have hxa := ha.lim.get (by omega) k
      have hxb := hb.lim.get (by omega) k
      obtain ⟨b, off, eA, hbb, hcell⟩ := (ha.below HD.out.b).at_ hlt
      have hat2 := fun d => rat_any ((hb.below HD.out.b).drewN d) k
      obtain ⟨x, hx⟩ : ∃ x, az.getD k 0 = x := ⟨_, rfl⟩
      obtain ⟨y, hy⟩ : ∃ y, bz.getD k 0 = y := ⟨_, rfl⟩
      rw [hx] at hxa hcell
      rw [hy] at hxb hat2
      cases eA
      have HS : ∀ d z ow' A3 c3 w3, z < 65536 → z + y + ow = x + ow' * 65536 → _ → _ → Hid _ := fun d z ow' A3 c3 w3 h1 h2 hG hB => Lib.hid ((HD.out.drewN d).step (A3 := A3) (c3 := c3) (w3 := w3) (z := z) (ow' := ow') hx hy h1 h2 hG hB)
      have HSS := Lib.hid HS
      have Hat := Lib.hid hat2
      clear hx hy HS hat2
      have HG : ∀ d, Gi (wr.drewN d) w.heap.size A k cp done := fun d => HD.out.own
      have HB : ∀ d, Below w.heap.size w (wr.drewN d) := fun d => below_drewN HD.out.b d
      have HGH := Lib.hid HG
      have HBH := Lib.hid HB
      clear HG HB
      have hkl : k ≤ 1099511627776 := by omega
      clear hal hbl
      by_cases hneg : x < y + ow
      · have hi : (x : Int) - (y : Int) - (ow : Int) < 0 := by omega
        have hi2 : (x : Int) - (y : Int) - (ow : Int) + 65536 = ((x + 65536 - y - ow : Nat) : Int) := by omega
        have Hg := Lib.hid (show x + 65536 - y - ow < 65536 ∧ x + 65536 - y - ow + y + ow = x + 1 * 65536 by omega)
        generalize x + 65536 - y - ow = z at *
        go_wp2_with fail
        go_quiet ((go_at_call 148; exact (Hat.out _).mono fun _ _ ⟨he, hw⟩ => ⟨he, _, hw.symm⟩))
        go_wp2_with (refine wpList_app_i (y := z) _ rfl _ _ rfl rfl ((HGH.out nq).alloc _) rfl (cell_new _ _ _) hkl ((HBH.out nq).alloc (by simpa using hs) _) (by simp; omega) ?_; intro A3 c3 w3 hG3 hB3)
        go_roundw
        case rel => exact ⟨k + 1, 1, c3, A3, _, hlt, by omega, by simp, rfl, rfl, HSS.out nq z 1 A3 c3 w3 Hg.out.1 Hg.out.2 hG3 hB3⟩
        case measure => simp [intOf]; omega
      · have hi : ¬ (x : Int) - (y : Int) - (ow : Int) < 0 := by omega
        have hi2 : (x : Int) - (y : Int) - (ow : Int) = ((x - y - ow : Nat) : Int) := by omega
        have Hg := Lib.hid (show x - y - ow < 65536 ∧ x - y - ow + y + ow = x + 0 * 65536 by omega)
        generalize x - y - ow = z at *
        go_wp2_with fail
        go_quiet ((go_at_call 148; exact (Hat.out _).mono fun _ _ ⟨he, hw⟩ => ⟨he, _, hw.symm⟩))
        go_wp2_with (refine wpList_app_i (y := z) _ rfl _ _ rfl rfl ((HGH.out nq).alloc _) rfl (cell_new _ _ _) hkl ((HBH.out nq).alloc (by simpa using hs) _) (by simp; omega) ?_; intro A3 c3 w3 hG3 hB3)
        go_roundw
        case rel => exact ⟨k + 1, 0, c3, A3, _, hlt, by omega, by simp, rfl, rfl, HSS.out nq z 0 A3 c3 w3 Hg.out.1 Hg.out.2 hG3 hB3⟩
        case measure => simp [intOf]; omega
    · have hkn : k = la := by omega
      subst hkn
      have hN := HD.out.own.ni HD.out.lim
      have hv := HD.out.v
      rw [List.take_of_length_le (by omega), List.take_of_length_le (by omega)] at hv
      have hlt2 := val_lt HD.out.lim
      rw [HD.out.own.1] at hlt2
      have hle := Hle.out
      have hsub : val 65536 done = val 65536 az - val 65536 bz := by
        rcases (show ow = 0 ∨ ow = 1 by omega) with rfl | rfl
        · omega
        · omega
      have Hsub := Lib.hid hsub
      have hcr := rcut_any hN
      have Hcr := Lib.hid hcr
      have htl := tl_le done k
      have hB := HD.out.b
      have hK := hN.cut
      clear hv hlt2 hle hsub hcr hal hbl
      go_wp2_with fail
      refine Hcr.out.mono ?_
      rintro e w4 ⟨rfl, rfl⟩
      go_wp2_with fail
      go_ret
      exact ⟨_, _, _, _, rfl, htl, ⟨hK, trm_cutL _, by rw [val_cutL, Hsub.out]⟩, hB⟩
end Go.Proofs.YtkhlmcknbangfaaGreatDoor
namespace Go.Proofs.YtkhlmcknbangfaaGreatDoor
open Go.RowKit
set_option linter.unusedVariables false
set_option maxRecDepth 100000

/-- the digits that a slice value reads as -/
def rdI (w : World) : Value → List Nat
  | .slice (some a) n _ => (List.range n).map fun j => match w.cell? ⟨a.block, a.off + j, none⟩ with
    | some (.int _ x) => x.toNat
    | _ => 0
  | _ => []
theorem Ni.rd {w : World} {B n c : Nat} {A : Option Addr} {xs : List Nat} (h : Ni w B A n c xs) : rdI w (.slice A n c) = xs := by
  by_cases h0 : n = 0
  · subst h0
    rw [List.eq_nil_of_length_eq_zero h.len]
    cases A <;> rfl
  · obtain ⟨b, off, rfl, _, hc⟩ := h.cell (by omega)
    apply List.ext_getElem?
    intro j
    simp only [rdI, List.getElem?_map]
    by_cases hj : j < n
    · have hl : j < xs.length := by rw [h.len]; exact hj
      rw [List.getElem?_range hj, Option.map_some, hc j xs[j] (List.getElem?_eq_getElem hl), List.getElem?_eq_getElem hl]
      simp
    · rw [List.getElem?_eq_none (by simp; omega), List.getElem?_eq_none (by rw [h.len]; omega)]
      rfl
def rdV (w : World) (v : Value) : Nat := val 65536 (rdI w v)
theorem Dig.rd {w : World} {A : Option Addr} {n c v : Nat} {ds : List Nat} (h : Dig w A n c v ds) : rdV w (.slice A n c) = v := by unfold rdV; rw [h.ni.rd, h.is]

theorem mod_dvd (T N : Nat) : (N : Int) ∣ ((T % N : Nat) : Int) - (T : Int) := by
  rw [Int.natCast_emod, ← Int.dvd_neg, Int.neg_sub]
  exact Int.dvd_self_sub_emod
/-- one division more on the way back -/
theorem inv_step {N a L X O R : Nat} (hN : 0 < N) (h1 : (N : Int) ∣ (L : Int) * a - O) (h2 : (N : Int) ∣ (X : Int) * a - R) :
    (N : Int) ∣ ((((L + N - O / R % N * X % N) % N : Nat) : Nat) : Int) * a - ((O % R : Nat) : Int) := by
  obtain ⟨q, hq⟩ : ∃ q, O / R = q := ⟨_, rfl⟩
  have hO : ((O % R : Nat) : Int) = (O : Int) - q * R := by
    have := Nat.div_add_mod O R
    rw [hq] at this
    have e : ((R * q + O % R : Nat) : Int) = (O : Int) := by rw [this]
    push_cast at e ⊢
    rw [Int.mul_comm (q : Int)]
    omega
  rw [hO, hq]
  have hP := mod_dvd (q % N * X) N
  have hPlt := Nat.mod_lt (q % N * X) hN
  have hq1 := mod_dvd q N
  obtain ⟨P, hPe⟩ : ∃ P, q % N * X % N = P := ⟨_, rfl⟩
  rw [hPe] at hP hPlt ⊢
  have hT := mod_dvd (L + N - P) N
  have hTc : ((L + N - P : Nat) : Int) = (L : Int) + N - P := by omega
  rw [hTc] at hT
  generalize (L + N - P) % N = T at *
  have e1 := Int.dvd_mul_of_dvd_left (c := (a : Int)) hT
  have e2 := Int.dvd_mul_of_dvd_left (c := (a : Int)) hP
  have e3 : (N : Int) ∣ (((q % N : Nat) : Int) - q) * ((X : Int) * a) := Int.dvd_mul_of_dvd_left hq1
  have e4 : (N : Int) ∣ (q : Int) * ((X : Int) * a - R) := Int.dvd_mul_of_dvd_right h2
  have e5 : (N : Int) ∣ (N : Int) * a := Int.dvd_mul_right _ _
  have e := Int.dvd_sub (Int.dvd_sub (Int.dvd_sub (Int.dvd_add (Int.dvd_add e1 h1) e5) e2) e3) e4
  have : (T : Int) * a - ((O : Int) - q * R) = ((T : Int) - ((L : Int) + N - P)) * a + ((L : Int) * a - O) + (N : Int) * a - ((P : Int) - ((q % N * X : Nat) : Int)) * a - (((q % N : Nat) : Int) - q) * ((X : Int) * a) - (q : Int) * ((X : Int) * a - R) := by
    push_cast
    generalize ((q : Int) % N) = qm
    simp only [Int.sub_mul, Int.add_mul, Int.mul_sub, Int.mul_assoc]
    omega
  rw [this]
  exact e
theorem inv_begin (N a : Nat) : (N : Int) ∣ ((1 % N : Nat) : Int) * a - ((a % N : Nat) : Int) := by
  have e1 := mod_dvd 1 N
  have e2 := mod_dvd a N
  generalize ((1 % N : Nat) : Int) = u at *
  generalize ((a % N : Nat) : Int) = v at *
  have e3 := Int.dvd_sub (Int.dvd_mul_of_dvd_left (c := (a : Int)) e1) e2
  have e : u * a - v = (u - ((1 : Nat) : Int)) * a - (v - a) := by
    rw [Int.sub_mul, Int.natCast_one, Int.one_mul]; omega
  rw [e]; exact e3
/-- two inverses of one number are one -/
theorem inv_one {N a f g : Nat} (hf : f < N) (hg : g < N) (h1 : a * f % N = 1 % N) (h2 : a * g % N = 1 % N) : f = g := by
  have e1 : f * (a * g) % N = f := by rw [Nat.mul_mod, h2, ← Nat.mul_mod, Nat.mul_one, Nat.mod_eq_of_lt hf]
  have e2 : g * (a * f) % N = g := by rw [Nat.mul_mod, h1, ← Nat.mul_mod, Nat.mul_one, Nat.mod_eq_of_lt hg]
  have e3 : f * (a * g) = g * (a * f) := by ac_rfl
  rw [e3] at e1
  exact e1.symm.trans e2
theorem one_dig {w w1 : World} (e1 : w1 = w.alloc (Obj.cells #[Value.int .i64 1] 3)) : Dig w1 (some ⟨w.heap.size, 0, none⟩) 1 1 1 [1] ∧ Below w.heap.size w w1 := by
  refine ⟨⟨⟨rfl, Nat.le_refl _, by unfold maxLen; omega, Lim.one (by omega), fun _ => ⟨w.heap.size, 0, rfl, by rw [e1]; simp, fun j x hj => ?_⟩⟩, ?_, rfl⟩, e1 ▸ (Below.refl _ w).alloc (Nat.le_refl _) _⟩
  · have : j = 0 ∧ x = 1 := by
      cases j with
      | zero => simpa using hj.symm
      | succ j => simp at hj
    obtain ⟨rfl, rfl⟩ := this
    rw [e1, Nat.add_zero, cell_of_row _ _ 0 #[Value.int .i64 1] 3 (0, 0) (heap_alloc_new w _)]
    rfl
  · intro ys x e h0
    cases ys with
    | nil => simp at e; omega
    | cons y ys => simp at e
/-- what holds at the head of the loop of the way back -/
structure Iv (w wr : World) (M : Nat) (r old last x : Value) (N a R O L X : Nat) : Prop where
  r : ∃ A n c ds, r = .slice A n c ∧ n ≤ M ∧ Dig wr A n c R ds
  o : ∃ A n c ds, old = .slice A n c ∧ n ≤ M ∧ Dig wr A n c O ds
  l : ∃ A n c ds, last = .slice A n c ∧ n ≤ M ∧ Dig wr A n c L ds
  x : ∃ A n c ds, x = .slice A n c ∧ n ≤ M ∧ Dig wr A n c X ds
  ll : L < N
  xl : X < N
  g : Nat.gcd O R = Nat.gcd N a
  d1 : (N : Int) ∣ (L : Int) * a - O
  d2 : (N : Int) ∣ (X : Int) * a - R
  b : Below w.heap.size w wr

set_option maxHeartbeats 8000000 in
theorem rinv_any {w : World} {A A2 : Option Addr} {n c n2 c2 : Nat} {xs ys : List Nat} (h : Nt w w.heap.size A n c xs) (h2 : Nt w w.heap.size A2 n2 c2 ys) (hn : n ≤ 100000) (hn2 : n2 ≤ 100000) (hb : 0 < val 18446744073709551616 ys) :
    Calls Tryz.prog 38 #[.slice A n c, .slice A2 n2 c2] w fun e w' =>
      (Nat.gcd (val 18446744073709551616 xs) (val 18446744073709551616 ys) ≠ 1 → RetBad 30 w e w') ∧
      (Nat.gcd (val 18446744073709551616 xs) (val 18446744073709551616 ys) = 1 → ∃ f, f < val 18446744073709551616 ys ∧ val 18446744073709551616 xs * f % val 18446744073709551616 ys = 1 % val 18446744073709551616 ys ∧ RetT f w e w') := by
  obtain ⟨a, ha⟩ : ∃ a, val 18446744073709551616 xs = a := ⟨_, rfl⟩
  obtain ⟨N, hN⟩ : ∃ N, val 18446744073709551616 ys = N := ⟨_, rfl⟩
  rw [hN] at hb
  rw [ha, hN]
  have hr := h.rooms
  have hr2 := h2.rooms
  go_enter Tryz.func38, Tryz.ntmps38
  go_wp2_with fail
  refine (dig_of h2 hN (by omega)).mono ?_
  rintro e w1 ⟨A1, m1, c1, ds1, rfl, l1, D1, b1⟩
  have hm0 := D1.pos hb
  have hr3 := D1.rooms
  have hmz : ((m1 : Int) == 0) = false := by simp; omega
  go_wp2_with fail
  refine (dig_of (h.up b1) ha (by omega)).mono ?_
  rintro e w2 ⟨A3, m3, c3, ds3, rfl, l3, D3, b2⟩
  have B2 := bthen b1 b2
  have D12 := D1.up b2
  go_wp2_with fail
  refine (parted_dig D3 D12 (by omega) (by omega) hb).mono ?_
  rintro e w3 ⟨A4, m4, c4, A5, m5, c5, qs, rs, rfl, l4, l5, D4, D5, b3⟩
  have B3 := bthen B2 b3
  have D13 := D12.up b3
  obtain ⟨w4, e4⟩ : ∃ w4, w4 = w3.alloc (Obj.cells #[Value.int .i64 1] 3) := ⟨_, rfl⟩
  obtain ⟨Dn, b4⟩ := one_dig e4
  go_wp2_with fail
  rw [← e4]
  refine (parted_dig Dn (D13.up b4) (by omega) (by omega) hb).mono ?_
  rintro e w5 ⟨A6, m6, c6, A7, m7, c7, qs7, rs7, rfl, l6, l7, D6, D7, b5⟩
  have b45 := bthen b4 b5
  have B5 := bthen B3 b45
  have D15 := D13.up b45
  have D55 := D5.up b45
  have hI : Iv w w5 m1 (.slice A5 m5 c5) (.slice A1 m1 c1) (.slice none 0 0) (.slice A7 m7 c7) N a (a % N) N 0 (1 % N) :=
    ⟨⟨_, _, _, _, rfl, l5, D55⟩, ⟨_, _, _, _, rfl, Nat.le_refl _, D15⟩, ⟨_, _, _, [], rfl, Nat.zero_le _, ⟨⟨rfl, Nat.le_refl _, Nat.zero_le _, Lim.nil _, fun h => absurd h (Nat.lt_irrefl _)⟩, trm_nil, rfl⟩⟩, ⟨_, _, _, _, rfl, l7, D7⟩, hb, Nat.mod_lt _ hb,
      by rw [Nat.gcd_rec N a]; exact Nat.gcd_comm _ _, by simp, inv_begin N a, B5⟩
  have HI := Lib.hid hI
  have HB2 := Lib.hid b45
  have HB3 := Lib.hid D13
  clear hI D6 D7 D55 D15 Dn D4 D5 e4 b4 b5 b45 D12 D3 B3 B2 b3 b2 D13
  have hlt : ∀ (P : World → Prop), True := fun _ => trivial
  go_wp2_with fail
  go_loopw [8, 9, 10, 12] (fun vr vo vl vx wr => ∃ (R O L X : Nat), Hid (Iv w wr m1 vr vo vl vx N a R O L X) ∧ Hid (Dig wr A1 m1 c1 N ds1)) (fun vr _ _ _ wr => rdV wr vr)
  case atStart => exact ⟨_, _, _, _, HI, HB3.out.up HB2.out⟩
  case round =>
    clear HI HB3 HB2
    obtain ⟨R, O, L, X, HI, HN⟩ := hrel
    obtain ⟨⟨Ar, nr, cr, dr, rfl, lr, Dr⟩, ⟨Ao, no, co, dO, rfl, lo, Do⟩, ⟨Al, nl, cl, dl, rfl, ll, Dl⟩, ⟨Ax, nx, cx, dx, rfl, lx, Dx⟩, hL, hX, hg, d1, d2, B⟩ := HI.out
    have hrr := Dr.rooms
    have Hg := Lib.hid hg
    have Hd1 := Lib.hid d1
    have Hd2 := Lib.hid d2
    clear HI hg d1 d2
    rcases Nat.eq_zero_or_pos R with h0 | h0
    · subst h0
      have hz := Dr.nil rfl
      subst hz
      have hg := Hg.out
      rw [Nat.gcd_zero_right, Nat.gcd_comm] at hg
      obtain ⟨w6, e6⟩ : ∃ w6, w6 = wr.alloc (Obj.cells #[Value.int .i64 1] 3) := ⟨_, rfl⟩
      obtain ⟨Dn, b6⟩ := one_dig e6
      have B6 := bthen B b6
      have hc := rcmp3_any (Do.up b6).ni Dn.ni (by omega) (by omega)
      rw [(Do.up b6).is, Dn.is] at hc
      have HGG := Lib.hid hg
      by_cases hone : O = 1
      · subst hone
        have Hc := Lib.hid hc
        have hd := Hd1.out
        have hmod : a * L % N = 1 % N := by
          have := Int.emod_emod_of_dvd
          have e : ((a * L : Nat) : Int) % N = ((1 : Nat) : Int) % N := by
            apply Int.emod_eq_emod_iff_emod_sub_eq_zero.2
            apply Int.emod_eq_zero_of_dvd
            have : ((a * L : Nat) : Int) - ((1 : Nat) : Int) = (L : Int) * a - ((1 : Nat) : Int) := by push_cast; rw [Int.mul_comm]
            rw [this]; exact hd
          exact_mod_cast e
        have Hmod := Lib.hid hmod
        have Dl6 := Dl.up b6
        clear hc hg hd hmod
        go_wp2_with fail
        rw [← e6]
        clear e6
        refine Hc.out.mono ?_
        rintro e w7 ⟨rfl, rfl⟩
        rw [sgn_self]
        go_wp2_with fail
        refine (number_dig Dl6 (by omega)).mono ?_
        rintro e w8 ⟨A8, m8, c8, zs, rfl, r8⟩
        go_wp2_with fail
        go_ret2
        exact ⟨fun hne => absurd HGG.out.symm hne, fun _ => ⟨L, hL, Hmod.out, _, _, _, _, rfl, ⟨r8.nt, r8.trm, r8.is, bthen B6 r8.bel⟩⟩⟩
      · have hs := sgn_ne hone
        obtain ⟨s, hse⟩ : ∃ s, sgn (O : Int) ((1 : Nat) : Int) = s := ⟨_, rfl⟩
        rw [hse] at hs hc
        have Hc := Lib.hid hc
        have Hone := Lib.hid hone
        have hs' : (s != 0) = true := by simpa using hs
        clear hc hg hone hse
        go_wp2_with fail
        rw [← e6]
        clear e6
        refine Hc.out.mono ?_
        rintro e w7 ⟨rfl, rfl⟩
        go_wp2_with fail
        go_ret2
        exact ⟨fun _ => ⟨rfl, B6⟩, fun he => absurd (HGG.out.trans he) Hone.out⟩
    · have hnr := Dr.pos h0
      have hmlt := Nat.mod_lt O h0
      have hsp := inv_step hb Hd1.out Hd2.out
      have Hsp := Lib.hid hsp
      clear hsp
      have hg' : Nat.gcd R (O % R) = Nat.gcd N a := by rw [← Hg.out, Nat.gcd_comm O R, Nat.gcd_rec R O, Nat.gcd_comm]
      have Hg' := Lib.hid hg'
      clear hg'
      go_wp2_with fail
      refine (parted_dig Do Dr (by omega) (by omega) h0).mono ?_
      rintro e w6 ⟨A6, m6, c6, A7, m7, c7, qs6, rs6, rfl, l6, l7, D6, D7, b6⟩
      have N6 := HN.out.up b6
      go_wp2_with fail
      refine (parted_dig D6 N6 (by omega) (by omega) hb).mono ?_
      rintro e w7 ⟨A8, m8, c8, A9, m9, c9, qs7, rs7, rfl, l8, l9, D8, D9, b7⟩
      have b67 := bthen b6 b7
      have N7 := HN.out.up b67
      have hlt9 := Nat.mod_lt (O / R) hb
      go_wp2_with fail
      refine (rplus_any (Dl.up b67).ni N7.ni (by omega) (by omega)).mono ?_
      rintro e w8 ⟨A10, m10, c10, ds10, rfl, l10, N10, v10, b8⟩
      rw [(Dl.up b67).is, N7.is] at v10
      have b68 := bthen b67 b8
      go_wp2_with fail
      refine (times_dig (D9.up b8) (Dx.up b68) (N7.up b8) (by omega) (by omega) hlt9).mono ?_
      rintro e w9 ⟨A11, m11, c11, ds11, rfl, l11, D11, b9⟩
      have b69 := bthen b68 b9
      have hltp := Nat.mod_lt (O / R % N * X) hb
      have hmin := rminus_any (N10.up b9) D11.ni (by omega) (by omega) (by rw [v10, D11.is]; omega) D11.trm
      rw [v10, D11.is] at hmin
      have Hmin := Lib.hid hmin
      clear hmin
      go_wp2_with fail
      refine Hmin.out.mono ?_
      rintro e w10 ⟨A12, m12, c12, ds12, rfl, l12, D12, b10⟩
      have b610 := bthen b69 b10
      go_wp2_with fail
      refine (parted_dig D12 (HN.out.up b610) (by omega) (by omega) hb).mono ?_
      rintro e w11 ⟨A13, m13, c13, A14, m14, c14, qs13, rs13, rfl, l13, l14, D13, D14, b11⟩
      have b611 := bthen b610 b11
      have b711 := bthen (bthen (bthen (bthen b7 b8) b9) b10) b11
      have hlt14 := Nat.mod_lt (L + N - O / R % N * X % N) hb
      have HI' : Hid (Iv w w11 m1 (.slice A7 m7 c7) (.slice Ar nr cr) (.slice Ax nx cx) (.slice A14 m14 c14) N a (O % R) R X ((L + N - O / R % N * X % N) % N)) :=
        ⟨⟨_, _, _, _, rfl, by omega, D7.up b711⟩, ⟨_, _, _, _, rfl, by omega, Dr.up b611⟩, ⟨_, _, _, _, rfl, by omega, Dx.up b611⟩, ⟨_, _, _, _, rfl, by omega, D14⟩, hX, hlt14, Hg'.out, Hd2.out, Hsp.out, bthen B b611⟩
      have HN' : Hid (Dig w11 A1 m1 c1 N ds1) := HN.out.up b611
      have hm1 := (D7.up b711).rd
      have hm2 := Dr.rd
      have Hm1 := Lib.hid hm1
      have Hm2 := Lib.hid hm2
      clear hm1 hm2
      go_wp2_with fail
      go_roundw
      case rel => exact ⟨_, _, _, _, HI', HN'⟩
      case measure => rw [Hm1.out, Hm2.out]; exact hmlt
set_option maxHeartbeats 4000000 in
theorem rinv_nil {w : World} {A A2 : Option Addr} {n c n2 c2 : Nat} {xs ys : List Nat} (h : Nt w w.heap.size A n c xs) (h2 : Nt w w.heap.size A2 n2 c2 ys) (hn2 : n2 ≤ 100000) (hb : val 18446744073709551616 ys = 0) :
    Calls Tryz.prog 38 #[.slice A n c, .slice A2 n2 c2] w (RetBad 11 w) := by
  have hr := h.rooms
  have hr2 := h2.rooms
  go_enter Tryz.func38, Tryz.ntmps38
  go_wp2_with fail
  refine (dig_of h2 hb (by omega)).mono ?_
  rintro e w1 ⟨A1, m1, c1, ds1, rfl, l1, D1, b1⟩
  have hm0 := D1.nil rfl
  subst hm0
  go_wp2_with fail
  go_ret2
  exact ⟨rfl, b1⟩
end Go.Proofs.YtkhlmcknbangfaaGreatDoor
namespace Go.Proofs.YtkhlmcknbangfaaGreatDoor
open Go.RowKit
set_option linter.unusedVariables false
set_option maxRecDepth 100000

theorem lit_dig {w w1 : World} {k : Nat} (h0 : 0 < k) (hk : k < 65536) {p : Nat} (hp : p = w.heap.size) (e1 : w1 = w.alloc (Obj.cells #[Value.int .i64 (k : Int)] 3)) : Dig w1 (some ⟨p, 0, none⟩) 1 1 k [k] ∧ Below w.heap.size w w1 := by
  subst hp
  refine ⟨⟨⟨rfl, Nat.le_refl _, by unfold maxLen; omega, Lim.one hk, fun _ => ⟨w.heap.size, 0, rfl, by rw [e1]; simp, fun j x hj => ?_⟩⟩, ?_, by simp [val]⟩, e1 ▸ (Below.refl _ w).alloc (Nat.le_refl _) _⟩
  · have : j = 0 ∧ x = k := by
      cases j with
      | zero => simpa using hj.symm
      | succ j => simp at hj
    obtain ⟨rfl, rfl⟩ := this
    rw [e1, Nat.add_zero, cell_of_row _ _ 0 #[Value.int .i64 (x : Int)] 3 (0, 0) (heap_alloc_new w _)]
    rfl
  · intro ys x e h0
    cases ys with
    | nil => simp at e; omega
    | cons y ys => simp at e
theorem lit_limb {w w1 : World} {k : Nat} (hk : k < 18446744073709551616) {p : Nat} (hp : p = w.heap.size) (e1 : w1 = w.alloc (Obj.cells #[Value.int .u64 (k : Int)] 23)) : Nt w1 w1.heap.size (some ⟨p, 0, none⟩) 1 1 [k] ∧ Below w.heap.size w w1 := by
  subst hp
  refine ⟨⟨rfl, Nat.le_refl _, by unfold maxLen; omega, Lim.one hk, fun _ => ⟨w.heap.size, 0, rfl, by rw [e1]; simp, fun j x hj => ?_⟩⟩, e1 ▸ (Below.refl _ w).alloc (Nat.le_refl _) _⟩
  have : j = 0 ∧ x = k := by
    cases j with
    | zero => simpa using hj.symm
    | succ j => simp at hj
  obtain ⟨rfl, rfl⟩ := this
  rw [e1, Nat.add_zero, cell_of_row _ _ 0 #[Value.int .u64 (x : Int)] 23 (0, 0) (heap_alloc_new w _)]
  rfl
theorem cmp_dig {w : World} {aA bA : Option Addr} {la ca lb cb a b : Nat} {az bz : List Nat} (ha : Dig w aA la ca a az) (hb : Dig w bA lb cb b bz) (hla : la ≤ 1099511627776) (hlb : lb ≤ 1099511627776) :
    Calls Tryz.prog 94 #[.slice aA la ca, .slice bA lb cb] w fun e w' => e = .returned (.int .i64 (sgn (a : Int) (b : Int))) ∧ w = w' := by
  have h := rcmp3_any ha.ni hb.ni hla hlb
  rwa [ha.is, hb.is] at h
theorem bit0_dig {w : World} {aA : Option Addr} {la ca a : Nat} {az : List Nat} (ha : Dig w aA la ca a az) :
    Calls Tryz.prog 150 #[.slice aA la ca, .int .i64 0] w fun e w' => e = .returned (.int .i64 ((a % 2 : Nat) : Int)) ∧ w = w' := by
  have h := rbit_any ha.ni 0 (by omega)
  rwa [ha.is, Nat.pow_zero, Nat.div_one] at h

set_option maxHeartbeats 4000000 in
theorem rtells_small {w : World} {A : Option Addr} {n c : Nat} {xs : List Nat} (h : Nt w w.heap.size A n c xs) (hn : n ≤ 100000) (base : Nat) (hs : val 18446744073709551616 xs ≤ 2) :
    Calls Tryz.prog 96 #[.slice A n c, .int .u64 (base : Int)] w fun e w' => e = .returned (.bool (tellsN (val 18446744073709551616 xs) base)) ∧ Below w.heap.size w w' := by
  obtain ⟨N, hN⟩ : ∃ N, val 18446744073709551616 xs = N := ⟨_, rfl⟩
  rw [hN] at hs
  rw [hN]
  have hr := h.rooms
  have ht := tells_even (n := N) (base := base) (by omega)
  rw [ht]
  obtain ⟨s, hse⟩ : ∃ s, sgn (N : Int) ((2 : Nat) : Int) = s := ⟨_, rfl⟩
  have hs1 : s ≤ 0 ∧ decide (s < 0) = decide (N ≠ 2) := by
    rw [← hse]
    rcases (show N = 0 ∨ N = 1 ∨ N = 2 by omega) with rfl | rfl | rfl <;> decide
  obtain ⟨hs0, hsd⟩ := hs1
  have Hsd := Lib.hid hsd
  have Hse := Lib.hid hse
  clear ht hsd hse
  go_enter Tryz.func96, Tryz.ntmps96
  go_wp2_with fail
  refine (dig_of h hN (by omega)).mono ?_
  rintro e w1 ⟨A1, m1, c1, ds1, rfl, l1, D1, b1⟩
  obtain ⟨w2, e2⟩ : ∃ w2, w2 = w1.alloc (Obj.cells #[Value.int .i64 1] 3) := ⟨_, rfl⟩
  obtain ⟨w3, e3⟩ : ∃ w3, w3 = w2.alloc (Obj.cells #[Value.int .i64 2] 3) := ⟨_, rfl⟩
  obtain ⟨Do, b2⟩ := lit_dig (k := 1) (by omega) (by omega) rfl e2
  have hs2 : w2.heap.size = w1.heap.size + 1 := by rw [e2]; simp
  obtain ⟨Dt, b3⟩ := lit_dig (k := 2) (by omega) (by omega) hs2.symm e3
  go_wp2_with fail
  rw [← e2, ← e3]
  clear e2 e3 hs2
  have B3 := bthen (bthen b1 b2) b3
  refine (cmp_dig ((D1.up b2).up b3) Dt (by omega) (by omega)).mono ?_
  rintro e w4 ⟨rfl, rfl⟩
  rw [Hse.out]
  obtain ⟨w5, e5⟩ : ∃ w5, w5 = w3.alloc (Obj.cells #[Value.int .i64 2] 3) := ⟨_, rfl⟩
  obtain ⟨D5, b5⟩ := lit_dig (k := 2) (by omega) (by omega) rfl e5
  go_wp2_with fail
  rw [← e5]
  clear e5
  refine (cmp_dig (((D1.up b2).up b3).up b5) D5 (by omega) (by omega)).mono ?_
  rintro e w6 ⟨rfl, rfl⟩
  rw [Hse.out]
  go_wp2_with fail
  go_ret
  exact ⟨by rw [← Hsd.out]; rfl, bthen B3 b5⟩
set_option maxHeartbeats 4000000 in
theorem rtells_even {w : World} {A : Option Addr} {n c : Nat} {xs : List Nat} (h : Nt w w.heap.size A n c xs) (hn : n ≤ 100000) (base : Nat) (hs : 2 < val 18446744073709551616 xs) (hev : val 18446744073709551616 xs % 2 = 0) :
    Calls Tryz.prog 96 #[.slice A n c, .int .u64 (base : Int)] w fun e w' => e = .returned (.bool (tellsN (val 18446744073709551616 xs) base)) ∧ Below w.heap.size w w' := by
  obtain ⟨N, hN⟩ : ∃ N, val 18446744073709551616 xs = N := ⟨_, rfl⟩
  rw [hN] at hs hev
  rw [hN]
  have hr := h.rooms
  have ht := tells_even (n := N) (base := base) (by omega)
  rw [ht, decide_eq_true (show N ≠ 2 by omega)]
  have hse : sgn (N : Int) ((2 : Nat) : Int) = 1 := sgn_gt (by omega)
  have Hse := Lib.hid hse
  have Hev := Lib.hid hev
  clear ht hse hev
  go_enter Tryz.func96, Tryz.ntmps96
  go_wp2_with fail
  refine (dig_of h hN (by omega)).mono ?_
  rintro e w1 ⟨A1, m1, c1, ds1, rfl, l1, D1, b1⟩
  obtain ⟨w2, e2⟩ : ∃ w2, w2 = w1.alloc (Obj.cells #[Value.int .i64 1] 3) := ⟨_, rfl⟩
  obtain ⟨w3, e3⟩ : ∃ w3, w3 = w2.alloc (Obj.cells #[Value.int .i64 2] 3) := ⟨_, rfl⟩
  obtain ⟨Do, b2⟩ := lit_dig (k := 1) (by omega) (by omega) rfl e2
  have hs2 : w2.heap.size = w1.heap.size + 1 := by rw [e2]; simp
  obtain ⟨Dt, b3⟩ := lit_dig (k := 2) (by omega) (by omega) hs2.symm e3
  go_wp2_with fail
  rw [← e2, ← e3]
  clear e2 e3 hs2
  have B3 := bthen (bthen b1 b2) b3
  refine (cmp_dig ((D1.up b2).up b3) Dt (by omega) (by omega)).mono ?_
  rintro e w4 ⟨rfl, rfl⟩
  rw [Hse.out]
  go_wp2_with fail
  refine (bit0_dig ((D1.up b2).up b3)).mono ?_
  rintro e w6 ⟨rfl, rfl⟩
  rw [Hev.out]
  go_wp2_with fail
  go_ret
  exact ⟨rfl, B3⟩

theorem tells_odd {N base : Nat} (hs : 2 < N) (ho : N % 2 = 1) : tellsN N base = if base % N = 0 then false else
    decide ((base % N) ^ ((N - 1) / 2 ^ tz (N - 1)) % N ≠ 1) && !(among ((base % N) ^ ((N - 1) / 2 ^ tz (N - 1)) % N) N (N - 1) (tz (N - 1))) := by
  unfold tellsN
  rw [if_neg (by omega), ← Nat.pow_mod]
theorem twos_small {a s k : Nat} (h : 0 < a) (h1 : a % 2 ^ s = 0) (hk : a < 18446744073709551616 ^ k) : s ≤ 64 * k := by
  have h2 : 2 ^ s ≤ a := Nat.le_of_dvd h (Nat.dvd_of_mod_eq_zero h1)
  rw [show (18446744073709551616 : Nat) = 2 ^ 64 by decide, ← Nat.pow_mul] at hk
  have := (Nat.pow_lt_pow_iff_right (show 1 < 2 by omega)).1 (Nat.lt_of_le_of_lt h2 hk)
  omega
theorem twos_next {a s : Nat} (h1 : a % 2 ^ s = 0) (h2 : a / 2 ^ s % 2 = 0) : a % 2 ^ (s + 1) = 0 ∧ a / 2 ^ s / 2 = a / 2 ^ (s + 1) := by
  refine ⟨?_, by rw [Nat.pow_succ, Nat.div_div_eq_div_mul]⟩
  rw [Nat.pow_succ, Nat.mod_mul, h1, h2]; simp
theorem twos_pos {a s : Nat} (h : 0 < a) (h1 : a % 2 ^ s = 0) : 0 < a / 2 ^ s := by
  have h2 : 2 ^ s ≤ a := Nat.le_of_dvd h (Nat.dvd_of_mod_eq_zero h1)
  exact Nat.div_pos h2 (Nat.two_pow_pos s)
/-- what holds at the head of the first loop -/
structure Tw (w wr : World) (A1 Al Ad : Option Addr) (m1 c1 ll cl ld cd N s : Nat) (ds1 dl dd : List Nat) : Prop where
  m : Dig wr A1 m1 c1 N ds1
  l : Dig wr Al ll cl (N - 1) dl
  d : Dig wr Ad ld cd ((N - 1) / 2 ^ s) dd
  z : (N - 1) % 2 ^ s = 0
  b : Below w.heap.size w wr
/-- what holds at the head of the second loop -/
structure Tx (w wr : World) (A1 Al Ax : Option Addr) (m1 c1 ll cl lx cx N x0 i : Nat) (ds1 dl dx : List Nat) : Prop where
  m : Dig wr A1 m1 c1 N ds1
  l : Dig wr Al ll cl (N - 1) dl
  x : Dig wr Ax lx cx (sqs x0 N i) dx
  a : among x0 N (N - 1) i = false
  b : Below w.heap.size w wr

theorem sqs_lt {x n : Nat} (hx : x < n) : ∀ i, sqs x n i < n
  | 0 => hx
  | i + 1 => Nat.mod_lt _ (by omega)

set_option maxHeartbeats 8000000 in
theorem rtells_odd {w : World} {A : Option Addr} {n c : Nat} {xs : List Nat} (h : Nt w w.heap.size A n c xs) (hn : n ≤ 10000) (base : Nat) (hbl : base < 18446744073709551616) (hs : 2 < val 18446744073709551616 xs) (ho : val 18446744073709551616 xs % 2 = 1) :
    Calls Tryz.prog 96 #[.slice A n c, .int .u64 (base : Int)] w fun e w' => e = .returned (.bool (tellsN (val 18446744073709551616 xs) base)) ∧ Below w.heap.size w w' := by
  obtain ⟨N, hN⟩ : ∃ N, val 18446744073709551616 xs = N := ⟨_, rfl⟩
  have hNb := h.below_pow (Nat.le_refl n)
  rw [hN] at hs ho hNb
  rw [hN]
  have hr := h.rooms
  obtain ⟨tb, htb⟩ : ∃ tb, tellsN N base = tb := ⟨_, rfl⟩
  rw [htb]
  rw [tells_odd hs ho] at htb
  have hse : sgn (N : Int) ((2 : Nat) : Int) = 1 := sgn_gt (by omega)
  have Hse := Lib.hid hse
  have Htb := Lib.hid htb
  have Ho := Lib.hid ho
  have HNb := Lib.hid (show N - 1 < 18446744073709551616 ^ n by omega)
  clear hse htb ho hNb
  go_enter Tryz.func96, Tryz.ntmps96
  go_wp2_with fail
  refine (dig_of h hN (by omega)).mono ?_
  rintro e w1 ⟨A1, m1, c1, ds1, rfl, l1, D1, b1⟩
  obtain ⟨w2, e2⟩ : ∃ w2, w2 = w1.alloc (Obj.cells #[Value.int .i64 1] 3) := ⟨_, rfl⟩
  obtain ⟨w3, e3⟩ : ∃ w3, w3 = w2.alloc (Obj.cells #[Value.int .i64 2] 3) := ⟨_, rfl⟩
  obtain ⟨Do, b2⟩ := lit_dig (k := 1) (by omega) (by omega) rfl e2
  have hs2 : w2.heap.size = w1.heap.size + 1 := by rw [e2]; simp
  obtain ⟨Dt, b3⟩ := lit_dig (k := 2) (by omega) (by omega) hs2.symm e3
  go_wp2_with fail
  rw [← e2, ← e3]
  clear e2 e3 hs2
  have B3 := bthen (bthen b1 b2) b3
  have D13 := (D1.up b2).up b3
  have Do3 := Do.up b3
  refine (cmp_dig D13 Dt (by omega) (by omega)).mono ?_
  rintro e w4 ⟨rfl, rfl⟩
  rw [Hse.out]
  go_wp2_with fail
  refine (bit0_dig D13).mono ?_
  rintro e w6 ⟨rfl, rfl⟩
  rw [Ho.out]
  have hmin := rminus_any D13.ni Do3.ni (by omega) (by omega) (by rw [D13.is, Do3.is]; omega) Do3.trm
  rw [D13.is, Do3.is] at hmin
  have Hmin := Lib.hid hmin
  clear hmin
  go_wp2_with fail
  refine Hmin.out.mono ?_
  rintro e w5 ⟨A5, m5, c5, ds5, rfl, l5, D5, b5⟩
  have B5 := bthen B3 b5
  have D15 := D13.up b5
  have Do5 := Do3.up b5
  have HT : Hid (Tw w w5 A1 A5 A5 m1 c1 m5 c5 m5 c5 N 0 ds1 ds5 ds5 ∧ Dig w5 (some ⟨w1.heap.size, 0, none⟩) 1 1 1 [1]) := ⟨⟨D15, D5, by simpa using D5, by simp [Nat.mod_one], B5⟩, Do5⟩
  clear Hmin D13 Do3 Do5 D15 B3 b5 b3 b2 Dt Do D1 D5 B5
  generalize w1.heap.size = po at *
  go_wp2_with fail
  go_loopw [8, 9] (fun vd vs wr => ∃ (s ld cd : Nat) (Ad : Option Addr) (dd : List Nat), s ≤ 64 * n ∧ vs = .int .i64 (s : Int) ∧ vd = .slice Ad ld cd ∧ ld ≤ m1 ∧ Hid (Tw w wr A1 A5 Ad m1 c1 m5 c5 ld cd N s ds1 ds5 dd ∧ Dig wr (some ⟨po, 0, none⟩) 1 1 1 [1])) (fun _ vs _ => 64 * n - (intOf vs).toNat)
  case atStart => exact ⟨0, m5, c5, A5, ds5, by omega, rfl, rfl, l5, HT⟩
  case round =>
    clear HT
    obtain ⟨s, ld, cd, Ad, dd, hsl, rfl, rfl, hld, HT⟩ := hrel
    obtain ⟨HTw, HDo⟩ := HT.out
    have hd := HTw.d
    have hp1 : 0 < N - 1 := by omega
    have hp1' := twos_pos hp1 HTw.z
    clear HT
    have Htw := Lib.hid HTw
    clear HTw
    rcases Nat.mod_two_eq_zero_or_one ((N - 1) / 2 ^ s) with hm | hm
    · obtain ⟨hz2, hd2⟩ := twos_next Htw.out.z hm
      have hsl2 := twos_small hp1 hz2 HNb.out
      have Hz2 := Lib.hid hz2
      have Hd2 := Lib.hid hd2
      have Hm := Lib.hid hm
      clear hz2 hd2 hm hp1'
      obtain ⟨w7, e7⟩ : ∃ w7, w7 = wr.alloc (Obj.cells #[Value.int .i64 2] 3) := ⟨_, rfl⟩
      obtain ⟨D7, b7⟩ := lit_dig (k := 2) (by omega) (by omega) rfl e7
      go_wp2_with fail
      refine (bit0_dig hd).mono ?_
      rintro e w6 ⟨rfl, rfl⟩
      rw [Hm.out]
      go_wp2_with fail
      rw [← e7]
      clear e7
      refine (parted_dig (hd.up b7) D7 (by omega) (by omega) (by omega)).mono ?_
      rintro e w8 ⟨A8, m8, c8, A9, m9, c9, qs8, rs8, rfl, l8, l9, D8, D9, b8⟩
      rw [Hd2.out] at D8
      have b78 := bthen b7 b8
      have HT' : Hid (Tw w w8 A1 A5 A8 m1 c1 m5 c5 m8 c8 N (s + 1) ds1 ds5 qs8 ∧ Dig w8 (some ⟨po, 0, none⟩) 1 1 1 [1]) :=
        ⟨⟨Htw.out.m.up b78, Htw.out.l.up b78, D8, Hz2.out, bthen Htw.out.b b78⟩, HDo.up b78⟩
      go_wp2_with fail
      go_roundw
      case rel => exact ⟨s + 1, m8, c8, A8, qs8, hsl2, by simp, rfl, by omega, HT'⟩
      case measure => simp [intOf]; omega
    · have hst := tz_unique hp1 Htw.out.z hm
      have Hm := Lib.hid hm
      have Hst := Lib.hid hst
      clear hm hst hp1'
      have htb := Htb.out
      rw [← Hst.out] at htb
      have Htb' := Lib.hid htb
      clear htb Htb
      obtain ⟨w7, e7⟩ : ∃ w7, w7 = wr.alloc (Obj.cells #[Value.int .u64 (base : Int)] 23) := ⟨_, rfl⟩
      obtain ⟨D7, b7⟩ := lit_limb hbl rfl e7
      go_wp2_with fail
      refine (bit0_dig hd).mono ?_
      rintro e w6 ⟨rfl, rfl⟩
      rw [Hm.out]
      go_wp2_with fail
      rw [← e7]
      clear e7
      refine (dig_of D7 (v := base) (by simp [val]) (by omega)).mono ?_
      rintro e w8 ⟨A8, m8, c8, ds8, rfl, l8, D8, b8⟩
      have b78 := bthen b7 b8
      go_wp2_with fail
      refine (parted_dig D8 (Htw.out.m.up b78) (by omega) (by omega) (by omega)).mono ?_
      rintro e w9 ⟨A9, m9, c9, A10, m10, c10, qs9, rs9, rfl, l9, l10, D9, D10, b9⟩
      have b79 := bthen b78 b9
      have hlt10 := Nat.mod_lt base (show 0 < N by omega)
      rcases Nat.eq_zero_or_pos (base % N) with hb0 | hb0
      · have hz := D10.nil hb0
        subst hz
        have htb := Htb'.out
        rw [if_pos hb0] at htb
        subst htb
        have B9 := bthen Htw.out.b b79
        clear hb0 hlt10
        go_wp2_with fail
        go_ret
        exact ⟨rfl, B9⟩
      · have hz := D10.pos hb0
        have htb := Htb'.out
        rw [if_neg (by omega)] at htb
        have Htb2 := Lib.hid htb
        clear htb Htb'
        have hzz : ((m10 : Int) == 0) = false := by simp; omega
        go_wp2_with fail
        refine (power_dig D10 (hd.up b79) (Htw.out.m.up b79) (by omega) (by omega) hlt10).mono ?_
        rintro e w10 ⟨A11, m11, c11, ds11, rfl, l11, D11, b10⟩
        have b710 := bthen b79 b10
        have hx0l := Nat.mod_lt ((base % N) ^ ((N - 1) / 2 ^ s)) (show 0 < N by omega)
        generalize (base % N) ^ ((N - 1) / 2 ^ s) % N = x0 at *
        go_wp2_with fail
        refine (cmp_dig D11 (HDo.up b710) (by omega) (by omega)).mono ?_
        rintro e w11 ⟨rfl, rfl⟩
        by_cases hone : x0 = 1
        · subst hone
          have htb := Htb2.out
          have htb' : false = tb := by simpa using htb
          subst htb'
          have B10 := bthen Htw.out.b b710
          clear htb Htb2
          rw [sgn_self]
          go_wp2_with fail
          go_ret
          exact ⟨rfl, B10⟩
        · have hsg := sgn_ne hone
          have htb := Htb2.out
          rw [decide_eq_true hone, Bool.true_and] at htb
          have Htb3 := Lib.hid htb
          have hsg' : (sgn (x0 : Int) ((1 : Nat) : Int) == 0) = false := by simpa using hsg
          clear htb Htb2 hsg hone
          generalize sgn (x0 : Int) ((1 : Nat) : Int) = sg at *
          have HX : Hid (Tx w w10 A1 A5 A11 m1 c1 m5 c5 m11 c11 N x0 0 ds1 ds5 ds11) := ⟨Htw.out.m.up b710, Htw.out.l.up b710, D11, by simp [among], bthen Htw.out.b b710⟩
          clear D11 D10 D9 D8 D7 Htw HDo b710 b79 b78 b7 b8 b9 b10 hd
          go_wp2_with fail
          go_loopw [12, 13] (fun vx vi wq => ∃ (i lx cx : Nat) (Ax : Option Addr) (dx : List Nat), i ≤ s ∧ vi = .int .i64 (i : Int) ∧ vx = .slice Ax lx cx ∧ lx ≤ m1 ∧ Hid (Tx w wq A1 A5 Ax m1 c1 m5 c5 lx cx N x0 i ds1 ds5 dx)) (fun _ vi _ => s - (intOf vi).toNat)
          case atStart => exact ⟨0, m11, c11, A11, ds11, by omega, rfl, rfl, by omega, HX⟩
          case round =>
            clear HX
            obtain ⟨i, lx, cx, Ax, dx, hi, rfl, rfl, hlx, HX⟩ := hrel
            have hxl := sqs_lt hx0l i
            have hX := HX.out
            have hac := among_succ x0 N (N - 1) i
            rw [hX.a, Bool.false_or] at hac
            have hsq : sqs x0 N (i + 1) = sqs x0 N i * sqs x0 N i % N := rfl
            have Hac := Lib.hid hac
            have Hsq := Lib.hid hsq
            clear hac hsq HX
            by_cases hlt : i < s
            · have hdx := hX.x
              have hdl := hX.l
              have hdm := hX.m
              have hbb := hX.b
              clear hX
              generalize sqs x0 N i = x at *
              go_wp2_with fail
              refine (cmp_dig hdx hdl (by omega) (by omega)).mono ?_
              rintro e w12 ⟨rfl, rfl⟩
              by_cases heq : x = N - 1
              · have hal : among x0 N (N - 1) s = true := by
                  have h1 := Hac.out
                  rw [heq] at h1
                  simp at h1
                  unfold among at h1 ⊢
                  rw [List.any_eq_true] at h1 ⊢
                  obtain ⟨j, hj, hje⟩ := h1
                  exact ⟨j, by simp at hj ⊢; omega, hje⟩
                have htb := Htb3.out
                rw [hal] at htb
                have htb' : false = tb := by simpa using htb
                subst htb'
                clear htb Htb3 hal
                rw [heq, sgn_self]
                go_wp2_with fail
                go_ret
                exact ⟨rfl, hbb⟩
              · have hsg2 := sgn_ne heq
                have hsg2' : (sgn (x : Int) ((N - 1 : Nat) : Int) == 0) = false := by simpa using hsg2
                have Hac2 : Hid (among x0 N (N - 1) (i + 1) = false) := by
                  show _ = _
                  rw [Hac.out]; simpa using heq
                clear hsg2 Hac heq
                generalize sgn (x : Int) ((N - 1 : Nat) : Int) = sg2 at *
                go_wp2_with fail
                refine (times_dig hdx hdx hdm (by omega) (by omega) hxl).mono ?_
                rintro e w13 ⟨A13, m13, c13, ds13, rfl, l13, D13, b13⟩
                rw [← Hsq.out] at D13
                have HX' : Hid (Tx w w13 A1 A5 A13 m1 c1 m5 c5 m13 c13 N x0 (i + 1) ds1 ds5 ds13) := ⟨hdm.up b13, hdl.up b13, D13, Hac2.out, bthen hbb b13⟩
                go_wp2_with fail
                go_roundw
                case rel => exact ⟨i + 1, m13, c13, A13, ds13, hlt, by simp, rfl, by omega, HX'⟩
                case measure => simp [intOf]; omega
            · have his : i = s := by omega
              subst his
              have htb := Htb3.out
              rw [hX.a] at htb
              have htb' : true = tb := by simpa using htb
              subst htb'
              have hbb := hX.b
              clear htb Htb3 hX
              go_wp2_with fail
              go_ret
              exact ⟨rfl, hbb⟩
theorem rtells_any {w : World} {A : Option Addr} {n c : Nat} {xs : List Nat} (h : Nt w w.heap.size A n c xs) (hn : n ≤ 10000) (base : Nat) (hbl : base < 18446744073709551616) :
    Calls Tryz.prog 96 #[.slice A n c, .int .u64 (base : Int)] w fun e w' => e = .returned (.bool (tellsN (val 18446744073709551616 xs) base)) ∧ Below w.heap.size w w' := by
  rcases Nat.lt_or_ge 2 (val 18446744073709551616 xs) with h2 | h2
  · rcases Nat.mod_two_eq_zero_or_one (val 18446744073709551616 xs) with hm | hm
    · exact rtells_even h (by omega) base h2 hm
    · exact rtells_odd h hn base hbl h2 hm
  · exact rtells_small h (by omega) base h2
end Go.Proofs.YtkhlmcknbangfaaGreatDoor
namespace Go.Proofs.YtkhlmcknbangfaaGreatDoor
open Go.RowKit
set_option linter.unusedVariables false
set_option maxRecDepth 100000

theorem any_take_succ {f : Nat → Bool} {bs : List Nat} {k : Nat} (hk : k < bs.length) (h : (bs.take k).any f = false) : (bs.take (k + 1)).any f = f (bs.getD k 0) := by
  rw [List.take_add_one, List.any_append, h, Bool.false_or]
  simp [List.getD, List.getElem?_eq_getElem hk]
theorem any_of_take {f : Nat → Bool} {bs : List Nat} {k : Nat} (h : (bs.take k).any f = true) : bs.any f = true := by
  rw [List.any_eq_true] at h ⊢
  obtain ⟨x, hx, hf⟩ := h
  exact ⟨x, List.mem_of_mem_take hx, hf⟩

set_option maxHeartbeats 4000000 in
theorem rprime_any {w : World} {A A2 : Option Addr} {n c nb cb : Nat} {xs bs : List Nat} (h : Nt w w.heap.size A n c xs) (hB : Nt w w.heap.size A2 nb cb bs) (hn : n ≤ 10000) (hnb : nb ≤ 1099511627776) :
    Calls Tryz.prog 36 #[.slice A n c, .slice A2 nb cb] w fun e w' => e = .returned (.bool (primeN (val 18446744073709551616 xs) bs)) ∧ Below w.heap.size w w' := by
  obtain ⟨N, hN⟩ : ∃ N, val 18446744073709551616 xs = N := ⟨_, rfl⟩
  obtain ⟨b, hbe⟩ : ∃ b, primeN N bs = b := ⟨_, rfl⟩
  rw [hN, hbe]
  unfold primeN at hbe
  have Hb := Lib.hid hbe
  clear hbe
  have hr := h.rooms
  have hr2 := hB.rooms
  go_enter Tryz.func36, Tryz.ntmps36
  go_wp2_with fail
  refine (dig_of h hN (by omega)).mono ?_
  rintro e w1 ⟨A1, m1, c1, ds1, rfl, l1, D1, b1⟩
  obtain ⟨w2, e2⟩ : ∃ w2, w2 = w1.alloc (Obj.cells #[Value.int .i64 2] 3) := ⟨_, rfl⟩
  obtain ⟨D2, b2⟩ := lit_dig (k := 2) (by omega) (by omega) rfl e2
  have B2 := bthen b1 b2
  go_wp2_with fail
  rw [← e2]
  clear e2
  refine (cmp_dig (D1.up b2) D2 (by omega) (by omega)).mono ?_
  rintro e w3 ⟨rfl, rfl⟩
  rcases Nat.lt_or_ge N 2 with hlt | hge
  · have hb := Hb.out
    rw [decide_eq_false (by omega), Bool.false_and] at hb
    subst hb
    rw [sgn_lt hlt]
    go_wp2_with fail
    go_ret
    exact ⟨rfl, B2⟩
  · have hb := Hb.out
    rw [decide_eq_true hge, Bool.true_and] at hb
    have Hb2 := Lib.hid hb
    have hs : ¬ sgn (N : Int) ((2 : Nat) : Int) < 0 := by
      unfold sgn
      split
      · omega
      · split <;> omega
    generalize sgn (N : Int) ((2 : Nat) : Int) = s at *
    clear hb Hb D1 D2 b1 b2
    go_wp2_with fail
    go_loopw [5] (fun i wr => ∃ k : Nat, k ≤ nb ∧ i = .int .i64 (k : Int) ∧ Hid ((bs.take k).any (tellsN N) = false) ∧ Below w.heap.size w wr) (fun i _ => nb - (intOf i).toNat)
    case atStart => exact ⟨0, Nat.zero_le _, rfl, by simp [Hid], B2⟩
    case round =>
      clear B2
      obtain ⟨k, hk, rfl, hA, B⟩ := hrel
      by_cases hlt : k < nb
      · obtain ⟨bb, off, rfl, hbb, hx⟩ := (hB.up B).at_ hlt
        have hxl := hB.lim.get (by omega) k
        have hat := any_take_succ (f := tellsN N) (bs := bs) (k := k) (by rw [hB.len]; exact hlt) hA.out
        generalize bs.getD k 0 = x at *
        have hcall := rtells_any (h.up B) hn x hxl
        rw [hN] at hcall
        obtain ⟨t, ht⟩ : ∃ t, tellsN N x = t := ⟨_, rfl⟩
        rw [ht] at hat hcall
        have Hat := Lib.hid hat
        have Hcall := Lib.hid hcall
        clear hat hcall ht
        go_wp2_with fail
        refine Hcall.out.mono ?_
        rintro e w4 ⟨rfl, b4⟩
        have B4 := bthen B b4
        cases t with
        | true =>
          have hb := Hb2.out
          rw [any_of_take Hat.out] at hb
          have hb' : false = b := by simpa using hb
          subst hb'
          clear hb Hb2
          go_wp2_with fail
          go_ret
          exact ⟨rfl, B4⟩
        | false =>
          go_wp2_with fail
          go_roundw
          case rel => exact ⟨k + 1, hlt, by simp, Hat.out, B4⟩
          case measure => simp [intOf]; omega
      · have hkn : k = nb := by omega
        have hb := Hb2.out
        have ha := hA.out
        rw [List.take_of_length_le (by rw [hB.len]; omega)] at ha
        rw [ha] at hb
        have hb' : true = b := by simpa using hb
        subst hb'
        clear hb Hb2 ha hA
        go_wp2_with fail
        go_ret
        exact ⟨rfl, B⟩


end Go.Proofs.YtkhlmcknbangfaaGreatDoor
