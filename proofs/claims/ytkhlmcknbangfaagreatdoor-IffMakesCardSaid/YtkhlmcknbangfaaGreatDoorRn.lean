/- Rows of ints that a call builds by append; a row of binary digits that is read. clepsydraref01.digits: the binary digits of a number. clepsydraref01.number: the number of a row of binary digits. append of a row that came in; copied; clepsydraref01.moved and sum. clepsydraref01.Mul, Add. clepsydraref01.less, take, Sub, Cmp. clepsydraref01.Sub, Cmp. clepsydraref01.Trim, Bits, Bit, Shift. clepsydraref01.Read, Write; string of some bytes. -/
import Derived.Test.YtkhlmcknbangfaaGreatDoorFew
import Derived.OwnWalk
import Derived.Test.YtkhlmcknbangfaaGreatDoorMaths
import Derived.Test.YtkhlmcknbangfaaGreatDoorRd
import Derived.Laws.BytesArg
namespace Go.Proofs.YtkhlmcknbangfaaGreatDoor.Rn
set_option linter.unusedSimpArgs false
set_option linter.unusedVariables false
open Go.RowKit
set_option linter.unusedVariables false

/-- the cells of a row of ints -/
def is (xs : List Nat) : List Value := xs.map fun x : Nat => .int .i64 (x : Int)
theorem is_append (xs ys : List Nat) : is (xs ++ ys) = is xs ++ is ys := by simp [is]
theorem length_is (xs : List Nat) : (is xs).length = xs.length := by simp [is]

/-- a row of ints of the call's own, blocks from base on -/
def Gi (w : World) (base : Nat) (A : Option Addr) (n c : Nat) (xs : List Nat) : Prop := xs.length = n ∧ w.ownsRow base 3 1 (.slice A n c) n (is xs)
/-- a row of limbs of the call's own -/
def Gu (w : World) (base : Nat) (A : Option Addr) (n c : Nat) (xs : List Nat) : Prop := xs.length = n ∧ w.ownsRow base 23 1 (.slice A n c) n (us xs)

theorem Gi.nil (w : World) (base : Nat) : Gi w base none 0 0 [] := ⟨rfl, World.ownsRow_nil w base 3 1⟩
theorem Gu.nil (w : World) (base : Nat) : Gu w base none 0 0 [] := ⟨rfl, World.ownsRow_nil w base 23 1⟩
theorem own_shape {w : World} {base e n : Nat} {v : Value} {xs : List Value} (h : w.ownsRow base e 1 v n xs) : ∃ A c, v = .slice A n c := by
  rcases h.2 with ⟨rfl, rfl⟩ | ⟨g, cap, cur, rfl, _⟩
  · exact ⟨_, _, rfl⟩
  · exact ⟨_, _, rfl⟩

theorem Tryz.info3 : (Tryz.prog.info? 3).map (fun i => (i.zero, i.size, i.bytes)) = some (some (.int .i64 0), 1, 8) := by kernel_rfl

/-- one more int -/
theorem wpList_app_i (w : World) {ops : Array Oper} {rest : List Oper} {o : Oper} {a : Act} {Q : Exit → Act → World → Prop} (hgd : o.guard = none) (s x : Operand)
    (ho : o.op = .call { callee := .builtin .append, args := #[s, x], argTypes := #[99, 99] }) {base n c g y : Nat} {A : Option Addr} {xs : List Nat} {w0 : World}
    (hs : a.eval s = .slice A n c) (hown : Gi w base A n c xs) (hx : a.eval x = .slice (some ⟨g, 0, none⟩) 1 1) (hc : w.cell? ⟨g, 0, none⟩ = some (.int .i64 (y : Int)))
    (hn : n ≤ 1099511627776) (hb : Below base w0 w) (hbase : base ≤ w.heap.size)
    (h : ∀ A' c' w', Gi w' base A' (n + 1) c' (xs ++ [y]) → Below base w0 w' → wpList Tryz.prog ops Q rest (a.put o.dst (.slice A' (n + 1) c')) w') : wpList Tryz.prog ops Q (o :: rest) a w := by
  obtain ⟨i0, hi, hz0, hz1, hz2⟩ := info_parts Tryz.info3
  refine wpList_append_own w hgd s x 99 ho base 3 i0 (.int .i64 0) 1 8 Tryz.underlying99 hi hz0 hz1 hz2 rfl (by decide) _ n (is xs) hs hown.2 ⟨g, 0, none⟩ 1 1 [.int .i64 (y : Int)] hx rfl ?_ ?_ (by unfold maxLen; omega) (by omega) hbase ?_
  · intro j u hj
    match j, hj with
    | 0, hj => simp at hj; subst hj; simpa [Addr.add] using hc
  · intro u hu; simp at hu; subst hu; rfl
  · intro v' w' hown' hgrow _
    obtain ⟨A', c', rfl⟩ := own_shape hown'
    refine h A' c' w' ⟨by simp [hown.1], by rw [is_append]; exact hown'⟩ (hb.grown hgrow hbase fun k hk => (hown.2.lt k hk).1)
/-- one more limb -/
theorem wpList_app_u (w : World) {ops : Array Oper} {rest : List Oper} {o : Oper} {a : Act} {Q : Exit → Act → World → Prop} (hgd : o.guard = none) (s x : Operand)
    (ho : o.op = .call { callee := .builtin .append, args := #[s, x], argTypes := #[22, 22] }) {base n c g y : Nat} {A : Option Addr} {xs : List Nat} {w0 : World}
    (hs : a.eval s = .slice A n c) (hown : Gu w base A n c xs) (hx : a.eval x = .slice (some ⟨g, 0, none⟩) 1 1) (hc : w.cell? ⟨g, 0, none⟩ = some (.int .u64 (y : Int)))
    (hn : n ≤ 1099511627776) (hb : Below base w0 w) (hbase : base ≤ w.heap.size)
    (h : ∀ A' c' w', Gu w' base A' (n + 1) c' (xs ++ [y]) → Below base w0 w' → wpList Tryz.prog ops Q rest (a.put o.dst (.slice A' (n + 1) c')) w') : wpList Tryz.prog ops Q (o :: rest) a w := by
  obtain ⟨i0, hi, hz0, hz1, hz2⟩ := info_parts Tryz.info23
  refine wpList_append_own w hgd s x 22 ho base 23 i0 (.int .u64 0) 1 8 Tryz.underlying22 hi hz0 hz1 hz2 rfl (by decide) _ n (us xs) hs hown.2 ⟨g, 0, none⟩ 1 1 [.int .u64 (y : Int)] hx rfl ?_ ?_ (by unfold maxLen; omega) (by omega) hbase ?_
  · intro j u hj
    match j, hj with
    | 0, hj => simp at hj; subst hj; simpa [Addr.add] using hc
  · intro u hu; simp at hu; subst hu; rfl
  · intro v' w' hown' hgrow _
    obtain ⟨A', c', rfl⟩ := own_shape hown'
    refine h A' c' w' ⟨by simp [hown.1], by rw [us_append]; exact hown'⟩ (hb.grown hgrow hbase fun k hk => (hown.2.lt k hk).1)

/-- the slice value '.slice A n c' reads as the digits xs, each below 2; it lies below block B -/
structure Ni (w : World) (B : Nat) (A : Option Addr) (n c : Nat) (xs : List Nat) : Prop where
  len : xs.length = n
  cap : n ≤ c
  room : c ≤ maxLen
  lim : Lim 2 xs
  cell : 0 < n → ∃ b off, A = some ⟨b, off, none⟩ ∧ b < B ∧ ∀ j x : Nat, xs[j]? = some x → w.cell? ⟨b, off + j, none⟩ = some (.int .i64 (x : Int))
theorem Ni.at_ {w : World} {B : Nat} {A : Option Addr} {n c : Nat} {xs : List Nat} (h : Ni w B A n c xs) {k : Nat} (hk : k < n) :
    ∃ b off, A = some ⟨b, off, none⟩ ∧ b < B ∧ w.cell? ⟨b, off + k, none⟩ = some (.int .i64 ((xs.getD k 0 : Nat) : Int)) := by
  obtain ⟨b, off, e, hb, hc⟩ := h.cell (by omega)
  have hl : k < xs.length := by rw [h.len]; exact hk
  refine ⟨b, off, e, hb, ?_⟩
  have := hc k xs[k] (List.getElem?_eq_getElem hl)
  rw [this]
  simp [List.getD, List.getElem?_eq_getElem hl]
theorem Ni.keep {w w' : World} {B : Nat} {A : Option Addr} {n c : Nat} {xs : List Nat} (h : Ni w B A n c xs) (hk : ∀ p : Addr, p.block < B → w'.cell? p = w.cell? p) : Ni w' B A n c xs :=
  ⟨h.len, h.cap, h.room, h.lim, fun hn => by
    obtain ⟨b, off, e, hb, hc⟩ := h.cell hn
    exact ⟨b, off, e, hb, fun j x hx => (hk _ hb).trans (hc j x hx)⟩⟩
theorem Ni.more {w : World} {B B' : Nat} {A : Option Addr} {n c : Nat} {xs : List Nat} (h : Ni w B A n c xs) (hB : B ≤ B') : Ni w B' A n c xs :=
  ⟨h.len, h.cap, h.room, h.lim, fun hn => by
    obtain ⟨b, off, e, hb, hc⟩ := h.cell hn
    exact ⟨b, off, e, by omega, hc⟩⟩
theorem Ni.below {w w' : World} {B : Nat} {A : Option Addr} {n c : Nat} {xs : List Nat} (h : Ni w B A n c xs) (hb : Below B w w') : Ni w' B A n c xs := h.keep fun _ hp => hb.cell hp
theorem Ni.up {w w' : World} {A : Option Addr} {n c : Nat} {xs : List Nat} (h : Ni w w.heap.size A n c xs) (hb : Below w.heap.size w w') : Ni w' w'.heap.size A n c xs := (h.below hb).more hb.size
theorem Ni.dr {w : World} {A : Option Addr} {n c : Nat} {xs : List Nat} (h : Ni w w.heap.size A n c xs) (d : Nat) : Ni (w.drewN d) (w.drewN d).heap.size A n c xs := ⟨h.len, h.cap, h.room, h.lim, h.cell⟩
theorem Ni.rooms {w : World} {B : Nat} {A : Option Addr} {n c : Nat} {xs : List Nat} (h : Ni w B A n c xs) : n ≤ 9223372036854775807 ∧ c ≤ 9223372036854775807 := by
  have := h.cap
  have hr := h.room
  unfold maxLen at hr
  omega
theorem Gi.ni {w : World} {base n c : Nat} {A : Option Addr} {xs : List Nat} (h : Gi w base A n c xs) (hx : Lim 2 xs) : Ni w w.heap.size A n c xs := by
  obtain ⟨hl, ho⟩ := h
  rcases ho.2 with ⟨e, rfl⟩ | ⟨g, cap, cur, e, hg, hh, hnc, hcm, hsz, htk⟩
  · injection e with e1 e2 e3
    subst e1; subst e3
    exact ⟨hl, Nat.le_refl _, Nat.zero_le _, hx, fun h => absurd h (Nat.lt_irrefl _)⟩
  · injection e with e1 e2 e3
    subst e1; subst e3
    refine ⟨hl, hnc, hcm, hx, fun _ => ⟨g, 0, rfl, ho.lt g rfl |>.2, fun j x hj => ?_⟩⟩
    have := ho.cells (g := g) rfl j (.int .i64 (x : Int)) (by simp [is, hj])
    by_cases hj0 : j = 0
    · subst hj0; simpa [Addr.add] using this
    · simpa [Addr.add, hj0] using this

/-! clepsydraref01.cut, at -/
set_option maxHeartbeats 400000 in
theorem rcut_any {w : World} {B : Nat} {A : Option Addr} {n c : Nat} {xs : List Nat} (h : Ni w B A n c xs) :
    Calls Tryz.prog 146 #[.slice A n c] w fun e w' => e = .returned (.slice A (tl xs n) c) ∧ w = w' := by
  have hc := h.cap
  have hr := h.rooms
  go_enter Tryz.func146, Tryz.ntmps146
  go_wp2
  go_loop [3] (fun i => ∃ k : Nat, k ≤ n ∧ i = .int .i64 k ∧ Hid (tl xs k = tl xs n)) (fun i => (intOf i).toNat)
  case atStart => exact ⟨n, Nat.le_refl _, rfl, rfl⟩
  case round =>
    obtain ⟨k, hk, rfl, hT⟩ := hrel
    by_cases hk0 : k = 0
    · subst hk0
      have ht : tl xs n = 0 := hT.symm
      go_wp2
      go_ret
      exact ⟨rfl, rfl⟩
    · obtain ⟨j, rfl⟩ : ∃ j, k = j + 1 := ⟨k - 1, by omega⟩
      obtain ⟨b, off, rfl, hb, hcell⟩ := h.at_ (k := j) (by omega)
      go_wp2
      · go_round
        case rel =>
          refine ⟨j, by omega, rfl, ?_⟩
          have hz : xs.getD j 0 = 0 := by
            have : ((xs[j]?.getD 0 : Nat) : Int) = 0 := by simpa using (by assumption : (((xs[j]?.getD 0 : Nat) : Int) == 0) = true)
            simpa [List.getD] using this
          have := hT.out
          rw [tl, if_pos hz] at this
          exact this
        case measure => simp [intOf]
      · have hz : ¬ xs.getD j 0 = 0 := by
          have : ¬ ((xs[j]?.getD 0 : Nat) : Int) = 0 := by simpa using (by assumption : (((xs[j]?.getD 0 : Nat) : Int) == 0) = false)
          simpa [List.getD] using this
        have ht := hT.out
        rw [tl, if_neg hz] at ht
        go_ret
        rw [← ht]
        exact ⟨rfl, rfl⟩
theorem rcut_ni {w : World} {B : Nat} {A : Option Addr} {n c : Nat} {xs : List Nat} (h : Ni w B A n c xs) :
    Calls Tryz.prog 146 #[.slice A n c] w fun e w' => ∃ m, e = .returned (.slice A m c) ∧ w = w' ∧ m ≤ n ∧ Ni w B A m c (cutL xs) :=
  (rcut_any h).mono fun e w' ⟨he, hw⟩ => ⟨tl xs n, he, hw, tl_le _ _, by
    have hl := h.len
    have ht := tl_le xs n
    exact ⟨by rw [length_cutL, hl], Nat.le_trans ht h.cap, h.room, lim_cutL h.lim, fun h0 => by
      obtain ⟨b, off, e, hb, hcell⟩ := h.cell (by omega)
      refine ⟨b, off, e, hb, fun j x hx => hcell j x ?_⟩
      unfold cutL at hx
      rw [List.getElem?_take] at hx
      split at hx
      · exact hx
      · cases hx⟩⟩
theorem rat_any {w : World} {B : Nat} {A : Option Addr} {n c : Nat} {xs : List Nat} (h : Ni w B A n c xs) (i : Int) :
    Calls Tryz.prog 147 #[.slice A n c, .int .i64 i] w fun e w' => e = .returned (.int .i64 ((if i < 0 then 0 else xs.getD i.toNat 0 : Nat) : Int)) ∧ w = w' := by
  have hr := h.rooms
  have hl := h.len
  by_cases h0 : i < 0
  · rw [if_pos h0]
    go_enter Tryz.func147, Tryz.ntmps147
    go_wp2
    go_ret
    exact ⟨rfl, rfl⟩
  · rw [if_neg h0]
    obtain ⟨k, rfl⟩ := Int.eq_ofNat_of_zero_le (show 0 ≤ i by omega)
    rw [Int.toNat_natCast]
    have h0' : (0 : Int) ≤ (k : Int) := by omega
    by_cases hk : k < n
    · obtain ⟨b, off, rfl, hb, hcell⟩ := h.at_ hk
      clear hl h0
      go_enter Tryz.func147, Tryz.ntmps147
      go_wp2
      go_ret
      exact ⟨by simp, rfl⟩
    · have hz : xs.getD k 0 = 0 := by simp [List.getD, List.getElem?_eq_none (show xs.length ≤ k by omega)]
      rw [hz]
      clear hl hz h0
      have hk' : n ≤ k := by omega
      go_enter Tryz.func147, Tryz.ntmps147
      go_wp2
      go_ret
      exact ⟨rfl, rfl⟩

/-- the binary digits of a limb, the least first -/
def lbits (x : Nat) : Nat → List Nat
  | 0 => []
  | k + 1 => lbits x k ++ [x / 2 ^ k % 2]
theorem length_lbits (x : Nat) : ∀ k, (lbits x k).length = k
  | 0 => rfl
  | k + 1 => by simp [lbits, length_lbits x k]
theorem lim_lbits (x : Nat) : ∀ k, Lim 2 (lbits x k)
  | 0 => Lim.nil _
  | k + 1 => (lim_lbits x k).append (Lim.one (Nat.mod_lt _ (by omega)))
theorem val_lbits (x : Nat) : ∀ k, val 2 (lbits x k) = x % 2 ^ k
  | 0 => by simp [lbits, val, Nat.mod_one]
  | k + 1 => by rw [lbits, val_snoc, val_lbits x k, length_lbits, Nat.pow_succ, Nat.mod_mul]
end Go.Proofs.YtkhlmcknbangfaaGreatDoor.Rn
namespace Go.Proofs.YtkhlmcknbangfaaGreatDoor.Rn
open Go.RowKit
set_option linter.unusedVariables false

theorem cell_new (w : World) (v : Value) (t : TypeId) : (w.alloc (.cells #[v] t)).cell? ⟨w.heap.size, 0, none⟩ = some v := by
  rw [cell_of_row _ _ _ _ _ _ (heap_alloc_new w _)]
  rfl
theorem Gi.alloc {w : World} {base n c : Nat} {A : Option Addr} {xs : List Nat} (h : Gi w base A n c xs) (o : Obj) : Gi (w.alloc o) base A n c xs := ⟨h.1, h.2.alloc o⟩
theorem Gu.alloc {w : World} {base n c : Nat} {A : Option Addr} {xs : List Nat} (h : Gu w base A n c xs) (o : Obj) : Gu (w.alloc o) base A n c xs := ⟨h.1, h.2.alloc o⟩

/-- what a row of digits hands back -/
def RetI (N : Nat) (w : World) (e : Ending) (w' : World) : Prop := ∃ A n c ds, e = .returned (.slice A n c) ∧ Ni w' w'.heap.size A n c ds ∧ Trm ds ∧ val 2 ds = N ∧ Below w.heap.size w w'

set_option maxHeartbeats 2000000 in
theorem digits_any {w : World} {A : Option Addr} {n c : Nat} {xs : List Nat} (h : Nt w w.heap.size A n c xs) (hn : n ≤ 1099511627) : Calls Tryz.prog 92 #[.slice A n c] w (RetI (val 18446744073709551616 xs) w) := by
  have hr := h.rooms
  have Hlen := Lib.hid h.len
  go_enter Tryz.func92, Tryz.ntmps92
  go_wp2
  go_loopw [3, 4] (fun v i wr => ∃ (j : Nat) (A' : Option Addr) (n' c' : Nat) (ds : List Nat), j ≤ n ∧ i = .int .i64 j ∧ v = .slice A' n' c' ∧ Hid (n' = 64 * j) ∧ Gi wr w.heap.size A' n' c' ds ∧ Lim 2 ds ∧ Below w.heap.size w wr ∧ Hid (val 2 ds = val 18446744073709551616 (xs.take j))) (fun _ i _ => n - (intOf i).toNat)
  case atStart => exact ⟨0, none, 0, 0, [], Nat.zero_le _, rfl, rfl, rfl, Gi.nil _ _, Lim.nil _, Below.refl _ _, by simp [Hid, val]⟩
  case round =>
    obtain ⟨j, A', n', c', ds, hj, rfl, rfl, hn', hG, hL, hB, hV⟩ := hrel
    by_cases hlt : j < n
    · obtain ⟨wo, rfl⟩ : ∃ wo : World, wo = wr := ⟨_, rfl⟩
      have hxl := h.lim.get (by omega) j
      have hxe : xs.getD j 0 = xs.getD j 0 := rfl
      obtain ⟨x, hx⟩ : ∃ x, xs.getD j 0 = x := ⟨_, rfl⟩
      have Hx := Lib.hid hx
      rw [hx] at hxl
      clear hx hxe
      go_wp2
      go_loopw [3, 5] (fun v i wi => ∃ (k : Nat) (A2 : Option Addr) (n2 c2 : Nat), k ≤ 64 ∧ i = .int .i64 k ∧ v = .slice A2 n2 c2 ∧ Hid (n2 = 64 * j + k) ∧ Gi wi w.heap.size A2 n2 c2 (ds ++ lbits x k) ∧ Below w.heap.size w wi) (fun _ i _ => 64 - (intOf i).toNat)
      case atStart => exact ⟨0, A', n', c', Nat.zero_le _, rfl, rfl, hn'.out, by simpa [lbits] using hG, hB⟩
      case round =>
        obtain ⟨k, A2, n2, c2, hk, rfl, rfl, hn2, hG2, hB2⟩ := hrel
        by_cases hlk : k < 64
        · obtain ⟨b, off, rfl, hb, hcell⟩ := (h.below hB2).at_ hlt
          rw [Hx.out] at hcell
          obtain ⟨y, hy⟩ : ∃ y, x / 2 ^ k % 2 = y := ⟨_, rfl⟩
          have ho := and_one x k hxl
          rw [hy] at ho
          have Hy := Lib.hid hy
          have hs := hB2.size
          have hn2b : n2 ≤ 1099511627776 := by have := hn2.out; omega
          clear hy
          go_wp2_with (refine wpList_app_i _ rfl _ _ rfl rfl (hG2.alloc _) rfl (cell_new _ _ _) hn2b (hB2.alloc hs _) (by simp; omega) ?_; intro A3 c3 w3 hG3 hB3)
          go_roundw
          case rel => exact ⟨k + 1, A3, n2 + 1, c3, by omega, by go_num, rfl, by show _ = _; have := hn2.out; omega, by rw [lbits, Hy.out, ← List.append_assoc]; exact hG3, hB3⟩
          case measure => simp [intOf]; omega
        · obtain rfl : k = 64 := by omega
          go_wp2
          go_roundw
          case rel =>
            refine ⟨j + 1, A2, n2, c2, ds ++ lbits x 64, by omega, by go_num, rfl, by show _ = _; have := hn2.out; omega, hG2, hL.append (lim_lbits x 64), hB2, ?_⟩
            show _ = _
            have hl : ds.length = 64 * j := by rw [hG.1]; exact hn'.out
            rw [val_append, val_lbits, hV.out, val_take_succ, Hx.out, hl, show (2 : Nat) ^ 64 = 18446744073709551616 from rfl, Nat.mod_eq_of_lt hxl, show (2 : Nat) ^ (64 * j) = 18446744073709551616 ^ j by rw [show (18446744073709551616 : Nat) = 2 ^ 64 from rfl, ← Nat.pow_mul]]
          case measure => simp [intOf]; omega
    · have hjn : j = n := by omega
      have hv := hV.out
      rw [hjn, List.take_of_length_le (by rw [Hlen.out]; exact Nat.le_refl _)] at hv
      have Hv := Lib.hid hv
      clear hv hjn
      go_wp2_with (go_at_call 146; refine (rcut_ni (hG.ni hL)).mono ?_; rintro e w' ⟨m, rfl, rfl, hm, hN⟩)
      go_ret
      exact ⟨_, _, _, _, rfl, hN, trm_cutL ds, by rw [val_cutL]; exact Hv.out, hB⟩
end Go.Proofs.YtkhlmcknbangfaaGreatDoor.Rn
namespace Go.Proofs.YtkhlmcknbangfaaGreatDoor.Rn
open Go.RowKit
set_option linter.unusedVariables false

theorem Gu.at_ {w : World} {base n c : Nat} {A : Option Addr} {xs : List Nat} (h : Gu w base A n c xs) {k : Nat} (hk : k < n) :
    ∃ g, A = some ⟨g, 0, none⟩ ∧ base ≤ g ∧ w.cell? ⟨g, k, none⟩ = some (.int .u64 ((xs.getD k 0 : Nat) : Int)) ∧ w.frozen? ⟨g, k, none⟩ = false := by
  obtain ⟨hl, ho⟩ := h
  rcases ho.2 with ⟨_, rfl⟩ | ⟨g, cap, cur, e, hg, _⟩
  · omega
  · injection e with e1 e2 e3
    subst e1; subst e3
    refine ⟨g, rfl, hg, ?_, ho.frozenAt k⟩
    rw [ho.cellAt k (by omega)]
    have hk2 : k < xs.length := by omega
    simp [us, List.getD, List.getElem?_eq_getElem hk2]
theorem Gu.set_ {w : World} {base n c g : Nat} {xs : List Nat} (h : Gu w base (some ⟨g, 0, none⟩) n c xs) (k y : Nat) : Gu (w.setCell ⟨g, k, none⟩ (.int .u64 (y : Int))) base (some ⟨g, 0, none⟩) n c (xs.set k y) := by
  refine ⟨by simp [h.1], ?_⟩
  have := (h.2.stored k (.int .u64 (y : Int))).1
  rwa [show us (xs.set k y) = (us xs).set k (.int .u64 (y : Int)) by simp [us, List.map_set]]
theorem Gu.nt {w : World} {base n c : Nat} {A : Option Addr} {xs : List Nat} (h : Gu w base A n c xs) (hx : Lim 18446744073709551616 xs) : Nt w w.heap.size A n c xs := by
  obtain ⟨hl, ho⟩ := h
  rcases ho.2 with ⟨e, rfl⟩ | ⟨g, cap, cur, e, hg, hh, hnc, hcm, hsz, htk⟩
  · injection e with e1 e2 e3
    subst e1; subst e3
    exact ⟨hl, Nat.le_refl _, Nat.zero_le _, hx, fun h => absurd h (Nat.lt_irrefl _)⟩
  · injection e with e1 e2 e3
    subst e1; subst e3
    refine ⟨hl, hnc, hcm, hx, fun _ => ⟨g, 0, rfl, ho.lt g rfl |>.2, fun j x hj => ?_⟩⟩
    have := ho.cells (g := g) rfl j (.int .u64 (x : Int)) (by simp [us, hj])
    by_cases hj0 : j = 0
    · subst hj0; simpa [Addr.add] using this
    · simpa [Addr.add, hj0] using this

/-- what a number that is made by definition hands back -/
def RetN (N : Nat) (w : World) (e : Ending) (w' : World) : Prop := ∃ A n c xs, e = .returned (.slice A n c) ∧ Nt w' w'.heap.size A n c xs ∧ Trm xs ∧ val 18446744073709551616 xs = N ∧ Below w.heap.size w w'

theorem pow_two_limb (i : Nat) : 2 ^ i = 18446744073709551616 ^ (i / 64) * 2 ^ (i % 64) := by
  rw [show (18446744073709551616 : Nat) = 2 ^ 64 from rfl, ← Nat.pow_mul, ← Nat.pow_add, Nat.div_add_mod]
/-- one binary digit more -/
theorem bit_in {xs : List Nat} {i v : Nat} (hL : Lim 18446744073709551616 xs) (hi : i / 64 < xs.length) (hv : val 18446744073709551616 xs = v) (hlt : v < 2 ^ i) :
    xs.getD (i / 64) 0 + 2 ^ (i % 64) < 18446744073709551616 ∧ val 18446744073709551616 (xs.set (i / 64) (xs.getD (i / 64) 0 + 2 ^ (i % 64))) = v + 2 ^ i := by
  have hr : xs.getD (i / 64) 0 < 2 ^ (i % 64) := by
    rw [limb_of (by omega) hL, hv]
    rw [pow_two_limb] at hlt
    have h1 : v / 18446744073709551616 ^ (i / 64) < 2 ^ (i % 64) := by
      rw [Nat.div_lt_iff_lt_mul (Nat.pow_pos (by omega)), Nat.mul_comm]; exact hlt
    exact Nat.lt_of_le_of_lt (Nat.mod_le _ _) h1
  have hs : 2 ^ (i % 64) * 2 ≤ 18446744073709551616 := by
    rw [← Nat.pow_succ]
    exact Nat.le_trans (Nat.pow_le_pow_right (by omega) (show (i % 64).succ ≤ 64 by omega)) (by decide)
  refine ⟨by omega, ?_⟩
  have := val_set 18446744073709551616 xs (i / 64) (xs.getD (i / 64) 0 + 2 ^ (i % 64)) hi
  rw [Nat.mul_add, hv, ← pow_two_limb] at this
  omega
theorem trm_of_ge {xs : List Nat} (hL : Lim 18446744073709551616 xs) (h : 0 < xs.length → 18446744073709551616 ^ (xs.length - 1) ≤ val 18446744073709551616 xs) : Trm xs := by
  intro ys x e h0
  have hl : xs.length = ys.length + 1 := by rw [e]; simp
  have h1 := h (by omega)
  have h2 : Lim 18446744073709551616 ys := by rw [e] at hL; exact hL.left
  have h3 := val_lt h2
  rw [hl, e, val_snoc, h0, Nat.mul_zero, Nat.add_zero] at h1
  simp at h1
  omega

theorem two_lt {p : Nat} (hp : p < 64) : ∃ z : Nat, 2 ^ p = z ∧ IntKind.u64.wrap (2 ^ p) = (z : Int) ∧ IntKind.u64.wrap (1 * 2 ^ p) = (z : Int) := by
  have h : 2 ^ p < 18446744073709551616 := by
    rw [show (18446744073709551616 : Nat) = 2 ^ 64 from rfl]; exact Nat.pow_lt_pow_right (by omega) hp
  have e : ((2 : Int) ^ p) = ((2 ^ p : Nat) : Int) := by simp
  obtain ⟨z, hz⟩ : ∃ z, 2 ^ p = z := ⟨_, rfl⟩
  rw [hz] at h e
  refine ⟨z, hz, ?_, ?_⟩
  · rw [e, IntKind.wrap_u64]; omega
  · rw [Int.one_mul, e, IntKind.wrap_u64]; omega
/-- what holds behind a round, where the digit was 0 -/
theorem number_zero {w w3 : World} {j m q n3 c3 : Nat} {A3 : Option Addr} {es xs1 : List Nat} (hlt : j < m) (hq : j / 64 = q) (hG : Gu w3 w.heap.size A3 n3 c3 xs1) (hn3 : n3 = q + 1) (hL : Lim 18446744073709551616 xs1) (hB : Below w.heap.size w w3)
    (hV : val 18446744073709551616 xs1 = val 2 (es.take j)) (hd : es.getD j 0 = 0) :
    ∃ (j' : Nat) (A' : Option Addr) (n' c' : Nat) (xs : List Nat), j' ≤ m ∧ Value.int .i64 ((j : Int) + 1) = .int .i64 j' ∧ Value.slice A3 n3 c3 = .slice A' n' c' ∧ Hid (n' = (j' + 63) / 64) ∧ Gu w3 w.heap.size A' n' c' xs ∧ Lim 18446744073709551616 xs ∧ Below w.heap.size w w3 ∧ Hid (val 18446744073709551616 xs = val 2 (es.take j')) :=
  ⟨j + 1, A3, n3, c3, xs1, hlt, by simp, rfl, by show _ = _; omega, hG, hL, hB, by show _ = _; rw [val_take_succ, hd, hV]; simp⟩
theorem number_one {w w3 : World} {j m q p n3 c3 x z g : Nat} {es xs1 : List Nat} (hlt : j < m) (hq : j / 64 = q) (hp : j % 64 = p) (hz : 2 ^ p = z) (hG : Gu w3 w.heap.size (some ⟨g, 0, none⟩) n3 c3 xs1) (hg : w.heap.size ≤ g) (hn3 : n3 = q + 1) (hL : Lim 18446744073709551616 xs1) (hB : Below w.heap.size w w3)
    (hV : val 18446744073709551616 xs1 = val 2 (es.take j)) (hvj : val 2 (es.take j) < 2 ^ j) (hd : es.getD j 0 = 1) (hx : xs1.getD q 0 = x) :
    ∃ (j' : Nat) (A' : Option Addr) (n' c' : Nat) (xs : List Nat), j' ≤ m ∧ Value.int .i64 ((j : Int) + 1) = .int .i64 j' ∧ Value.slice (some ⟨g, 0, none⟩) n3 c3 = .slice A' n' c' ∧ Hid (n' = (j' + 63) / 64) ∧ Gu (w3.setCell ⟨g, q, none⟩ (.int .u64 ((x : Int) + (z : Int)))) w.heap.size A' n' c' xs ∧ Lim 18446744073709551616 xs ∧
      Below w.heap.size w (w3.setCell ⟨g, q, none⟩ (.int .u64 ((x : Int) + (z : Int)))) ∧ Hid (val 18446744073709551616 xs = val 2 (es.take j')) := by
  have hi := bit_in hL (show j / 64 < xs1.length by rw [hq, hG.1]; omega) hV hvj
  rw [hq, hp, hx, hz] at hi
  have hG3 := hG.set_ q (x + z)
  rw [show ((x + z : Nat) : Int) = (x : Int) + (z : Int) by simp] at hG3
  refine ⟨j + 1, _, n3, c3, xs1.set q (x + z), hlt, by simp, rfl, by show _ = _; omega, hG3, ?_, hB.setCell (by exact hg) _, ?_⟩
  · intro y hy
    rcases List.mem_or_eq_of_mem_set hy with hy | hy
    · exact hL y hy
    · omega
  · show _ = _
    rw [hi.2, val_take_succ, hd]; simp

set_option maxHeartbeats 800000 in
theorem number_any {w : World} {A : Option Addr} {n c : Nat} {ds : List Nat} (h : Ni w w.heap.size A n c ds) (hn : n ≤ 1099511627776) : Calls Tryz.prog 105 #[.slice A n c] w (RetN (val 2 ds) w) := by
  rw [← val_cutL 2 ds]
  have ht := trm_cutL ds
  obtain ⟨m, hm⟩ : ∃ m, m = tl ds n := ⟨_, rfl⟩
  have hmn : m ≤ n := by rw [hm]; exact tl_le _ _
  have hcut := rcut_any h
  rw [← hm] at hcut
  have Hcut := Lib.hid hcut
  have hN : Ni w w.heap.size A m c (cutL ds) := by
    refine ⟨by rw [length_cutL, h.len, hm], Nat.le_trans hmn h.cap, h.room, lim_cutL h.lim, fun h0 => ?_⟩
    obtain ⟨b, off, e, hb, hcell⟩ := h.cell (by omega)
    refine ⟨b, off, e, hb, fun j x hx => hcell j x ?_⟩
    unfold cutL at hx
    rw [List.getElem?_take] at hx
    split at hx
    · exact hx
    · cases hx
  clear hcut hm
  generalize cutL ds = es at *
  have hr := hN.rooms
  have Hlen := Lib.hid hN.len
  go_enter Tryz.func105, Tryz.ntmps105
  go_wp2_with (go_at_call 146; refine Hcut.out.mono ?_; rintro e w' ⟨rfl, rfl⟩)
  go_loopw [3, 4] (fun v i wr => ∃ (j : Nat) (A' : Option Addr) (n' c' : Nat) (xs : List Nat), j ≤ m ∧ i = .int .i64 j ∧ v = .slice A' n' c' ∧ Hid (n' = (j + 63) / 64) ∧ Gu wr w.heap.size A' n' c' xs ∧ Lim 18446744073709551616 xs ∧ Below w.heap.size w wr ∧ Hid (val 18446744073709551616 xs = val 2 (es.take j))) (fun _ i _ => m - (intOf i).toNat)
  case atStart => exact ⟨0, none, 0, 0, [], Nat.zero_le _, rfl, rfl, rfl, Gu.nil _ _, Lim.nil _, Below.refl _ _, by simp [Hid, val]⟩
  case round =>
    obtain ⟨j, A', n', c', xs, hj, rfl, rfl, hn', hG, hL, hB, hV⟩ := hrel
    by_cases hlt : j < m
    · obtain ⟨b, off, rfl, hb, hcellw⟩ := hN.at_ hlt
      have hd2 := hN.lim.get (by omega) j
      have hjl : j < es.length := by rw [Hlen.out]; exact hlt
      have hvj : val 2 (es.take j) < 2 ^ j := by
        have := val_lt (hN.lim.take j)
        rwa [List.length_take, Nat.min_eq_left (by omega)] at this
      obtain ⟨d, hd⟩ : ∃ d, es.getD j 0 = d := ⟨_, rfl⟩
      rw [hd] at hcellw hd2
      have hcell := (hB.cell (p := ⟨b, off + j, none⟩) hb).trans hcellw
      have Hd := Lib.hid hd
      have hs := hB.size
      have hn'b : n' ≤ 1099511627776 := by have := hn'.out; omega
      have em : (j : Int) % 64 = ((j % 64 : Nat) : Int) := by omega
      have ed : (j : Int) / 64 = ((j / 64 : Nat) : Int) := by omega
      obtain ⟨p, hp⟩ : ∃ p, j % 64 = p := ⟨_, rfl⟩
      obtain ⟨q, hq⟩ : ∃ q, j / 64 = q := ⟨_, rfl⟩
      rw [hp] at em
      rw [hq] at ed
      have hp64 : p < 64 := by omega
      have Hp := Lib.hid hp
      have Hq := Lib.hid hq
      clear hd hp hq hjl
      obtain ⟨z, hz, ez1, ez2⟩ := two_lt hp64
      have Hz := Lib.hid hz
      clear hz
      have hroom : ∀ ys : List Nat, Lim 18446744073709551616 ys → ys.length = q + 1 → val 18446744073709551616 ys = val 2 (es.take j) → ys.getD q 0 + z < 18446744073709551616 := fun ys h1 h2 h3 => by
        have := (bit_in h1 (show j / 64 < ys.length by rw [Hq.out]; omega) h3 hvj).1
        rwa [Hq.out, Hp.out, Hz.out] at this
      have Hroom := Lib.hid hroom
      have Hvj := Lib.hid hvj
      clear hroom hvj
      rcases Nat.eq_zero_or_pos p with hp0 | hp0
      · have hn3 : n' + 1 = q + 1 := by have := hn'.out; have := Hq.out; have := Hp.out; omega
        have hpz : ((p : Int) == 0) = true := by simp; omega
        clear hp0
        have Hn3 := Lib.hid hn3
        have hL1 : Lim 18446744073709551616 (xs ++ [0]) := hL.append (Lim.one (by omega))
        have HV1 : Hid (val 18446744073709551616 (xs ++ [0]) = val 2 (es.take j)) := by show _ = _; rw [val_snoc, hV.out]; simp
        have hqn : q < n' + 1 := by omega
        clear hn3
        rcases (show d = 0 ∨ d = 1 by omega) with rfl | rfl
        · go_wp2_with (refine wpList_app_u _ rfl _ _ rfl rfl (hG.alloc _) rfl (cell_new _ _ _) hn'b (hB.alloc hs _) (by simp; omega) ?_; intro A3 c3 w3 hG3 hB3; have hcell3 := (hB3.cell (p := ⟨b, off + j, none⟩) hb).trans hcellw)
          go_roundw
          case rel => exact number_zero hlt Hq.out hG3 Hn3.out hL1 hB3 HV1.out Hd.out
          case measure => simp [intOf]; omega
        · go_wp2_with (refine wpList_app_u _ rfl _ _ rfl rfl (hG.alloc _) rfl (cell_new _ _ _) hn'b (hB.alloc hs _) (by simp; omega) ?_; intro A3 c3 w3 hG3 hB3; have hcell3 := (hB3.cell (p := ⟨b, off + j, none⟩) hb).trans hcellw; obtain ⟨g, rfl, hg, hc3, hf3⟩ := hG3.at_ hqn; have hx3 := Hroom.out _ hL1 (by rw [hG3.1]; exact Hn3.out) HV1.out; obtain ⟨x, hx⟩ : ∃ x, (xs ++ [0]).getD q 0 = x := ⟨_, rfl⟩; rw [hx] at hc3 hx3; have Hx := Lib.hid hx; clear hx)
          go_roundw
          case rel => exact number_one hlt Hq.out Hp.out Hz.out hG3 hg Hn3.out hL1 hB3 HV1.out Hvj.out Hd.out Hx.out
          case measure => simp [intOf]; omega
      · have hn3 : n' = q + 1 := by have := hn'.out; have := Hq.out; have := Hp.out; omega
        have Hn3 := Lib.hid hn3
        have hqn : q < n' := by omega
        have hpz : ((p : Int) == 0) = false := by simp; omega
        obtain ⟨g, rfl, hg, hc3, hf3⟩ := hG.at_ hqn
        have hx3 := Hroom.out _ hL (by rw [hG.1]; exact hn3) hV.out
        obtain ⟨x, hx⟩ : ∃ x, xs.getD q 0 = x := ⟨_, rfl⟩
        rw [hx] at hc3 hx3
        have Hx := Lib.hid hx
        clear hx hn3
        rcases (show d = 0 ∨ d = 1 by omega) with rfl | rfl
        · go_wp2
          go_roundw
          case rel => exact number_zero hlt Hq.out hG Hn3.out hL hB hV.out Hd.out
          case measure => simp [intOf]; omega
        · go_wp2
          go_roundw
          case rel => exact number_one hlt Hq.out Hp.out Hz.out hG hg Hn3.out hL hB hV.out Hvj.out Hd.out Hx.out
          case measure => simp [intOf]; omega
    · have hjm : j = m := by omega
      have hv := hV.out
      rw [hjm, List.take_of_length_le (by rw [Hlen.out]; exact Nat.le_refl _)] at hv
      have Hv := Lib.hid hv
      have hlx : xs.length = (m + 63) / 64 := by rw [hG.1, ← hjm]; exact hn'.out
      have Hlx := Lib.hid hlx
      clear hv hjm hlx
      go_wp2
      go_ret
      refine ⟨_, _, _, xs, rfl, hG.nt hL, trm_of_ge hL fun h0 => ?_, Hv.out, hB⟩
      have hm0 : 0 < es.length := by have := Hlx.out; have := Hlen.out; omega
      have h1 := val_ge (β := 2) ht hm0
      rw [Hv.out]
      refine Nat.le_trans ?_ h1
      rw [show (18446744073709551616 : Nat) = 2 ^ 64 from rfl, ← Nat.pow_mul]
      exact Nat.pow_le_pow_right (by omega) (by have := Hlx.out; have := Hlen.out; omega)
end Go.Proofs.YtkhlmcknbangfaaGreatDoor.Rn
namespace Go.Proofs.YtkhlmcknbangfaaGreatDoor.Rn
open Go.RowKit
set_option linter.unusedVariables false

theorem run_app_nil {P : Program} (w : World) (base : Nat) (t ty e : TypeId) (i : TypeInfo) (size : Nat) (ht : P.underlying t = some (.slice e)) (hi : P.info? e = some i)
    (v : Value) (n : Nat) (xs : List Value) (hown : w.ownsRow base e size v n xs) (c : Nat) : (Builtin.append_ #[t, t] ty #[v, .slice none 0 c]).run P w = .ok v w := by
  rcases hown.2 with ⟨rfl, rfl⟩ | ⟨g, cap, cur, rfl, _, _, hnc, _⟩
  · simp [Builtin.append_, run_underlying ht, sizeOf, typeInfo, hi, Builtin.lenOf, Builtin.firstCells]
  · simp [Builtin.append_, run_underlying ht, sizeOf, typeInfo, hi, Builtin.lenOf, Builtin.firstCells, hnc, storeCells]

theorem wpList_app_row_u (w : World) {ops : Array Oper} {rest : List Oper} {o : Oper} {a : Act} {Q : Exit → Act → World → Prop} (hgd : o.guard = none) (s x : Operand)
    (ho : o.op = .call { callee := .builtin .append, args := #[s, x], argTypes := #[22, 22] }) {base n c B m c2 : Nat} {A A2 : Option Addr} {xs ys : List Nat} {w0 : World}
    (hs : a.eval s = .slice A n c) (hown : Gu w base A n c xs) (hx : a.eval x = .slice A2 m c2) (hr : Nt w B A2 m c2 ys)
    (hn : n + m ≤ 1099511627776) (hb : Below base w0 w) (hbase : base ≤ w.heap.size)
    (h : ∀ A' c' w', Gu w' base A' (n + m) c' (xs ++ ys) → Below base w0 w' → wpList Tryz.prog ops Q rest (a.put o.dst (.slice A' (n + m) c')) w') : wpList Tryz.prog ops Q (o :: rest) a w := by
  obtain ⟨i0, hi, hz0, hz1, hz2⟩ := info_parts Tryz.info23
  rcases A2 with _ | ad
  · have hm : m = 0 := by
      rcases Nat.eq_zero_or_pos m with h0 | h0
      · exact h0
      · obtain ⟨b, off, e, _⟩ := hr.cell h0
        cases e
    subst hm
    have hy : ys = [] := List.eq_nil_of_length_eq_zero hr.len
    subst hy
    refine wpList_plain hgd fun K hK => ?_
    have hrun := run_app_nil (P := Tryz.prog) w base 22 o.type 23 i0 1 Tryz.underlying22 hi (.slice A n c) n (us xs) hown.2 c2
    unfold Oper.wp
    simp [execOp, ho, resolve, invoke, builtin, hs, hx, hrun, Result.andThen]
    exact hK _ _ (h A c w (by simpa using hown) hb)
  · refine wpList_append_own w hgd s x 22 ho base 23 i0 (.int .u64 0) 1 8 Tryz.underlying22 hi hz0 hz1 hz2 rfl (by decide) _ n (us xs) hs hown.2 ad m c2 (us ys) hx (by simp [us, hr.len]) ?_ (us_one ys) (by unfold maxLen; omega) (by omega) hbase ?_
    · intro j u hj
      simp only [us, List.getElem?_map, Option.map_eq_some_iff] at hj
      obtain ⟨y, hy, rfl⟩ := hj
      have hjm : j < m := by
        rw [← hr.len]
        rcases Nat.lt_or_ge j ys.length with h | h
        · exact h
        · rw [List.getElem?_eq_none h] at hy; cases hy
      obtain ⟨b, off, e, _, hc⟩ := hr.cell (by omega)
      cases e
      by_cases hj0 : j = 0
      · subst hj0; simpa [Addr.add] using hc 0 y hy
      · simpa [Addr.add, hj0] using hc j y hy
    · intro v' w' hown' hgrow _
      obtain ⟨A', c', rfl⟩ := own_shape hown'
      refine h A' c' w' ⟨by simp [hown.1, hr.len], by rw [us_append]; exact hown'⟩ (hb.grown hgrow hbase fun k hk => (hown.2.lt k hk).1)
theorem wpList_app_row_i (w : World) {ops : Array Oper} {rest : List Oper} {o : Oper} {a : Act} {Q : Exit → Act → World → Prop} (hgd : o.guard = none) (s x : Operand)
    (ho : o.op = .call { callee := .builtin .append, args := #[s, x], argTypes := #[99, 99] }) {base n c B m c2 : Nat} {A A2 : Option Addr} {xs ys : List Nat} {w0 : World}
    (hs : a.eval s = .slice A n c) (hown : Gi w base A n c xs) (hx : a.eval x = .slice A2 m c2) (hr : Ni w B A2 m c2 ys)
    (hn : n + m ≤ 1099511627776) (hb : Below base w0 w) (hbase : base ≤ w.heap.size)
    (h : ∀ A' c' w', Gi w' base A' (n + m) c' (xs ++ ys) → Below base w0 w' → wpList Tryz.prog ops Q rest (a.put o.dst (.slice A' (n + m) c')) w') : wpList Tryz.prog ops Q (o :: rest) a w := by
  obtain ⟨i0, hi, hz0, hz1, hz2⟩ := info_parts Tryz.info3
  rcases A2 with _ | ad
  · have hm : m = 0 := by
      rcases Nat.eq_zero_or_pos m with h0 | h0
      · exact h0
      · obtain ⟨b, off, e, _⟩ := hr.cell h0
        cases e
    subst hm
    have hy : ys = [] := List.eq_nil_of_length_eq_zero hr.len
    subst hy
    refine wpList_plain hgd fun K hK => ?_
    have hrun := run_app_nil (P := Tryz.prog) w base 99 o.type 3 i0 1 Tryz.underlying99 hi (.slice A n c) n (is xs) hown.2 c2
    unfold Oper.wp
    simp [execOp, ho, resolve, invoke, builtin, hs, hx, hrun, Result.andThen]
    exact hK _ _ (h A c w (by simpa using hown) hb)
  · refine wpList_append_own w hgd s x 99 ho base 3 i0 (.int .i64 0) 1 8 Tryz.underlying99 hi hz0 hz1 hz2 rfl (by decide) _ n (is xs) hs hown.2 ad m c2 (is ys) hx (by simp [is, hr.len]) ?_ ?_ (by unfold maxLen; omega) (by omega) hbase ?_
    · intro j u hj
      simp only [is, List.getElem?_map, Option.map_eq_some_iff] at hj
      obtain ⟨y, hy, rfl⟩ := hj
      have hjm : j < m := by
        rw [← hr.len]
        rcases Nat.lt_or_ge j ys.length with h | h
        · exact h
        · rw [List.getElem?_eq_none h] at hy; cases hy
      obtain ⟨b, off, e, _, hc⟩ := hr.cell (by omega)
      cases e
      by_cases hj0 : j = 0
      · subst hj0; simpa [Addr.add] using hc 0 y hy
      · simpa [Addr.add, hj0] using hc j y hy
    · intro v hv
      simp only [is, List.mem_map] at hv
      obtain ⟨y, _, rfl⟩ := hv
      rfl
    · intro v' w' hown' hgrow _
      obtain ⟨A', c', rfl⟩ := own_shape hown'
      refine h A' c' w' ⟨by simp [hown.1, hr.len], by rw [is_append]; exact hown'⟩ (hb.grown hgrow hbase fun k hk => (hown.2.lt k hk).1)


/-- clepsydraref01.moved: n noughts ahead -/
def RetR (N L : Nat) (w : World) (e : Ending) (w' : World) : Prop := ∃ A n c ds, e = .returned (.slice A n c) ∧ n ≤ L ∧ Ni w' w'.heap.size A n c ds ∧ val 2 ds = N ∧ Below w.heap.size w w'
theorem moved_val {ds : List Nat} {j : Nat} : val 2 (List.replicate j 0 ++ ds) = val 2 ds * 2 ^ j := by
  rw [val_append, val_replicate, List.length_replicate, Nat.zero_add, Nat.mul_comm]
set_option maxHeartbeats 800000 in
theorem moved_any {w : World} {A : Option Addr} {n c : Nat} {ds : List Nat} (h : Ni w w.heap.size A n c ds) (hn : n ≤ 1099511627) (k : Nat) (hk : k ≤ 1099511627) :
    Calls Tryz.prog 104 #[.slice A n c, .int .i64 (k : Int)] w (RetR (val 2 ds * 2 ^ k) (n + k) w) := by
  have hr := h.rooms
  have Hlen := Lib.hid h.len
  go_enter Tryz.func104, Tryz.ntmps104
  go_wp2
  go_loopw [5, 6] (fun v i wr => ∃ (j : Nat) (A' : Option Addr) (c' : Nat), j ≤ k ∧ i = .int .i64 j ∧ v = .slice A' j c' ∧ Gi wr w.heap.size A' j c' (List.replicate j 0) ∧ Below w.heap.size w wr) (fun _ i _ => k - (intOf i).toNat)
  case atStart => exact ⟨0, none, 0, Nat.zero_le _, rfl, rfl, Gi.nil _ _, Below.refl _ _⟩
  case round =>
    obtain ⟨j, A', c', hj, rfl, rfl, hG, hB⟩ := hrel
    have hs := hB.size
    by_cases h0 : n = 0
    · have Hz : Hid (val 2 ds = 0) := by
        show _ = _
        rw [List.eq_nil_of_length_eq_zero (show ds.length = 0 by rw [Hlen.out]; exact h0)]; rfl
      have hd : decide ((0 : Int) < (n : Int)) = false := by simp; omega
      have hnn : (n : Int) ≤ 0 := by omega
      clear h0
      by_cases hlt : j < k
      · go_wp2_with (refine wpList_app_row_i _ rfl _ _ rfl rfl hG rfl (h.below hB) (by omega) hB hs ?_; intro A3 c3 w3 hG3 hB3)
        go_ret
        exact ⟨_, _, _, _, rfl, by omega, hG3.ni ((lim_replicate (by omega) _).append h.lim), by rw [moved_val, Hz.out]; simp, hB3⟩
      · have hlt' : k ≤ j := by omega
        clear hlt
        go_wp2_with (refine wpList_app_row_i _ rfl _ _ rfl rfl hG rfl (h.below hB) (by omega) hB hs ?_; intro A3 c3 w3 hG3 hB3)
        go_ret
        exact ⟨_, _, _, _, rfl, by omega, hG3.ni ((lim_replicate (by omega) _).append h.lim), by rw [moved_val, Hz.out]; simp, hB3⟩
    · have hpos : (0 : Int) < (n : Int) := by omega
      by_cases hlt : j < k
      · go_wp2_with (refine wpList_app_i (y := 0) _ rfl _ _ rfl rfl (hG.alloc _) rfl (cell_new _ _ _) (by omega) (hB.alloc hs _) (by simp; omega) ?_; intro A3 c3 w3 hG3 hB3)
        go_roundw
        case rel => exact ⟨j + 1, A3, c3, by omega, by go_num, rfl, by rw [List.replicate_succ']; exact hG3, hB3⟩
        case measure => simp [intOf]; omega
      · obtain rfl : j = k := by omega
        clear hlt
        go_wp2_with (refine wpList_app_row_i _ rfl _ _ rfl rfl hG rfl (h.below hB) (by omega) hB hs ?_; intro A3 c3 w3 hG3 hB3)
        go_ret
        exact ⟨_, _, _, _, rfl, by omega, hG3.ni ((lim_replicate (by omega) _).append h.lim), by rw [moved_val], hB3⟩

/-- clepsydraref01.sum -/
theorem sum_digit (x y c : Nat) : (x + y + c) % 2 + (x + y + c) / 2 * 2 = x + y + c := by omega
set_option maxHeartbeats 1600000 in
theorem rsum_any {w : World} {A A2 : Option Addr} {n c n2 c2 L : Nat} {xs ys : List Nat} (h : Ni w w.heap.size A n c xs) (h2 : Ni w w.heap.size A2 n2 c2 ys) (hn : n ≤ L) (hn2 : n2 ≤ L) (hL : L ≤ 1099511627) :
    Calls Tryz.prog 103 #[.slice A n c, .slice A2 n2 c2] w (RetR (val 2 xs + val 2 ys) (L + 1) w) := by
  have hr := h.rooms
  have hr2 := h2.rooms
  have Hl := Lib.hid h.len
  have Hl2 := Lib.hid h2.len
  go_enter Tryz.func103, Tryz.ntmps103
  go_wp2
  go_loopw [5, 6, 7] (fun v cv i wr => ∃ (j cy : Nat) (A' : Option Addr) (c' : Nat) (ds : List Nat), j ≤ L + 1 ∧ cy ≤ 1 ∧ i = .int .i64 j ∧ cv = .int .i64 cy ∧ v = .slice A' j c' ∧ Gi wr w.heap.size A' j c' ds ∧ Lim 2 ds ∧ Below w.heap.size w wr ∧
      Hid (val 2 ds + cy * 2 ^ j = val 2 (xs.take j) + val 2 (ys.take j))) (fun _ _ i _ => L + 2 - (intOf i).toNat)
  case atStart => exact ⟨0, 0, none, 0, [], by omega, by omega, rfl, rfl, rfl, Gi.nil _ _, Lim.nil _, Below.refl _ _, by simp [Hid, val]⟩
  case round =>
    obtain ⟨j, cy, A', c', ds, hj, hcy, rfl, rfl, rfl, hG, hLd, hB, hV⟩ := hrel
    have hs := hB.size
    by_cases hgo : j < n ∨ j < n2 ∨ 0 < cy
    · have hjL : j ≤ L := by
        rcases Nat.lt_or_ge L j with hlt | hge
        · exfalso
          have hv := hV.out
          have e1 := List.take_of_length_le (show xs.length ≤ j by rw [Hl.out]; omega)
          have e2 := List.take_of_length_le (show ys.length ≤ j by rw [Hl2.out]; omega)
          rw [e1, e2] at hv
          have b1 := val_lt h.lim
          have b2 := val_lt h2.lim
          have p1 : 2 ^ xs.length ≤ 2 ^ (j - 1) := Nat.pow_le_pow_right (by omega) (by rw [Hl.out]; omega)
          have p2 : 2 ^ ys.length ≤ 2 ^ (j - 1) := Nat.pow_le_pow_right (by omega) (by rw [Hl2.out]; omega)
          have p3 : 2 ^ j = 2 ^ (j - 1) * 2 := by rw [← Nat.pow_succ]; congr 1; omega
          have hc1 : cy = 1 := by omega
          rw [hc1, Nat.one_mul] at hv
          omega
        · exact hge
      have ht1 := rat_any (h.below hB) (j : Int)
      have ht2 := rat_any (h2.below hB) (j : Int)
      rw [if_neg (by omega), Int.toNat_natCast] at ht1 ht2
      have hx2 := h.lim.get (by omega) j
      have hy2 := h2.lim.get (by omega) j
      obtain ⟨x, hx⟩ : ∃ x, xs.getD j 0 = x := ⟨_, rfl⟩
      obtain ⟨y, hy⟩ : ∃ y, ys.getD j 0 = y := ⟨_, rfl⟩
      rw [hx] at ht1 hx2
      rw [hy] at ht2 hy2
      have Ht1 := Lib.hid ht1
      have Ht2 := Lib.hid ht2
      have Hx := Lib.hid hx
      have Hy := Lib.hid hy
      obtain ⟨m, hm⟩ : ∃ m, (x + y + cy) % 2 = m := ⟨_, rfl⟩
      obtain ⟨d, hd⟩ : ∃ d, (x + y + cy) / 2 = d := ⟨_, rfl⟩
      have em : ((x : Int) + (y : Int) + (cy : Int)) % 2 = (m : Int) := by omega
      have ed : ((x : Int) + (y : Int) + (cy : Int)) / 2 = (d : Int) := by omega
      have hd1 : d ≤ 1 := by omega
      have hm2 : m < 2 := by omega
      have Hmd : Hid (m + d * 2 = x + y + cy) := by show _ = _; omega
      clear ht1 ht2 hx hy hm hd
      have hstep : ∀ (A3 : Option Addr) (c3 : Nat) (w3 : World), Gi w3 w.heap.size A3 (j + 1) c3 (ds ++ [m]) → Below w.heap.size w w3 → ∃ (j' cy' : Nat) (A' : Option Addr) (c' : Nat) (ds' : List Nat), j' ≤ L + 1 ∧ cy' ≤ 1 ∧ Value.int .i64 ((j : Int) + 1) = .int .i64 j' ∧ Value.int .i64 (((x : Int) + (y : Int) + (cy : Int)) / 2) = .int .i64 cy' ∧ Value.slice A3 (j + 1) c3 = .slice A' j' c' ∧ Gi w3 w.heap.size A' j' c' ds' ∧ Lim 2 ds' ∧ Below w.heap.size w w3 ∧
          Hid (val 2 ds' + cy' * 2 ^ j' = val 2 (xs.take j') + val 2 (ys.take j')) := fun A3 c3 w3 hG3 hB3 => by
        refine ⟨j + 1, d, A3, c3, ds ++ [m], by omega, hd1, by simp, by rw [ed], rfl, hG3, hLd.append (Lim.one hm2), hB3, ?_⟩
        show _ = _
        rw [val_snoc, hG.1, val_take_succ, val_take_succ, Hx.out, Hy.out, Nat.pow_succ]
        exact add_step _ _ _ _ _ _ _ _ _ _ Hmd.out hV.out
      have Hstep := Lib.hid hstep
      clear hstep
      by_cases c1 : j < n
      · go_wp2_with (first
          | (go_at_call_of 147 (Value.slice A n c); refine Ht1.out.mono ?_; rintro e w' ⟨rfl, rfl⟩)
          | (go_at_call_of 147 (Value.slice A2 n2 c2); refine Ht2.out.mono ?_; rintro e w' ⟨rfl, rfl⟩)
          | (refine wpList_app_i (y := m) _ rfl _ _ rfl rfl (hG.alloc _) rfl (cell_new _ _ _) (by omega) (hB.alloc hs _) (by simp; omega) ?_; intro A3 c3 w3 hG3 hB3))
        go_roundw
        case rel => exact Hstep.out _ _ _ hG3 hB3
        case measure => simp [intOf]; omega
      · have c1' : decide ((j : Int) < (n : Int)) = false := by simp; omega
        have c1'' : n ≤ j := by omega
        clear c1
        by_cases c2' : j < n2
        · go_wp2_with (first
            | (go_at_call_of 147 (Value.slice A n c); refine Ht1.out.mono ?_; rintro e w' ⟨rfl, rfl⟩)
            | (go_at_call_of 147 (Value.slice A2 n2 c2); refine Ht2.out.mono ?_; rintro e w' ⟨rfl, rfl⟩)
            | (refine wpList_app_i (y := m) _ rfl _ _ rfl rfl (hG.alloc _) rfl (cell_new _ _ _) (by omega) (hB.alloc hs _) (by simp; omega) ?_; intro A3 c3 w3 hG3 hB3))
          go_roundw
          case rel => exact Hstep.out _ _ _ hG3 hB3
          case measure => simp [intOf]; omega
        · have c3' : decide ((j : Int) < (n2 : Int)) = false := by simp; omega
          have c3'' : n2 ≤ j := by omega
          have c4 : (0 : Int) < (cy : Int) := by omega
          clear c2'
          go_wp2_with (first
            | (go_at_call_of 147 (Value.slice A n c); refine Ht1.out.mono ?_; rintro e w' ⟨rfl, rfl⟩)
            | (go_at_call_of 147 (Value.slice A2 n2 c2); refine Ht2.out.mono ?_; rintro e w' ⟨rfl, rfl⟩)
            | (refine wpList_app_i (y := m) _ rfl _ _ rfl rfl (hG.alloc _) rfl (cell_new _ _ _) (by omega) (hB.alloc hs _) (by simp; omega) ?_; intro A3 c3 w3 hG3 hB3))
          go_roundw
          case rel => exact Hstep.out _ _ _ hG3 hB3
          case measure => simp [intOf]; omega
    · have c1 : n ≤ j := by omega
      have c2' : n2 ≤ j := by omega
      obtain rfl : cy = 0 := by omega
      have d1 : decide ((j : Int) < (n : Int)) = false := by simp; omega
      have d2 : decide ((j : Int) < (n2 : Int)) = false := by simp; omega
      have hv := hV.out
      rw [List.take_of_length_le (show xs.length ≤ j by rw [Hl.out]; exact c1), List.take_of_length_le (show ys.length ≤ j by rw [Hl2.out]; exact c2'), Nat.zero_mul, Nat.add_zero] at hv
      have Hv := Lib.hid hv
      clear hv hgo
      go_wp2
      go_ret
      exact ⟨_, _, _, ds, rfl, hj, hG.ni hLd, Hv.out, hB⟩
end Go.Proofs.YtkhlmcknbangfaaGreatDoor.Rn
namespace Go.Proofs.YtkhlmcknbangfaaGreatDoor.Rn
open Go.RowKit
set_option linter.unusedVariables false

theorem len_bits {ds xs : List Nat} (ht : Trm ds) (hL : Lim 18446744073709551616 xs) (hv : val 2 ds = val 18446744073709551616 xs) : ds.length ≤ 64 * xs.length := by
  refine length_of_val (β := 2) (by omega) ht ?_
  rw [hv, Nat.pow_mul]
  exact val_lt hL

set_option maxHeartbeats 1600000 in
theorem rmul_any {w : World} {A A2 : Option Addr} {n c n2 c2 : Nat} {xs ys : List Nat} (h : Nt w w.heap.size A n c xs) (h2 : Nt w w.heap.size A2 n2 c2 ys) (hn : n ≤ 1000000) (hn2 : n2 ≤ 1000000) :
    Calls Tryz.prog 40 #[.slice A n c, .slice A2 n2 c2] w (RetN (val 18446744073709551616 xs * val 18446744073709551616 ys) w) := by
  go_enter Tryz.func40, Tryz.ntmps40
  go_wp2_with fail
  refine (digits_any h (by omega)).mono ?_
  rintro e w1 ⟨Ax, nx, cx, xb, rfl, hx1, tx, vx, bx⟩
  have h2' := h2.up bx
  have hnx : nx ≤ 64000000 := by
    have := len_bits tx h.lim vx
    rw [hx1.len, h.len] at this
    omega
  have Vx := Lib.hid vx
  clear vx tx
  go_wp2_with fail
  refine (digits_any h2' (by omega)).mono ?_
  rintro e w2 ⟨Ay, ny, cy, yb, rfl, hy2, ty, vy, by2⟩
  have hx2 := hx1.up by2
  have hb2 := bthen bx by2
  have hny : ny ≤ 64000000 := by
    have := len_bits ty h2.lim vy
    rw [hy2.len, h2.len] at this
    omega
  have Vy := Lib.hid vy
  have Hly := Lib.hid hy2.len
  have hr := hx2.rooms
  have hry := hy2.rooms
  clear vy ty hx1 h2'
  go_wp2
  go_loopw [7, 8] (fun v i wr => ∃ (j : Nat) (A' : Option Addr) (n' c' : Nat) (ds : List Nat), j ≤ ny ∧ i = .int .i64 j ∧ v = .slice A' n' c' ∧ n' ≤ nx + ny + j ∧ Ni wr wr.heap.size A' n' c' ds ∧ Below w2.heap.size w2 wr ∧
      Hid (val 2 ds = val 2 xb * val 2 (yb.take j))) (fun _ i _ => ny - (intOf i).toNat)
  case atStart => exact ⟨0, none, 0, 0, [], Nat.zero_le _, rfl, rfl, by omega, ⟨rfl, Nat.le_refl _, Nat.zero_le _, Lim.nil _, fun h => absurd h (Nat.lt_irrefl _)⟩, Below.refl _ _, by simp [Hid, val]⟩
  case round =>
    obtain ⟨j, A', n', c', ds, hj, rfl, rfl, hn', hN, hB, hV⟩ := hrel
    by_cases hlt : j < ny
    · obtain ⟨b, off, rfl, hb, hcell⟩ := (hy2.below hB).at_ hlt
      have hd2 := hy2.lim.get (by omega) j
      obtain ⟨d, hd⟩ : ∃ d, yb.getD j 0 = d := ⟨_, rfl⟩
      rw [hd] at hcell hd2
      have Hd := Lib.hid hd
      have hxr := hx2.up hB
      clear hd
      rcases (show d = 0 ∨ d = 1 by omega) with rfl | rfl
      · go_wp2
        go_roundw
        case rel => exact ⟨j + 1, A', n', c', ds, by omega, by go_num, rfl, by omega, hN, hB, by show _ = _; rw [hV.out, val_take_succ, Hd.out]; simp⟩
        case measure => simp [intOf]; omega
      · go_wp2_with fail
        refine (moved_any hxr (by omega) j (by omega)).mono ?_
        rintro e w3 ⟨A3, n3, c3, ms, rfl, hn3, hm3, vm, b3⟩
        have hN3 := hN.up b3
        have hB3 := bthen hB b3
        have Vm := Lib.hid vm
        clear vm
        go_wp2_with fail
        refine (rsum_any (L := nx + ny + j) hN3 hm3 (by omega) (by omega) (by omega)).mono ?_
        rintro e w4 ⟨A4, n4, c4, ss, rfl, hn4, hm4, vs4, b4⟩
        have hB4 := bthen hB3 b4
        have Vs := Lib.hid vs4
        clear vs4 hN3 hm3 b3 hB3
        go_wp2
        go_roundw
        case rel => exact ⟨j + 1, A4, n4, c4, ss, by omega, by go_num, rfl, by omega, hm4, hB4, by show _ = _; rw [Vs.out, Vm.out, hV.out, val_take_succ, Hd.out, Nat.mul_one, Nat.mul_add]⟩
        case measure => simp [intOf]; omega
    · have hjn : j = ny := by omega
      have hv := hV.out
      rw [hjn, List.take_of_length_le (by rw [Hly.out]; exact Nat.le_refl _), Vx.out, Vy.out] at hv
      have Hv := Lib.hid hv
      have hb0 := bthen hb2 hB
      clear hv hjn
      go_wp2_with fail
      refine (number_any hN (by omega)).mono ?_
      rintro e w5 ⟨A5, n5, c5, x5, rfl, h5, t5, v5, b5⟩
      go_wp2_with fail
      go_ret
      exact ⟨_, _, _, _, rfl, h5, t5, by rw [v5, Hv.out], bthen hb0 b5⟩

theorem radd_any {w : World} {A A2 : Option Addr} {n c n2 c2 : Nat} {xs ys : List Nat} (h : Nt w w.heap.size A n c xs) (h2 : Nt w w.heap.size A2 n2 c2 ys) (hn : n ≤ 1000000) (hn2 : n2 ≤ 1000000) :
    Calls Tryz.prog 62 #[.slice A n c, .slice A2 n2 c2] w (RetN (val 18446744073709551616 xs + val 18446744073709551616 ys) w) := by
  go_enter Tryz.func62, Tryz.ntmps62
  go_wp2_with fail
  refine (digits_any h (by omega)).mono ?_
  rintro e w1 ⟨Ax, nx, cx, xb, rfl, hx1, tx, vx, bx⟩
  have h2' := h2.up bx
  have hnx : nx ≤ 64000000 := by
    have := len_bits tx h.lim vx
    rw [hx1.len, h.len] at this
    omega
  have Vx := Lib.hid vx
  clear vx tx
  go_wp2_with fail
  refine (digits_any h2' (by omega)).mono ?_
  rintro e w2 ⟨Ay, ny, cy, yb, rfl, hy2, ty, vy, by2⟩
  have hx2 := hx1.up by2
  have hb2 := bthen bx by2
  have hny : ny ≤ 64000000 := by
    have := len_bits ty h2.lim vy
    rw [hy2.len, h2.len] at this
    omega
  have Vy := Lib.hid vy
  clear vy ty hx1 h2'
  go_wp2_with fail
  refine (rsum_any (L := 64000000) hx2 hy2 hnx hny (by omega)).mono ?_
  rintro e w3 ⟨A3, n3, c3, ss, rfl, hn3, hs3, vs3, b3⟩
  have hb3 := bthen hb2 b3
  have Vs := Lib.hid vs3
  clear vs3
  go_wp2_with fail
  refine (number_any hs3 (by omega)).mono ?_
  rintro e w5 ⟨A5, n5, c5, x5, rfl, h5, t5, v5, b5⟩
  go_wp2_with fail
  go_ret
  exact ⟨_, _, _, _, rfl, h5, t5, by rw [v5, Vs.out, Vx.out, Vy.out], bthen hb3 b5⟩
end Go.Proofs.YtkhlmcknbangfaaGreatDoor.Rn
namespace Go.Proofs.YtkhlmcknbangfaaGreatDoor.Rn
open Go.RowKit
set_option linter.unusedVariables false

theorem quo_step (v k : Nat) : v / 2 ^ k = v / 2 ^ (k + 1) * 2 + v / 2 ^ k % 2 := by
  rw [Nat.pow_succ, ← Nat.div_div_eq_div_mul]
  omega
theorem quo_lt {v u k : Nat} (h : v / 2 ^ k < u / 2 ^ k) : v < u := by
  rcases Nat.lt_or_ge v u with h1 | h1
  · exact h1
  · have := Nat.div_le_div_right (c := 2 ^ k) h1
    omega
theorem less_digit {v u k x y : Nat} (he : v / 2 ^ (k + 1) = u / 2 ^ (k + 1)) (hx : v / 2 ^ k % 2 = x) (hy : u / 2 ^ k % 2 = y) (hne : x ≠ y) : (v < u) ↔ x < y := by
  have a1 := quo_step v k
  have a2 := quo_step u k
  rw [he] at a1
  constructor
  · intro h
    have := Nat.div_le_div_right (c := 2 ^ k) (Nat.le_of_lt h)
    omega
  · intro h
    exact quo_lt (k := k) (by omega)

set_option maxHeartbeats 1600000 in
theorem rless_any {w : World} {B : Nat} {A A2 : Option Addr} {n c n2 c2 : Nat} {xs ys : List Nat} (h : Ni w B A n c xs) (h2 : Ni w B A2 n2 c2 ys) :
    Calls Tryz.prog 93 #[.slice A n c, .slice A2 n2 c2] w fun e w' => e = .returned (.bool (decide (val 2 xs < val 2 ys))) ∧ w = w' := by
  have hr := h.rooms
  have hr2 := h2.rooms
  have Hl := Lib.hid h.len
  have Hl2 := Lib.hid h2.len
  have hstart : ∀ m : Nat, n ≤ m → n2 ≤ m → val 2 xs / 2 ^ m = val 2 ys / 2 ^ m := fun m h1 h3 => by
    have b1 := val_lt h.lim
    have b2 := val_lt h2.lim
    rw [h.len] at b1
    rw [h2.len] at b2
    rw [Nat.div_eq_of_lt (Nat.lt_of_lt_of_le b1 (Nat.pow_le_pow_right (by omega) h1)), Nat.div_eq_of_lt (Nat.lt_of_lt_of_le b2 (Nat.pow_le_pow_right (by omega) h3))]
  have Hstart := Lib.hid hstart
  clear hstart
  obtain ⟨m, hm1, hm2, hm3⟩ : ∃ m : Nat, n ≤ m ∧ n2 ≤ m ∧ m ≤ 9223372036854775807 := ⟨max n n2, by omega, by omega, by omega⟩
  have Hcat := fun (i : Int) => Lib.hid (rat_any h i)
  have Hcat2 := fun (i : Int) => Lib.hid (rat_any h2 i)
  rcases Nat.lt_or_ge n n2 with hlt | hge
  all_goals
    try have hdn : decide (n < n2) = false := by simp; omega
    go_enter Tryz.func93, Tryz.ntmps93
    go_wp2
    go_loop [6] (fun i => ∃ t : Int, -1 ≤ t ∧ t < 9223372036854775807 ∧ i = .int .i64 t ∧ Hid (val 2 xs / 2 ^ (t + 1).toNat = val 2 ys / 2 ^ (t + 1).toNat)) (fun i => (intOf i + 1).toNat)
    case atStart => first
      | exact ⟨(n2 : Int) - 1, by omega, by omega, rfl, Hstart.out _ (by omega) (by omega)⟩
      | exact ⟨(n : Int) - 1, by omega, by omega, rfl, Hstart.out _ (by omega) (by omega)⟩
    case round =>
      obtain ⟨t, ht0, ht1, rfl, hE⟩ := hrel
      by_cases hpos : 0 ≤ t
      · have c1 := (Hcat t).out
        have c2' := (Hcat2 t).out
        rw [if_neg (by omega)] at c1 c2'
        have ex := limb_of (β := 2) (by omega) h.lim t.toNat
        have ey := limb_of (β := 2) (by omega) h2.lim t.toNat
        obtain ⟨x, hx⟩ : ∃ x, xs.getD t.toNat 0 = x := ⟨_, rfl⟩
        obtain ⟨y, hy⟩ : ∃ y, ys.getD t.toNat 0 = y := ⟨_, rfl⟩
        rw [hx] at c1 ex
        rw [hy] at c2' ey
        have C1 := Lib.hid c1
        have C2 := Lib.hid c2'
        have hE' := hE.out
        rw [show (t + 1).toNat = t.toNat + 1 by omega] at hE'
        by_cases hxy : x = y
        · subst hxy
          have HE : Hid (val 2 xs / 2 ^ (t - 1 + 1).toNat = val 2 ys / 2 ^ (t - 1 + 1).toNat) := by
            show _ = _
            rw [show (t - 1 + 1).toNat = t.toNat by omega, quo_step (val 2 xs), quo_step (val 2 ys), hE', ← ex, ← ey]
          have hb : ((x : Int) != (x : Int)) = false := by simp
          clear c1 c2' hx hy ex ey hE'
          go_wp2_with (first
            | (go_at_call_of 147 (Value.slice A n c); refine C1.out.mono ?_; rintro e w' ⟨rfl, rfl⟩)
            | (go_at_call_of 147 (Value.slice A2 n2 c2); refine C2.out.mono ?_; rintro e w' ⟨rfl, rfl⟩))
          go_round
          case rel => first
            | exact ⟨t - 1, by omega, by omega, rfl, HE⟩
            | (refine ⟨trivial, ?_⟩
               repeat apply Exists.intro
               exact ⟨⟨t - 1, by omega, by omega, rfl, HE⟩, rfl⟩)
          case measure => simp [intOf]; omega
        · have hb : ((x : Int) != (y : Int)) = true := by simp; omega
          have hl := less_digit hE' ex.symm ey.symm hxy
          have HL := Lib.hid hl
          clear c1 c2' hx hy ex ey hE' hl hxy
          go_wp2_with (first
            | (go_at_call_of 147 (Value.slice A n c); refine C1.out.mono ?_; rintro e w' ⟨rfl, rfl⟩)
            | (go_at_call_of 147 (Value.slice A2 n2 c2); refine C2.out.mono ?_; rintro e w' ⟨rfl, rfl⟩))
          go_ret
          refine ⟨?_, rfl⟩
          show Ending.returned (.bool (decide (x < y))) = _
          congr 2
          exact (decide_eq_decide.2 HL.out).symm
      · have ht : (t + 1).toNat = 0 := by omega
        have hv := hE.out
        rw [ht] at hv
        simp only [Nat.pow_zero, Nat.div_one] at hv
        have Hv := Lib.hid hv
        clear hv ht
        go_wp2
        go_ret
        refine ⟨?_, rfl⟩
        show Ending.returned (.bool false) = _
        rw [Hv.out]
        simp
theorem take_step (v m vy y vx x cy d P : Nat) (h : m + y + cy = x + 2 * d) (hv : v + vy = vx + cy * P) : v + P * m + (vy + P * y) = vx + P * x + d * (P * 2) := by
  have h1 := congrArg (fun z => P * z) h
  simp only [Nat.mul_add] at h1
  have e1 : d * (P * 2) = P * (2 * d) := by rw [Nat.mul_comm d, Nat.mul_assoc]
  rw [Nat.mul_comm cy P] at hv
  rw [e1]
  omega

/-- what a row of digits hands back, in new memory -/
def RetJ (N : Nat) (w : World) (e : Ending) (w' : World) : Prop := ∃ A n c ds, e = .returned (.slice A n c) ∧ Ni w' w'.heap.size A n c ds ∧ Trm ds ∧ val 2 ds = N ∧ Below w.heap.size w w' ∧ ∀ a, A = some a → w.heap.size ≤ a.block
theorem Gi.fresh {w : World} {base n c : Nat} {A : Option Addr} {xs : List Nat} (h : Gi w base A n c xs) (a : Addr) (e : A = some a) : base ≤ a.block := by
  subst e
  exact (h.2.lt a.block rfl).1

set_option maxHeartbeats 1600000 in
theorem rtake_new {w : World} {A A2 : Option Addr} {n c n2 c2 : Nat} {xs ys : List Nat} (h : Ni w w.heap.size A n c xs) (h2 : Ni w w.heap.size A2 n2 c2 ys) (hn : n ≤ 1099511627) (hle : val 2 ys ≤ val 2 xs) :
    Calls Tryz.prog 121 #[.slice A n c, .slice A2 n2 c2] w (RetJ (val 2 xs - val 2 ys) w) := by
  have hr := h.rooms
  have hr2 := h2.rooms
  have Hl := Lib.hid h.len
  have Hle := Lib.hid hle
  clear hle
  go_enter Tryz.func121, Tryz.ntmps121
  go_wp2
  go_loopw [5, 6, 7] (fun v cv i wr => ∃ (j cy : Nat) (A' : Option Addr) (c' : Nat) (ds : List Nat), j ≤ n ∧ cy ≤ 1 ∧ i = .int .i64 j ∧ cv = .int .i64 cy ∧ v = .slice A' j c' ∧ Gi wr w.heap.size A' j c' ds ∧ Lim 2 ds ∧ Below w.heap.size w wr ∧
      Hid (val 2 ds + val 2 (ys.take j) = val 2 (xs.take j) + cy * 2 ^ j)) (fun _ _ i _ => n - (intOf i).toNat)
  case atStart => exact ⟨0, 0, none, 0, [], by omega, by omega, rfl, rfl, rfl, Gi.nil _ _, Lim.nil _, Below.refl _ _, by simp [Hid, val]⟩
  case round =>
    obtain ⟨j, cy, A', c', ds, hj, hcy, rfl, rfl, rfl, hG, hLd, hB, hV⟩ := hrel
    have hs := hB.size
    by_cases hlt : j < n
    · have ht1 := rat_any (h.below hB) (j : Int)
      have ht2 := rat_any (h2.below hB) (j : Int)
      rw [if_neg (by omega), Int.toNat_natCast] at ht1 ht2
      have hx2 := h.lim.get (by omega) j
      have hy2 := h2.lim.get (by omega) j
      obtain ⟨x, hx⟩ : ∃ x, xs.getD j 0 = x := ⟨_, rfl⟩
      obtain ⟨y, hy⟩ : ∃ y, ys.getD j 0 = y := ⟨_, rfl⟩
      rw [hx] at ht1 hx2
      rw [hy] at ht2 hy2
      have Ht1 := Lib.hid ht1
      have Ht2 := Lib.hid ht2
      have Hx := Lib.hid hx
      have Hy := Lib.hid hy
      clear ht1 ht2 hx hy
      have hstep : ∀ (m d : Nat), m + y + cy = x + 2 * d → m < 2 → d ≤ 1 → ∀ (A3 : Option Addr) (c3 : Nat) (w3 : World), Gi w3 w.heap.size A3 (j + 1) c3 (ds ++ [m]) → Below w.heap.size w w3 → ∃ (j' cy' : Nat) (A' : Option Addr) (c' : Nat) (ds' : List Nat), j' ≤ n ∧ cy' ≤ 1 ∧ Value.int .i64 ((j : Int) + 1) = .int .i64 j' ∧ Value.int .i64 (d : Int) = .int .i64 cy' ∧ Value.slice A3 (j + 1) c3 = .slice A' j' c' ∧ Gi w3 w.heap.size A' j' c' ds' ∧ Lim 2 ds' ∧ Below w.heap.size w w3 ∧
          Hid (val 2 ds' + val 2 (ys.take j') = val 2 (xs.take j') + cy' * 2 ^ j') := fun m d hmd hm2 hd1 A3 c3 w3 hG3 hB3 => by
        refine ⟨j + 1, d, A3, c3, ds ++ [m], by omega, hd1, by simp, rfl, rfl, hG3, hLd.append (Lim.one hm2), hB3, ?_⟩
        show _ = _
        rw [val_snoc, hG.1, val_take_succ, val_take_succ, Hx.out, Hy.out, Nat.pow_succ]
        exact take_step _ _ _ _ _ _ _ _ _ hmd hV.out
      have Hstep := Lib.hid hstep
      clear hstep
      by_cases hneg : x < y + cy
      · obtain ⟨m, hm⟩ : ∃ m : Nat, m + y + cy = x + 2 := ⟨x + 2 - (y + cy), by omega⟩
        have em : (x : Int) - (y : Int) - (cy : Int) + 2 = (m : Int) := by omega
        have eneg : (x : Int) - (y : Int) - (cy : Int) < 0 := by omega
        have hm2 : m < 2 := by omega
        have Hm := Lib.hid hm
        clear hneg hm
        go_wp2_with (first
          | (go_at_call_of 147 (Value.slice A n c); refine Ht1.out.mono ?_; rintro e w' ⟨rfl, rfl⟩)
          | (go_at_call_of 147 (Value.slice A2 n2 c2); refine Ht2.out.mono ?_; rintro e w' ⟨rfl, rfl⟩)
          | (refine wpList_app_i (y := m) _ rfl _ _ rfl rfl (hG.alloc _) rfl (cell_new _ _ _) (by omega) (hB.alloc hs _) (by simp; omega) ?_; intro A3 c3 w3 hG3 hB3))
        go_roundw
        case rel => exact Hstep.out m 1 Hm.out hm2 (by omega) _ _ _ hG3 hB3
        case measure => simp [intOf]; omega
      · obtain ⟨m, hm⟩ : ∃ m : Nat, m + y + cy = x + 2 * 0 := ⟨x - (y + cy), by omega⟩
        have em : (x : Int) - (y : Int) - (cy : Int) = (m : Int) := by omega
        have hm2 : m < 2 := by omega
        have hmn : (0 : Int) ≤ (m : Int) := by omega
        have Hm := Lib.hid hm
        clear hneg hm
        go_wp2_with (first
          | (go_at_call_of 147 (Value.slice A n c); refine Ht1.out.mono ?_; rintro e w' ⟨rfl, rfl⟩)
          | (go_at_call_of 147 (Value.slice A2 n2 c2); refine Ht2.out.mono ?_; rintro e w' ⟨rfl, rfl⟩)
          | (refine wpList_app_i (y := m) _ rfl _ _ rfl rfl (hG.alloc _) rfl (cell_new _ _ _) (by omega) (hB.alloc hs _) (by simp; omega) ?_; intro A3 c3 w3 hG3 hB3))
        go_roundw
        case rel => exact Hstep.out m 0 Hm.out hm2 (by omega) _ _ _ hG3 hB3
        case measure => simp [intOf]; omega
    · obtain rfl : j = n := by omega
      have hv := hV.out
      have hcl := rcut_ni (hG.ni hLd)
      have Hcl := Lib.hid hcl
      rw [List.take_of_length_le (show xs.length ≤ j by rw [Hl.out]; exact Nat.le_refl _)] at hv
      have hyt : val 2 (ys.take j) = val 2 ys := by
        have b1 := val_lt h.lim
        rw [h.len] at b1
        have b2 : val 2 ys < 2 ^ j := Nat.lt_of_le_of_lt Hle.out b1
        rcases Nat.lt_or_ge ys.length j with h3 | h3
        · rw [List.take_of_length_le (by omega)]
        · have e := val_take_drop 2 ys j h3
          have : val 2 (ys.drop j) = 0 := by
            rcases Nat.eq_zero_or_pos (val 2 (ys.drop j)) with h0 | h0
            · exact h0
            · have := Nat.mul_le_mul_left (2 ^ j) h0
              omega
          rw [this] at e
          omega
      have hval : val 2 ds = val 2 xs - val 2 ys := by
        rw [hyt] at hv
        have b3 := val_lt hLd
        rw [hG.1] at b3
        have := Hle.out
        rcases Nat.eq_zero_or_pos cy with h0 | h0
        · subst h0; omega
        · obtain rfl : cy = 1 := by omega
          omega
      have Hval := Lib.hid hval
      clear hv hyt hval hcl
      go_wp2_with (go_at_call 146; refine Hcl.out.mono ?_; rintro e w' ⟨m, rfl, rfl, hm, hN⟩)
      go_ret
      exact ⟨_, _, _, _, rfl, hN, trm_cutL _, by rw [val_cutL, Hval.out], hB, hG.fresh⟩
theorem rtake_any {w : World} {A A2 : Option Addr} {n c n2 c2 : Nat} {xs ys : List Nat} (h : Ni w w.heap.size A n c xs) (h2 : Ni w w.heap.size A2 n2 c2 ys) (hn : n ≤ 1099511627) (hle : val 2 ys ≤ val 2 xs) :
    Calls Tryz.prog 121 #[.slice A n c, .slice A2 n2 c2] w (RetI (val 2 xs - val 2 ys) w) :=
  (rtake_new h h2 hn hle).mono fun _ _ ⟨A, n, c, ds, he, h1, h2, h3, h4, _⟩ => ⟨A, n, c, ds, he, h1, h2, h3, h4⟩
end Go.Proofs.YtkhlmcknbangfaaGreatDoor.Rn
namespace Go.Proofs.YtkhlmcknbangfaaGreatDoor.Rn
open Go.RowKit
set_option linter.unusedVariables false

/-- two numbers as rows of digits -/
def RSub (a b : Nat) (w : World) (e : Ending) (w' : World) : Prop :=
  (b ≤ a ∧ ∃ A n c xs, e = .returned (.tuple #[.slice A n c, .int .i64 0]) ∧ Nt w' w'.heap.size A n c xs ∧ Trm xs ∧ val 18446744073709551616 xs = a - b ∧ Below w.heap.size w w') ∨
  (a < b ∧ e = .returned (.tuple #[.slice none 0 0, .int .i64 10]) ∧ Below w.heap.size w w')

theorem rsub_any {w : World} {A A2 : Option Addr} {n c n2 c2 : Nat} {xs ys : List Nat} (h : Nt w w.heap.size A n c xs) (h2 : Nt w w.heap.size A2 n2 c2 ys) (hn : n ≤ 1000000) (hn2 : n2 ≤ 1000000) :
    Calls Tryz.prog 60 #[.slice A n c, .slice A2 n2 c2] w (RSub (val 18446744073709551616 xs) (val 18446744073709551616 ys) w) := by
  go_enter Tryz.func60, Tryz.ntmps60
  go_wp2_with fail
  refine (digits_any h (by omega)).mono ?_
  rintro e w1 ⟨Ax, nx, cx, xb, rfl, hx1, tx, vx, bx⟩
  have h2' := h2.up bx
  have hnx : nx ≤ 64000000 := by
    have := len_bits tx h.lim vx
    rw [hx1.len, h.len] at this
    omega
  have Vx := Lib.hid vx
  clear vx tx
  go_wp2_with fail
  refine (digits_any h2' (by omega)).mono ?_
  rintro e w2 ⟨Ay, ny, cy, yb, rfl, hy2, ty, vy, by2⟩
  have hx2 := hx1.up by2
  have hb2 := bthen bx by2
  have Vy := Lib.hid vy
  clear vy ty hx1 h2'
  by_cases hlt : val 2 xb < val 2 yb
  · have hc := rless_any hx2 hy2
    rw [decide_eq_true hlt] at hc
    have Hc := Lib.hid hc
    have Hlt := Lib.hid hlt
    clear hc hlt
    go_wp2_with fail
    refine Hc.out.mono ?_
    rintro e w' ⟨rfl, rfl⟩
    go_wp2_with fail
    go_ret2
    exact .inr ⟨by rw [← Vx.out, ← Vy.out]; exact Hlt.out, rfl, hb2⟩
  · have hc := rless_any hx2 hy2
    rw [decide_eq_false hlt] at hc
    have Hc := Lib.hid hc
    have ht := rtake_any hx2 hy2 (by omega) (Nat.le_of_not_lt hlt)
    have Ht := Lib.hid ht
    have Hlt := Lib.hid (Nat.le_of_not_lt hlt)
    clear hc hlt ht
    go_wp2_with fail
    refine Hc.out.mono ?_
    rintro e w' ⟨rfl, rfl⟩
    go_wp2_with fail
    refine Ht.out.mono ?_
    rintro e w3 ⟨Az, nz, cz, zb, rfl, hz3, tz, vz, bz⟩
    have hb3 := bthen hb2 bz
    have hnz : nz ≤ 64000000 := by
      have := length_of_val (β := 2) (k := nx) (by omega) tz (by
        rw [vz]
        have := val_lt hx2.lim
        rw [hx2.len] at this
        omega)
      rw [hz3.len] at this
      omega
    have Vz := Lib.hid vz
    clear vz
    go_wp2_with fail
    refine (number_any hz3 (by omega)).mono ?_
    rintro e w5 ⟨A5, n5, c5, x5, rfl, h5, t5, v5, b5⟩
    go_wp2_with fail
    go_ret2
    exact .inl ⟨by rw [← Vx.out, ← Vy.out]; exact Hlt.out, _, _, _, _, rfl, h5, t5, by rw [v5, Vz.out, Vx.out, Vy.out], bthen hb3 b5⟩

theorem rcmp_any {w : World} {A A2 : Option Addr} {n c n2 c2 : Nat} {xs ys : List Nat} (h : Nt w w.heap.size A n c xs) (h2 : Nt w w.heap.size A2 n2 c2 ys) (hn : n ≤ 1000000) (hn2 : n2 ≤ 1000000) :
    Calls Tryz.prog 35 #[.slice A n c, .slice A2 n2 c2] w fun e w' => e = .returned (.int .i64 (sgn (val 18446744073709551616 xs : Int) (val 18446744073709551616 ys : Int))) ∧ Below w.heap.size w w' := by
  obtain ⟨a, ea⟩ : ∃ a, val 18446744073709551616 xs = a := ⟨_, rfl⟩
  obtain ⟨b, eb⟩ : ∃ b, val 18446744073709551616 ys = b := ⟨_, rfl⟩
  rw [ea, eb]
  have Ea := Lib.hid ea
  have Eb := Lib.hid eb
  clear ea eb
  go_enter Tryz.func35, Tryz.ntmps35
  go_wp2_with fail
  refine (digits_any h (by omega)).mono ?_
  rintro e w1 ⟨Ax, nx, cx, xb, rfl, hx1, tx, vx, bx⟩
  have h2' := h2.up bx
  have Vx := Lib.hid vx
  clear vx tx
  go_wp2_with fail
  refine (digits_any h2' (by omega)).mono ?_
  rintro e w2 ⟨Ay, ny, cy, yb, rfl, hy2, ty, vy, by2⟩
  have hx2 := hx1.up by2
  have hb2 := bthen bx by2
  have Vy := Lib.hid vy
  clear vy ty hx1 h2'
  have hc := rless_any hx2 hy2
  have hd := rless_any hy2 hx2
  rw [Vx.out, Vy.out, Ea.out, Eb.out] at hc hd
  rcases Nat.lt_trichotomy a b with hlt | heq | hgt
  · rw [decide_eq_true hlt] at hc
    have Hc := Lib.hid hc
    have Hs := Lib.hid (sgn_lt hlt)
    clear hc hd hlt
    go_wp2_with fail
    refine Hc.out.mono ?_
    rintro e w' ⟨rfl, rfl⟩
    go_wp2_with fail
    go_ret
    exact ⟨by rw [Hs.out]; rfl, hb2⟩
  · subst heq
    rw [decide_eq_false (Nat.lt_irrefl _)] at hc hd
    have Hc := Lib.hid hc
    have Hd := Lib.hid hd
    have Hs := Lib.hid (sgn_eq a)
    clear hc hd
    go_wp2_with fail
    refine Hc.out.mono ?_
    rintro e w' ⟨rfl, rfl⟩
    go_wp2_with fail
    refine Hd.out.mono ?_
    rintro e w' ⟨rfl, rfl⟩
    go_wp2_with fail
    go_ret
    exact ⟨by rw [Hs.out]; rfl, hb2⟩
  · rw [decide_eq_false (Nat.lt_asymm hgt)] at hc
    rw [decide_eq_true hgt] at hd
    have Hc := Lib.hid hc
    have Hd := Lib.hid hd
    have Hs := Lib.hid (sgn_gt hgt)
    clear hc hd hgt
    go_wp2_with fail
    refine Hc.out.mono ?_
    rintro e w' ⟨rfl, rfl⟩
    go_wp2_with fail
    refine Hd.out.mono ?_
    rintro e w' ⟨rfl, rfl⟩
    go_wp2_with fail
    go_ret
    exact ⟨by rw [Hs.out]; rfl, hb2⟩
end Go.Proofs.YtkhlmcknbangfaaGreatDoor.Rn
namespace Go.Proofs.YtkhlmcknbangfaaGreatDoor.Rn
open Go.RowKit
set_option linter.unusedVariables false

theorem rtrim_any {w : World} {A : Option Addr} {n c : Nat} {xs : List Nat} (h : Nt w w.heap.size A n c xs) (hn : n ≤ 1000000) :
    Calls Tryz.prog 155 #[.slice A n c] w (RetN (val 18446744073709551616 xs) w) := by
  go_enter Tryz.func155, Tryz.ntmps155
  go_wp2_with fail
  refine (digits_any h (by omega)).mono ?_
  rintro e w1 ⟨Ax, nx, cx, xb, rfl, hx1, tx, vx, bx⟩
  have hnx : nx ≤ 64000000 := by
    have := len_bits tx h.lim vx
    rw [hx1.len, h.len] at this
    omega
  have Vx := Lib.hid vx
  clear vx tx
  go_wp2_with fail
  refine (number_any hx1 (by omega)).mono ?_
  rintro e w5 ⟨A5, n5, c5, x5, rfl, h5, t5, v5, b5⟩
  go_wp2_with fail
  go_ret
  exact ⟨_, _, _, _, rfl, h5, t5, by rw [v5, Vx.out], bthen bx b5⟩

theorem bl_len {ds : List Nat} (ht : Trm ds) (hL : Lim 2 ds) : ds.length = bl (val 2 ds) := by
  rcases Nat.eq_zero_or_pos ds.length with h | h
  · rw [List.eq_nil_of_length_eq_zero h]; simp [val, bl]
  · have h1 := val_ge (β := 2) ht h
    have h2 := val_lt hL
    rw [bl_of (k := ds.length - 1) h1 (by rw [show ds.length - 1 + 1 = ds.length by omega]; exact h2)]
    omega
theorem rbits_any {w : World} {A : Option Addr} {n c : Nat} {xs : List Nat} (h : Nt w w.heap.size A n c xs) (hn : n ≤ 1000000) :
    Calls Tryz.prog 34 #[.slice A n c] w fun e w' => e = .returned (.int .i64 ((bl (val 18446744073709551616 xs) : Nat) : Int)) ∧ Below w.heap.size w w' := by
  go_enter Tryz.func34, Tryz.ntmps34
  go_wp2_with fail
  refine (digits_any h (by omega)).mono ?_
  rintro e w1 ⟨Ax, nx, cx, xb, rfl, hx1, tx, vx, bx⟩
  have hl := bl_len tx hx1.lim
  rw [vx, hx1.len] at hl
  have Hl := Lib.hid hl
  clear hl vx tx
  go_wp2_with fail
  go_ret
  refine ⟨?_, bx⟩
  show Ending.returned (.int .i64 (nx : Int)) = _
  rw [Hl.out]
theorem rbit_any {w : World} {A : Option Addr} {n c : Nat} {xs : List Nat} (h : Nt w w.heap.size A n c xs) (hn : n ≤ 1000000) (i : Int) :
    Calls Tryz.prog 106 #[.slice A n c, .int .i64 i] w fun e w' => e = .returned (.int .i64 ((btN (val 18446744073709551616 xs) i : Nat) : Int)) ∧ Below w.heap.size w w' := by
  go_enter Tryz.func106, Tryz.ntmps106
  go_wp2_with fail
  refine (digits_any h (by omega)).mono ?_
  rintro e w1 ⟨Ax, nx, cx, xb, rfl, hx1, tx, vx, bx⟩
  have hat := rat_any hx1 i
  have e1 : (if i < 0 then 0 else xb.getD i.toNat 0) = btN (val 18446744073709551616 xs) i := by
    unfold btN
    rw [← vx]
    split
    · rfl
    · exact limb_of (by omega) hx1.lim _
  rw [e1] at hat
  have Hat := Lib.hid hat
  clear hat e1 vx tx
  go_wp2_with fail
  refine Hat.out.mono ?_
  rintro e w' ⟨rfl, rfl⟩
  go_wp2_with fail
  go_ret
  exact ⟨rfl, bx⟩

theorem Ni.cut {w : World} {B n c k : Nat} {A : Option Addr} {xs : List Nat} (h : Ni w B A n c xs) (hk : k ≤ n) : Ni w B (if c = k then A else A.map fun a => a.add k) (n - k) (c - k) (xs.drop k) := by
  have hc := h.cap
  refine ⟨by rw [List.length_drop, h.len], by omega, Nat.le_trans (Nat.sub_le _ _) h.room, h.lim.drop k, fun h0 => ?_⟩
  obtain ⟨b, off, rfl, hb, hcell⟩ := h.cell (by omega)
  rw [if_neg (by omega)]
  refine ⟨b, off + k, ?_, hb, fun j x hj => ?_⟩
  · by_cases hk0 : k = 0
    · subst hk0; simp [Addr.add]
    · simp [Addr.add, hk0]
  · rw [List.getElem?_drop] at hj
    have := hcell (k + j) x hj
    rwa [show off + k + j = off + (k + j) by omega]

set_option maxHeartbeats 800000 in
theorem rshift_any {w : World} {A : Option Addr} {n c : Nat} {xs : List Nat} (h : Nt w w.heap.size A n c xs) (hn : n ≤ 1000000) (k : Int) (hk0 : -9223372036854775808 ≤ k) (hk1 : k ≤ 65536) :
    Calls Tryz.prog 119 #[.slice A n c, .int .i64 k] w (RetN (shN (val 18446744073709551616 xs) k) w) := by
  by_cases h0 : 0 ≤ k
  · obtain ⟨m, rfl⟩ := Int.eq_ofNat_of_zero_le h0
    have hs : shN (val 18446744073709551616 xs) (m : Int) = val 18446744073709551616 xs * 2 ^ m := by
      unfold shN
      rw [if_pos h0, Int.toNat_natCast, Nat.min_eq_left (by omega)]
    rw [hs]
    clear hs
    go_enter Tryz.func119, Tryz.ntmps119
    go_wp2_with fail
    refine (digits_any h (by omega)).mono ?_
    rintro e w1 ⟨Ax, nx, cx, xb, rfl, hx1, tx, vx, bx⟩
    have hnx : nx ≤ 64000000 := by
      have := len_bits tx h.lim vx
      rw [hx1.len, h.len] at this
      omega
    have Vx := Lib.hid vx
    clear vx tx
    go_wp2_with fail
    refine (moved_any hx1 (by omega) m (by omega)).mono ?_
    rintro e w3 ⟨A3, n3, c3, ms, rfl, hn3, hm3, vm, b3⟩
    have Vm := Lib.hid vm
    clear vm
    go_wp2_with fail
    refine (number_any hm3 (by omega)).mono ?_
    rintro e w5 ⟨A5, n5, c5, x5, rfl, h5, t5, v5, b5⟩
    go_wp2_with fail
    go_ret
    exact ⟨_, _, _, _, rfl, h5, t5, by rw [v5, Vm.out, Vx.out], bthen (bthen bx b3) b5⟩
  · have h0' : k < 0 := by omega
    obtain ⟨m, hm⟩ : ∃ m : Nat, -k = (m : Int) := ⟨(-k).toNat, by omega⟩
    have hs : shN (val 18446744073709551616 xs) k = val 18446744073709551616 xs / 2 ^ m := by
      unfold shN
      rw [if_neg h0, show (-k).toNat = m by omega]
    rw [hs]
    have Hm := Lib.hid hm
    have hmk : (m : Int) ≤ -k := by omega
    have hmk2 : -k ≤ (m : Int) := by omega
    clear hs hm h0
    go_enter Tryz.func119, Tryz.ntmps119
    go_wp2_with fail
    refine (digits_any h (by omega)).mono ?_
    rintro e w1 ⟨Ax, nx, cx, xb, rfl, hx1, tx, vx, bx⟩
    have hnx : nx ≤ 64000000 := by
      have := len_bits tx h.lim vx
      rw [hx1.len, h.len] at this
      omega
    have Vx := Lib.hid vx
    have hr := hx1.rooms
    by_cases hb : k < -(nx : Int)
    · have hz : val 18446744073709551616 xs / 2 ^ m = 0 := by
        apply Nat.div_eq_of_lt
        rw [← vx]
        have h1 := val_lt hx1.lim
        rw [hx1.len] at h1
        exact Nat.lt_of_lt_of_le h1 (Nat.pow_le_pow_right (by omega) (by omega))
      have Hz := Lib.hid hz
      clear hz vx tx
      go_wp2_with fail
      go_ret
      exact ⟨none, 0, 0, [], rfl, nt_nil _ _, trm_nil, by rw [Hz.out]; rfl, bx⟩
    · have hb' : -(nx : Int) ≤ k := by omega
      have hmn : m ≤ nx := by omega
      have hd := val_div_pow (β := 2) hx1.lim (by omega) m (by rw [hx1.len]; exact hmn)
      rw [vx] at hd
      have Hd := Lib.hid hd
      have hcut := hx1.cut hmn
      have ek : -k = (m : Int) := Hm.out
      clear hd vx tx hb
      by_cases hcm : cx = m
      · rw [if_pos hcm] at hcut
        have hcut' := number_any hcut (by omega)
        rw [show cx - m = 0 by omega] at hcut'
        have Hcut := Lib.hid hcut'
        clear hcut hcut'
        go_wp2_with fail
        refine Hcut.out.mono ?_
        rintro e w5 ⟨A5, n5, c5, x5, rfl, h5, t5, v5, b5⟩
        go_wp2_with fail
        go_ret
        exact ⟨_, _, _, _, rfl, h5, t5, by rw [v5, ← Hd.out], bthen bx b5⟩
      · rw [if_neg hcm] at hcut
        have hcut' := number_any hcut (by omega)
        have Hcut := Lib.hid hcut'
        clear hcut hcut'
        go_wp2_with fail
        refine Hcut.out.mono ?_
        rintro e w5 ⟨A5, n5, c5, x5, rfl, h5, t5, v5, b5⟩
        go_wp2_with fail
        go_ret
        exact ⟨_, _, _, _, rfl, h5, t5, by rw [v5, ← Hd.out], bthen bx b5⟩
end Go.Proofs.YtkhlmcknbangfaaGreatDoor.Rn
namespace Go.Proofs.YtkhlmcknbangfaaGreatDoor.Rn
open Go.RowKit
set_option linter.unusedVariables false

theorem and_one8 (x p : Nat) (hx : x < 256) : bits .and .u8 ((x : Int) / 2 ^ p) 1 = ((x / 2 ^ p % 2 : Nat) : Int) := by
  have e2 : ((x : Int) / 2 ^ p) = ((x / 2 ^ p : Nat) : Int) := by simp
  have hx' : x / 2 ^ p < 256 := Nat.lt_of_le_of_lt (Nat.div_le_self _ _) hx
  rw [e2]
  generalize x / 2 ^ p = y at *
  have h1 : (BitVec.ofInt 8 (y : Int) &&& BitVec.ofInt 8 1).toNat = y % 2 := by
    rw [BitVec.toNat_and, show (1 : Int) = ((1 : Nat) : Int) from rfl, BitVec.ofInt_natCast, BitVec.ofInt_natCast, BitVec.toNat_ofNat, BitVec.toNat_ofNat, Nat.mod_eq_of_lt (by omega : y < 2 ^ 8)]
    exact Nat.and_one_is_mod y
  show IntKind.u8.wrap ((BitVec.ofInt 8 (y : Int) &&& BitVec.ofInt 8 1).toNat : Int) = _
  rw [h1, IntKind.wrap_u8]
  omega

set_option maxHeartbeats 2000000 in
theorem rread_any {w : World} {A : Option Addr} {n c : Nat} {bs : List Nat} (h : Nb w w.heap.size A n c bs) (hn : n ≤ 1099511627) : Calls Tryz.prog 110 #[.slice A n c] w (RetN (val 256 bs.reverse) w) := by
  have hr := h.rooms
  have Hlen := Lib.hid h.len
  go_enter Tryz.func110, Tryz.ntmps110
  go_wp2
  go_loopw [3, 4] (fun v i wr => ∃ (t : Int) (j : Nat) (A' : Option Addr) (n' c' : Nat) (ds : List Nat), -1 ≤ t ∧ t + 1 + (j : Int) = (n : Int) ∧ i = .int .i64 t ∧ v = .slice A' n' c' ∧ Hid (n' = 8 * j) ∧ Gi wr w.heap.size A' n' c' ds ∧ Lim 2 ds ∧ Below w.heap.size w wr ∧ Hid (val 2 ds = val 256 (bs.reverse.take j))) (fun _ i _ => (intOf i + 1).toNat)
  case atStart => exact ⟨(n : Int) - 1, 0, none, 0, 0, [], by omega, by omega, rfl, rfl, rfl, Gi.nil _ _, Lim.nil _, Below.refl _ _, by simp [Hid, val]⟩
  case round =>
    obtain ⟨t, j, A', n', c', ds, ht0, htj, rfl, rfl, hn', hG, hL, hB, hV⟩ := hrel
    by_cases hpos : 0 ≤ t
    · obtain ⟨k0, rfl⟩ := Int.eq_ofNat_of_zero_le hpos
      have hlt : k0 < n := by omega
      have hjn : j < n := by omega
      obtain ⟨wo, rfl⟩ : ∃ wo : World, wo = wr := ⟨_, rfl⟩
      have hxl := h.lim.get (by omega) k0
      obtain ⟨x, hx⟩ : ∃ x, bs.getD k0 0 = x := ⟨_, rfl⟩
      have Hx := Lib.hid hx
      rw [hx] at hxl
      have hrev : bs.reverse.getD j 0 = x := by
        rw [← hx]
        simp only [List.getD]
        rw [List.getElem?_reverse (by rw [Hlen.out]; omega)]
        congr 2; rw [Hlen.out]; omega
      have Hrev := Lib.hid hrev
      have hpos' : (0 : Int) ≤ (k0 : Int) := by omega
      clear hx hrev hpos
      go_wp2
      go_loopw [3, 5] (fun v i wi => ∃ (k : Nat) (A2 : Option Addr) (n2 c2 : Nat), k ≤ 8 ∧ i = .int .i64 k ∧ v = .slice A2 n2 c2 ∧ Hid (n2 = 8 * j + k) ∧ Gi wi w.heap.size A2 n2 c2 (ds ++ lbits x k) ∧ Below w.heap.size w wi) (fun _ i _ => 8 - (intOf i).toNat)
      case atStart => exact ⟨0, A', n', c', Nat.zero_le _, rfl, rfl, hn'.out, by simpa [lbits] using hG, hB⟩
      case round =>
        obtain ⟨k, A2, n2, c2, hk, rfl, rfl, hn2, hG2, hB2⟩ := hrel
        by_cases hlk : k < 8
        · obtain ⟨b, off, rfl, hb, hcell⟩ := (h.below hB2).at_ hlt
          rw [Hx.out] at hcell
          obtain ⟨y, hy⟩ : ∃ y, x / 2 ^ k % 2 = y := ⟨_, rfl⟩
          have ho := and_one8 x k hxl
          rw [hy] at ho
          have hy2 : y < 2 := by omega
          have Hy := Lib.hid hy
          have hs := hB2.size
          have hn2b : n2 ≤ 1099511627776 := by have := hn2.out; omega
          clear hy
          go_wp2_with (refine wpList_app_i (y := y) _ rfl _ _ rfl rfl (hG2.alloc _) rfl (cell_new _ _ _) hn2b (hB2.alloc hs _) (by simp; omega) ?_; intro A3 c3 w3 hG3 hB3)
          go_roundw
          case rel => exact ⟨k + 1, A3, n2 + 1, c3, by omega, by go_num, rfl, by show _ = _; have := hn2.out; omega, by rw [lbits, Hy.out, ← List.append_assoc]; exact hG3, hB3⟩
          case measure => simp [intOf]; omega
        · obtain rfl : k = 8 := by omega
          go_wp2
          go_roundw
          case rel =>
            refine ⟨(k0 : Int) - 1, j + 1, A2, n2, c2, ds ++ lbits x 8, by omega, by omega, rfl, rfl, by show _ = _; have := hn2.out; omega, hG2, hL.append (lim_lbits x 8), hB2, ?_⟩
            show _ = _
            have hl : ds.length = 8 * j := by rw [hG.1]; exact hn'.out
            rw [val_append, val_lbits, hV.out, val_take_succ, Hrev.out, hl, show (2 : Nat) ^ 8 = 256 from rfl, Nat.mod_eq_of_lt hxl, show (2 : Nat) ^ (8 * j) = 256 ^ j by rw [show (256 : Nat) = 2 ^ 8 from rfl, ← Nat.pow_mul]]
          case measure => simp [intOf]
    · have hjn : j = n := by omega
      have hv := hV.out
      rw [hjn, List.take_of_length_le (by rw [List.length_reverse, Hlen.out]; exact Nat.le_refl _)] at hv
      have hn2b : n' ≤ 1099511627776 := by have := hn'.out; omega
      have hnum := number_any (hG.ni hL) hn2b
      rw [hv] at hnum
      have Hnum := Lib.hid hnum
      clear hv hjn hnum
      go_wp2_with fail
      refine Hnum.out.mono ?_
      rintro e w5 ⟨A5, n5, c5, x5, rfl, h5, t5, v5, b5⟩
      go_wp2_with fail
      go_ret
      exact ⟨_, _, _, _, rfl, h5, t5, v5, bthen hB b5⟩
/-- the cells of a row of bytes -/
def vb (xs : List Nat) : List Value := xs.map fun x : Nat => .int .u8 (x : Int)
theorem vb_append (xs ys : List Nat) : vb (xs ++ ys) = vb xs ++ vb ys := by simp [vb]
/-- a row of bytes of the call's own -/
def Gb (w : World) (base : Nat) (A : Option Addr) (n c : Nat) (xs : List Nat) : Prop := xs.length = n ∧ w.ownsRow base 5 1 (.slice A n c) n (vb xs)
theorem Gb.nil (w : World) (base : Nat) : Gb w base none 0 0 [] := ⟨rfl, World.ownsRow_nil w base 5 1⟩
theorem Gb.alloc {w : World} {base n c : Nat} {A : Option Addr} {xs : List Nat} (h : Gb w base A n c xs) (o : Obj) : Gb (w.alloc o) base A n c xs := ⟨h.1, h.2.alloc o⟩
theorem Gb.nb {w : World} {base n c : Nat} {A : Option Addr} {xs : List Nat} (h : Gb w base A n c xs) (hx : Lim 256 xs) : Nb w w.heap.size A n c xs := by
  obtain ⟨hl, ho⟩ := h
  rcases ho.2 with ⟨e, rfl⟩ | ⟨g, cap, cur, e, hg, hh, hnc, hcm, hsz, htk⟩
  · injection e with e1 e2 e3
    subst e1; subst e3
    exact ⟨hl, Nat.le_refl _, Nat.zero_le _, hx, fun h => absurd h (Nat.lt_irrefl _)⟩
  · injection e with e1 e2 e3
    subst e1; subst e3
    refine ⟨hl, hnc, hcm, hx, fun _ => ⟨g, 0, rfl, ho.lt g rfl |>.2, fun j x hj => ?_⟩⟩
    have := ho.cells (g := g) rfl j (.int .u8 (x : Int)) (by simp [vb, hj])
    by_cases hj0 : j = 0
    · subst hj0; simpa [Addr.add] using this
    · simpa [Addr.add, hj0] using this
theorem Gb.plain {w : World} {base n c : Nat} {A : Option Addr} {xs : List Nat} (h : Gb w base A n c xs) : A = none ∧ n = 0 ∨ ∃ b, A = some ⟨b, 0, none⟩ := by
  rcases h.2.2 with ⟨e, h0⟩ | ⟨g, cap, cur, e, _⟩
  · injection e with e1 e2 e3
    exact .inl ⟨e1, h0⟩
  · injection e with e1 e2 e3
    exact .inr ⟨g, e1⟩
/-- one more byte -/
theorem wpList_app_b (w : World) {ops : Array Oper} {rest : List Oper} {o : Oper} {a : Act} {Q : Exit → Act → World → Prop} (hgd : o.guard = none) (s x : Operand)
    (ho : o.op = .call { callee := .builtin .append, args := #[s, x], argTypes := #[32, 32] }) {base n c g y : Nat} {A : Option Addr} {xs : List Nat} {w0 : World}
    (hs : a.eval s = .slice A n c) (hown : Gb w base A n c xs) (hx : a.eval x = .slice (some ⟨g, 0, none⟩) 1 1) (hc : w.cell? ⟨g, 0, none⟩ = some (.int .u8 (y : Int)))
    (hn : n ≤ 1099511627776) (hb : Below base w0 w) (hbase : base ≤ w.heap.size)
    (h : ∀ A' c' w', Gb w' base A' (n + 1) c' (xs ++ [y]) → Below base w0 w' → wpList Tryz.prog ops Q rest (a.put o.dst (.slice A' (n + 1) c')) w') : wpList Tryz.prog ops Q (o :: rest) a w := by
  obtain ⟨i0, hi, hz0, hz1, hz2⟩ := info_parts Tryz.info5
  refine wpList_append_own w hgd s x 32 ho base 5 i0 (.int .u8 0) 1 1 Tryz.underlying32 hi hz0 hz1 hz2 rfl (by decide) _ n (vb xs) hs hown.2 ⟨g, 0, none⟩ 1 1 [.int .u8 (y : Int)] hx rfl ?_ ?_ (by unfold maxLen; omega) (by omega) hbase ?_
  · intro j u hj
    match j, hj with
    | 0, hj => simp at hj; subst hj; simpa [Addr.add] using hc
  · intro u hu; simp at hu; subst hu; rfl
  · intro v' w' hown' hgrow _
    obtain ⟨A', c', rfl⟩ := own_shape hown'
    refine h A' c' w' ⟨by simp [hown.1], by rw [vb_append]; exact hown'⟩ (hb.grown hgrow hbase fun k hk => (hown.2.lt k hk).1)

theorem lim_bts8 (v : Nat) : ∀ n, Lim 256 (bts v n)
  | 0 => Lim.nil _
  | n + 1 => fun x hx => by
    rcases List.mem_cons.1 hx with rfl | hx
    · exact Nat.mod_lt _ (by omega)
    · exact lim_bts8 v n x hx
theorem bit_step (q m : Nat) : q / 2 % 2 ^ m * 2 + q % 2 = q % 2 ^ (m + 1) := by
  rw [Nat.pow_succ', Nat.mod_mul]
  omega
/-- what Write hands back, in whatever memory -/
def RWrote (v : Nat) (n : Int) (w : World) (e : Ending) (w' : World) : Prop :=
  ((n < 0 ∨ 65536 < n) ∧ e = .returned (.tuple #[.slice none 0 0, .int .i64 1]) ∧ Below w.heap.size w w') ∨
  ((0 ≤ n ∧ n ≤ 65536 ∧ 8 * n < (bl v : Int)) ∧ e = .returned (.tuple #[.slice none 0 0, .int .i64 12]) ∧ Below w.heap.size w w') ∨
  ((0 ≤ n ∧ n ≤ 65536 ∧ (bl v : Int) ≤ 8 * n) ∧ ∃ A c, e = .returned (.tuple #[.slice A n.toNat c, .int .i64 0]) ∧ Nb w' w'.heap.size A n.toNat c (bts v n.toNat) ∧ (A = none ∧ n.toNat = 0 ∨ ∃ b, A = some ⟨b, 0, none⟩) ∧ Below w.heap.size w w')


end Go.Proofs.YtkhlmcknbangfaaGreatDoor.Rn
