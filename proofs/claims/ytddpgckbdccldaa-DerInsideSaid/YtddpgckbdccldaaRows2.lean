/- Rows of ints that a call builds by append; a row of binary digits that is read. -/
import Derived.Test.YtddpgckbdccldaaShell
import Derived.OwnWalk
namespace Go.Proofs.Ytddpgckbdccldaa
set_option linter.unusedSimpArgs false
set_option linter.unusedVariables false
open Go.RowKit

/-- the cells of a row of ints -/
def is (xs : List Nat) : List Value := xs.map fun x : Nat => .int .i64 (x : Int)
theorem is_append (xs ys : List Nat) : is (xs ++ ys) = is xs ++ is ys := by simp [is]
theorem length_is (xs : List Nat) : (is xs).length = xs.length := by simp [is]

/-- a row of ints of the call's own, blocks from base on -/
def Gi (w : World) (base : Nat) (A : Option Addr) (n c : Nat) (xs : List Nat) : Prop := xs.length = n ∧ w.ownsRow base 3 1 (.slice A n c) n (is xs)
/-- a row of limbs of the call's own -/
def Gu (w : World) (base : Nat) (A : Option Addr) (n c : Nat) (xs : List Nat) : Prop := xs.length = n ∧ w.ownsRow base 66 1 (.slice A n c) n (us xs)

theorem Gi.nil (w : World) (base : Nat) : Gi w base none 0 0 [] := ⟨rfl, World.ownsRow_nil w base 3 1⟩
theorem Gu.nil (w : World) (base : Nat) : Gu w base none 0 0 [] := ⟨rfl, World.ownsRow_nil w base 66 1⟩
theorem own_shape {w : World} {base e n : Nat} {v : Value} {xs : List Value} (h : w.ownsRow base e 1 v n xs) : ∃ A c, v = .slice A n c := by
  rcases h.2 with ⟨rfl, rfl⟩ | ⟨g, cap, cur, rfl, _⟩
  · exact ⟨_, _, rfl⟩
  · exact ⟨_, _, rfl⟩

theorem Try.info3 : (Try.prog.info? 3).map (fun i => (i.zero, i.size, i.bytes)) = some (some (.int .i64 0), 1, 8) := by kernel_rfl

/-- one more int -/
theorem wpList_app_i (w : World) {ops : Array Oper} {rest : List Oper} {o : Oper} {a : Act} {Q : Exit → Act → World → Prop} (hgd : o.guard = none) (s x : Operand)
    (ho : o.op = .call { callee := .builtin .append, args := #[s, x], argTypes := #[72, 72] }) {base n c g y : Nat} {A : Option Addr} {xs : List Nat} {w0 : World}
    (hs : a.eval s = .slice A n c) (hown : Gi w base A n c xs) (hx : a.eval x = .slice (some ⟨g, 0, none⟩) 1 1) (hc : w.cell? ⟨g, 0, none⟩ = some (.int .i64 (y : Int)))
    (hn : n ≤ 1099511627776) (hb : Below base w0 w) (hbase : base ≤ w.heap.size)
    (h : ∀ A' c' w', Gi w' base A' (n + 1) c' (xs ++ [y]) → Below base w0 w' → wpList Try.prog ops Q rest (a.put o.dst (.slice A' (n + 1) c')) w') : wpList Try.prog ops Q (o :: rest) a w := by
  obtain ⟨i0, hi, hz0, hz1, hz2⟩ := info_parts Try.info3
  refine wpList_append_own w hgd s x 72 ho base 3 i0 (.int .i64 0) 1 8 Try.underlying72 hi hz0 hz1 hz2 rfl (by decide) _ n (is xs) hs hown.2 ⟨g, 0, none⟩ 1 1 [.int .i64 (y : Int)] hx rfl ?_ ?_ (by unfold maxLen; omega) (by omega) hbase ?_
  · intro j u hj
    match j, hj with
    | 0, hj => simp at hj; subst hj; simpa [Addr.add] using hc
  · intro u hu; simp at hu; subst hu; rfl
  · intro v' w' hown' hgrow _
    obtain ⟨A', c', rfl⟩ := own_shape hown'
    refine h A' c' w' ⟨by simp [hown.1], by rw [is_append]; exact hown'⟩ (hb.grown hgrow hbase fun k hk => (hown.2.lt k hk).1)
/-- one more limb -/
theorem wpList_app_u (w : World) {ops : Array Oper} {rest : List Oper} {o : Oper} {a : Act} {Q : Exit → Act → World → Prop} (hgd : o.guard = none) (s x : Operand)
    (ho : o.op = .call { callee := .builtin .append, args := #[s, x], argTypes := #[33, 33] }) {base n c g y : Nat} {A : Option Addr} {xs : List Nat} {w0 : World}
    (hs : a.eval s = .slice A n c) (hown : Gu w base A n c xs) (hx : a.eval x = .slice (some ⟨g, 0, none⟩) 1 1) (hc : w.cell? ⟨g, 0, none⟩ = some (.int .u64 (y : Int)))
    (hn : n ≤ 1099511627776) (hb : Below base w0 w) (hbase : base ≤ w.heap.size)
    (h : ∀ A' c' w', Gu w' base A' (n + 1) c' (xs ++ [y]) → Below base w0 w' → wpList Try.prog ops Q rest (a.put o.dst (.slice A' (n + 1) c')) w') : wpList Try.prog ops Q (o :: rest) a w := by
  obtain ⟨i0, hi, hz0, hz1, hz2⟩ := info_parts Try.info66
  refine wpList_append_own w hgd s x 33 ho base 66 i0 (.int .u64 0) 1 8 Try.underlying33 hi hz0 hz1 hz2 rfl (by decide) _ n (us xs) hs hown.2 ⟨g, 0, none⟩ 1 1 [.int .u64 (y : Int)] hx rfl ?_ ?_ (by unfold maxLen; omega) (by omega) hbase ?_
  · intro j u hj
    match j, hj with
    | 0, hj => simp at hj; subst hj; simpa [Addr.add] using hc
  · intro u hu; simp at hu; subst hu; rfl
  · intro v' w' hown' hgrow _
    obtain ⟨A', c', rfl⟩ := own_shape hown'
    refine h A' c' w' ⟨by simp [hown.1], by rw [us_append]; exact hown'⟩ (hb.grown hgrow hbase fun k hk => (hown.2.lt k hk).1)

/-- the slice value '.slice A n c' reads as the digits xs, each below 2; it lies below block B -/
structure Ni (w : World) (B : Nat) (A : Option Addr) (n c : Nat) (xs : List Nat) : Prop where
  len : xs.length = n
  cap : n ≤ c
  room : c ≤ maxLen
  lim : Lim 2 xs
  cell : 0 < n → ∃ b off, A = some ⟨b, off, none⟩ ∧ b < B ∧ ∀ j x : Nat, xs[j]? = some x → w.cell? ⟨b, off + j, none⟩ = some (.int .i64 (x : Int))
theorem Ni.at_ {w : World} {B : Nat} {A : Option Addr} {n c : Nat} {xs : List Nat} (h : Ni w B A n c xs) {k : Nat} (hk : k < n) :
    ∃ b off, A = some ⟨b, off, none⟩ ∧ b < B ∧ w.cell? ⟨b, off + k, none⟩ = some (.int .i64 ((xs.getD k 0 : Nat) : Int)) := by
  obtain ⟨b, off, e, hb, hc⟩ := h.cell (by omega)
  have hl : k < xs.length := by rw [h.len]; exact hk
  refine ⟨b, off, e, hb, ?_⟩
  have := hc k xs[k] (List.getElem?_eq_getElem hl)
  rw [this]
  simp [List.getD, List.getElem?_eq_getElem hl]
theorem Ni.keep {w w' : World} {B : Nat} {A : Option Addr} {n c : Nat} {xs : List Nat} (h : Ni w B A n c xs) (hk : ∀ p : Addr, p.block < B → w'.cell? p = w.cell? p) : Ni w' B A n c xs :=
  ⟨h.len, h.cap, h.room, h.lim, fun hn => by
    obtain ⟨b, off, e, hb, hc⟩ := h.cell hn
    exact ⟨b, off, e, hb, fun j x hx => (hk _ hb).trans (hc j x hx)⟩⟩
theorem Ni.more {w : World} {B B' : Nat} {A : Option Addr} {n c : Nat} {xs : List Nat} (h : Ni w B A n c xs) (hB : B ≤ B') : Ni w B' A n c xs :=
  ⟨h.len, h.cap, h.room, h.lim, fun hn => by
    obtain ⟨b, off, e, hb, hc⟩ := h.cell hn
    exact ⟨b, off, e, by omega, hc⟩⟩
theorem Ni.below {w w' : World} {B : Nat} {A : Option Addr} {n c : Nat} {xs : List Nat} (h : Ni w B A n c xs) (hb : Below B w w') : Ni w' B A n c xs := h.keep fun _ hp => hb.cell hp
theorem Ni.up {w w' : World} {A : Option Addr} {n c : Nat} {xs : List Nat} (h : Ni w w.heap.size A n c xs) (hb : Below w.heap.size w w') : Ni w' w'.heap.size A n c xs := (h.below hb).more hb.size
theorem Ni.dr {w : World} {A : Option Addr} {n c : Nat} {xs : List Nat} (h : Ni w w.heap.size A n c xs) (d : Nat) : Ni (w.drewN d) (w.drewN d).heap.size A n c xs := ⟨h.len, h.cap, h.room, h.lim, h.cell⟩
theorem Ni.rooms {w : World} {B : Nat} {A : Option Addr} {n c : Nat} {xs : List Nat} (h : Ni w B A n c xs) : n ≤ 9223372036854775807 ∧ c ≤ 9223372036854775807 := by
  have := h.cap
  have hr := h.room
  unfold maxLen at hr
  omega
theorem Gi.ni {w : World} {base n c : Nat} {A : Option Addr} {xs : List Nat} (h : Gi w base A n c xs) (hx : Lim 2 xs) : Ni w w.heap.size A n c xs := by
  obtain ⟨hl, ho⟩ := h
  rcases ho.2 with ⟨e, rfl⟩ | ⟨g, cap, cur, e, hg, hh, hnc, hcm, hsz, htk⟩
  · injection e with e1 e2 e3
    subst e1; subst e3
    exact ⟨hl, Nat.le_refl _, Nat.zero_le _, hx, fun h => absurd h (Nat.lt_irrefl _)⟩
  · injection e with e1 e2 e3
    subst e1; subst e3
    refine ⟨hl, hnc, hcm, hx, fun _ => ⟨g, 0, rfl, ho.lt g rfl |>.2, fun j x hj => ?_⟩⟩
    have := ho.cells (g := g) rfl j (.int .i64 (x : Int)) (by simp [is, hj])
    by_cases hj0 : j = 0
    · subst hj0; simpa [Addr.add] using this
    · simpa [Addr.add, hj0] using this

/-! clepsydraref01.cut, at -/
set_option maxHeartbeats 400000 in
theorem rcut_any {w : World} {B : Nat} {A : Option Addr} {n c : Nat} {xs : List Nat} (h : Ni w B A n c xs) :
    Calls Try.prog 66 #[.slice A n c] w fun e w' => e = .returned (.slice A (tl xs n) c) ∧ w = w' := by
  have hc := h.cap
  have hr := h.rooms
  go_enter Try.func66, Try.ntmps66
  go_wp2
  go_loop [3] (fun i => ∃ k : Nat, k ≤ n ∧ i = .int .i64 k ∧ Hid (tl xs k = tl xs n)) (fun i => (intOf i).toNat)
  case atStart => exact ⟨n, Nat.le_refl _, rfl, rfl⟩
  case round =>
    obtain ⟨k, hk, rfl, hT⟩ := hrel
    by_cases hk0 : k = 0
    · subst hk0
      have ht : tl xs n = 0 := hT.symm
      go_wp2
      go_ret
      exact ⟨rfl, rfl⟩
    · obtain ⟨j, rfl⟩ : ∃ j, k = j + 1 := ⟨k - 1, by omega⟩
      obtain ⟨b, off, rfl, hb, hcell⟩ := h.at_ (k := j) (by omega)
      go_wp2
      · go_round
        case rel =>
          refine ⟨j, by omega, rfl, ?_⟩
          have hz : xs.getD j 0 = 0 := by
            have : ((xs[j]?.getD 0 : Nat) : Int) = 0 := by simpa using (by assumption : (((xs[j]?.getD 0 : Nat) : Int) == 0) = true)
            simpa [List.getD] using this
          have := hT.out
          rw [tl, if_pos hz] at this
          exact this
        case measure => simp [intOf]
      · have hz : ¬ xs.getD j 0 = 0 := by
          have : ¬ ((xs[j]?.getD 0 : Nat) : Int) = 0 := by simpa using (by assumption : (((xs[j]?.getD 0 : Nat) : Int) == 0) = false)
          simpa [List.getD] using this
        have ht := hT.out
        rw [tl, if_neg hz] at ht
        go_ret
        rw [← ht]
        exact ⟨rfl, rfl⟩
theorem rcut_ni {w : World} {B : Nat} {A : Option Addr} {n c : Nat} {xs : List Nat} (h : Ni w B A n c xs) :
    Calls Try.prog 66 #[.slice A n c] w fun e w' => ∃ m, e = .returned (.slice A m c) ∧ w = w' ∧ m ≤ n ∧ Ni w B A m c (cutL xs) :=
  (rcut_any h).mono fun e w' ⟨he, hw⟩ => ⟨tl xs n, he, hw, tl_le _ _, by
    have hl := h.len
    have ht := tl_le xs n
    exact ⟨by rw [length_cutL, hl], Nat.le_trans ht h.cap, h.room, lim_cutL h.lim, fun h0 => by
      obtain ⟨b, off, e, hb, hcell⟩ := h.cell (by omega)
      refine ⟨b, off, e, hb, fun j x hx => hcell j x ?_⟩
      unfold cutL at hx
      rw [List.getElem?_take] at hx
      split at hx
      · exact hx
      · cases hx⟩⟩

/-- the binary digits of a limb, the least first -/
def lbits (x : Nat) : Nat → List Nat
  | 0 => []
  | k + 1 => lbits x k ++ [x / 2 ^ k % 2]
theorem length_lbits (x : Nat) : ∀ k, (lbits x k).length = k
  | 0 => rfl
  | k + 1 => by simp [lbits, length_lbits x k]
theorem lim_lbits (x : Nat) : ∀ k, Lim 2 (lbits x k)
  | 0 => Lim.nil _
  | k + 1 => (lim_lbits x k).append (Lim.one (Nat.mod_lt _ (by omega)))
theorem val_lbits (x : Nat) : ∀ k, val 2 (lbits x k) = x % 2 ^ k
  | 0 => by simp [lbits, val, Nat.mod_one]
  | k + 1 => by rw [lbits, val_snoc, val_lbits x k, length_lbits, Nat.pow_succ, Nat.mod_mul]
end Go.Proofs.Ytddpgckbdccldaa
