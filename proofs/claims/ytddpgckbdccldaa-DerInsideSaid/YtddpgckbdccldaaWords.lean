/- Words on memory for the walks: a row of limbs that reads as a list; it is kept while memory grows. -/
import Derived.Test.YtddpgckbdccldaaRows
import Derived.Test.YtddpgckbdccldaaMath
import Derived.WalkKit
import Derived.Below
import Derived.Laws.OwnMore
import Derived.Laws.CopyOwn
import Derived.Deep.Draws
import Derived.Deep.QuietTactic
import Derived.BigQuiet
import Derived.Lib.Hide
namespace Go.Proofs.Ytddpgckbdccldaa
set_option linter.unusedSimpArgs false
set_option linter.unusedVariables false
open Go.RowKit

/-- the cells of a row of limbs -/
def us (xs : List Nat) : List Value := xs.map fun x : Nat => .int .u64 (x : Int)

/-- the slice value '.slice A n c' reads as the limbs xs; it lies below block B -/
structure Nt (w : World) (B : Nat) (A : Option Addr) (n c : Nat) (xs : List Nat) : Prop where
  len : xs.length = n
  cap : n ≤ c
  room : c ≤ maxLen
  lim : Lim 18446744073709551616 xs
  cell : 0 < n → ∃ b off, A = some ⟨b, off, none⟩ ∧ b < B ∧ ∀ j x : Nat, xs[j]? = some x → w.cell? ⟨b, off + j, none⟩ = some (.int .u64 (x : Int))

theorem Nt.at_ {w : World} {B : Nat} {A : Option Addr} {n c : Nat} {xs : List Nat} (h : Nt w B A n c xs) {k : Nat} (hk : k < n) :
    ∃ b off, A = some ⟨b, off, none⟩ ∧ b < B ∧ w.cell? ⟨b, off + k, none⟩ = some (.int .u64 ((xs.getD k 0 : Nat) : Int)) := by
  obtain ⟨b, off, e, hb, hc⟩ := h.cell (by omega)
  have hl : k < xs.length := by rw [h.len]; exact hk
  refine ⟨b, off, e, hb, ?_⟩
  have := hc k xs[k] (List.getElem?_eq_getElem hl)
  rw [this]
  simp [List.getD, List.getElem?_eq_getElem hl]

theorem Nt.keep {w w' : World} {B : Nat} {A : Option Addr} {n c : Nat} {xs : List Nat} (h : Nt w B A n c xs) (hk : ∀ p : Addr, p.block < B → w'.cell? p = w.cell? p) : Nt w' B A n c xs :=
  ⟨h.len, h.cap, h.room, h.lim, fun hn => by
    obtain ⟨b, off, e, hb, hc⟩ := h.cell hn
    exact ⟨b, off, e, hb, fun j x hx => (hk _ hb).trans (hc j x hx)⟩⟩
theorem Nt.more {w : World} {B B' : Nat} {A : Option Addr} {n c : Nat} {xs : List Nat} (h : Nt w B A n c xs) (hB : B ≤ B') : Nt w B' A n c xs :=
  ⟨h.len, h.cap, h.room, h.lim, fun hn => by
    obtain ⟨b, off, e, hb, hc⟩ := h.cell hn
    exact ⟨b, off, e, by omega, hc⟩⟩
theorem Nt.below {w w' : World} {B : Nat} {A : Option Addr} {n c : Nat} {xs : List Nat} (h : Nt w B A n c xs) (hb : Below B w w') : Nt w' B A n c xs := h.keep fun _ hp => hb.cell hp
theorem Nt.bel {w w' : World} {B : Nat} {A : Option Addr} {n c : Nat} {xs : List Nat} (h : Nt w w.heap.size A n c xs) (hb : Below B w w') (hB : w.heap.size ≤ B) : Nt w' w'.heap.size A n c xs :=
  (h.keep fun _ hp => hb.cell (by omega)).more hb.size

set_option maxHeartbeats 400000 in
theorem cut_any {w : World} {B : Nat} {A : Option Addr} {n c : Nat} {xs : List Nat} (h : Nt w B A n c xs) :
    Calls Try.prog 60 #[.slice A n c] w fun e w' => e = .returned (.slice A (tl xs n) (tl xs n)) ∧ w = w' := by
  have hc := h.cap
  have hr := h.room
  unfold maxLen at hr
  go_enter Try.func60, Try.ntmps60
  go_wp2
  go_loop [3] (fun i => ∃ k : Nat, k ≤ n ∧ i = .int .i64 k ∧ Hid (tl xs k = tl xs n)) (fun i => (intOf i).toNat)
  case atStart => exact ⟨n, Nat.le_refl _, rfl, rfl⟩
  case round =>
    obtain ⟨k, hk, rfl, hT⟩ := hrel
    by_cases hk0 : k = 0
    · subst hk0
      have ht : tl xs n = 0 := hT.symm
      go_wp2
      go_ret
      exact ⟨rfl, rfl⟩
    · obtain ⟨j, rfl⟩ : ∃ j, k = j + 1 := ⟨k - 1, by omega⟩
      obtain ⟨b, off, rfl, hb, hcell⟩ := h.at_ (k := j) (by omega)
      go_wp2
      · go_round
        case rel =>
          refine ⟨j, by omega, rfl, ?_⟩
          have hz : xs.getD j 0 = 0 := by
            have : ((xs[j]?.getD 0 : Nat) : Int) = 0 := by simpa using (by assumption : (((xs[j]?.getD 0 : Nat) : Int) == 0) = true)
            simpa [List.getD] using this
          have := hT.out
          rw [tl, if_pos hz] at this
          exact this
        case measure => simp [intOf]
      · have hz : ¬ xs.getD j 0 = 0 := by
          have : ¬ ((xs[j]?.getD 0 : Nat) : Int) = 0 := by simpa using (by assumption : (((xs[j]?.getD 0 : Nat) : Int) == 0) = false)
          simpa [List.getD] using this
        have ht := hT.out
        rw [tl, if_neg hz] at ht
        go_ret
        rw [← ht]
        exact ⟨rfl, rfl⟩


end Go.Proofs.Ytddpgckbdccldaa
