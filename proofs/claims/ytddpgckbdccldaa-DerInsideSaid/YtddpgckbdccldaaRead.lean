/- nat.Read: the number of some bytes. -/
import Derived.Test.YtddpgckbdccldaaShell
import Derived.Test.YtddpgckbdccldaaMathE
namespace Go.Proofs.Ytddpgckbdccldaa
set_option linter.unusedSimpArgs false
set_option linter.unusedVariables false
open Go.RowKit

/-- the slice value '.slice A n c' reads as the bytes xs; it lies below block B -/
structure Nb (w : World) (B : Nat) (A : Option Addr) (n c : Nat) (xs : List Nat) : Prop where
  len : xs.length = n
  cap : n ≤ c
  room : c ≤ maxLen
  lim : Lim 256 xs
  cell : 0 < n → ∃ b off, A = some ⟨b, off, none⟩ ∧ b < B ∧ ∀ j x : Nat, xs[j]? = some x → w.cell? ⟨b, off + j, none⟩ = some (.int .u8 (x : Int))
theorem Nb.at_ {w : World} {B : Nat} {A : Option Addr} {n c : Nat} {xs : List Nat} (h : Nb w B A n c xs) {k : Nat} (hk : k < n) :
    ∃ b off, A = some ⟨b, off, none⟩ ∧ b < B ∧ w.cell? ⟨b, off + k, none⟩ = some (.int .u8 ((xs.getD k 0 : Nat) : Int)) := by
  obtain ⟨b, off, e, hb, hc⟩ := h.cell (by omega)
  have hl : k < xs.length := by rw [h.len]; exact hk
  refine ⟨b, off, e, hb, ?_⟩
  have := hc k xs[k] (List.getElem?_eq_getElem hl)
  rw [this]
  simp [List.getD, List.getElem?_eq_getElem hl]
theorem Nb.keep {w w' : World} {B : Nat} {A : Option Addr} {n c : Nat} {xs : List Nat} (h : Nb w B A n c xs) (hk : ∀ p : Addr, p.block < B → w'.cell? p = w.cell? p) : Nb w' B A n c xs :=
  ⟨h.len, h.cap, h.room, h.lim, fun hn => by
    obtain ⟨b, off, e, hb, hc⟩ := h.cell hn
    exact ⟨b, off, e, hb, fun j x hx => (hk _ hb).trans (hc j x hx)⟩⟩
theorem Nb.more {w : World} {B B' : Nat} {A : Option Addr} {n c : Nat} {xs : List Nat} (h : Nb w B A n c xs) (hB : B ≤ B') : Nb w B' A n c xs :=
  ⟨h.len, h.cap, h.room, h.lim, fun hn => by
    obtain ⟨b, off, e, hb, hc⟩ := h.cell hn
    exact ⟨b, off, e, by omega, hc⟩⟩
theorem Nb.below {w w' : World} {B : Nat} {A : Option Addr} {n c : Nat} {xs : List Nat} (h : Nb w B A n c xs) (hb : Below B w w') : Nb w' B A n c xs := h.keep fun _ hp => hb.cell hp
theorem Nb.up {w w' : World} {A : Option Addr} {n c : Nat} {xs : List Nat} (h : Nb w w.heap.size A n c xs) (hb : Below w.heap.size w w') : Nb w' w'.heap.size A n c xs := (h.below hb).more hb.size
theorem Nb.dr {w : World} {A : Option Addr} {n c : Nat} {xs : List Nat} (h : Nb w w.heap.size A n c xs) (d : Nat) : Nb (w.drewN d) (w.drewN d).heap.size A n c xs := ⟨h.len, h.cap, h.room, h.lim, h.cell⟩
theorem Nb.rooms {w : World} {B : Nat} {A : Option Addr} {n c : Nat} {xs : List Nat} (h : Nb w B A n c xs) : n ≤ 9223372036854775807 ∧ c ≤ 9223372036854775807 := by
  have := h.cap
  have hr := h.room
  unfold maxLen at hr
  omega
theorem nb_nil (w : World) (B : Nat) : Nb w B none 0 0 [] := ⟨rfl, Nat.le_refl _, Nat.zero_le _, Lim.nil _, fun h => absurd h (Nat.lt_irrefl _)⟩
theorem Ob.nb {w : World} {g n : Nat} {xs : List Nat} (h : Ob w g xs) (hn : xs.length = n) (hl : n ≤ maxLen) (hx : Lim 256 xs) : Nb w w.heap.size (some ⟨g, 0, none⟩) n n xs :=
  ⟨hn, Nat.le_refl _, hl, hx, fun _ => ⟨g, 0, rfl, h.lt, fun j x hj => by rw [Nat.zero_add]; exact h.cell hj⟩⟩

theorem read_round {w wr : World} {j n d t p : Nat} {cur bs : List Nat} (hL : Lim 18446744073709551616 cur) (hi : j / 8 < cur.length) (hn : n = t + 1 + j) (hbl : bs.length = n) (hb : Lim 256 bs) (hd : bs.getD t 0 = d) (hp : j % 8 * 8 = p)
    (how : Ow wr w.heap.size cur) (hbel : Below w.heap.size w wr) (hcl : cur.length = (n + 7) / 8) (hV : val 18446744073709551616 cur = val 256 (bs.reverse.take j)) :
    ∃ (j' : Nat) (cur' : List Nat), j' ≤ n ∧ Value.int .i64 ((j : Int) + 1) = .int .i64 j' ∧ Ow (wr.setCell ⟨w.heap.size, j / 8, none⟩ (.int .u64 (bits .or .u64 ((cur.getD (j / 8) 0 : Nat) : Int) (IntKind.u64.wrap ((d : Int) * 2 ^ p))))).drew w.heap.size cur' ∧
      Below w.heap.size w (wr.setCell ⟨w.heap.size, j / 8, none⟩ (.int .u64 (bits .or .u64 ((cur.getD (j / 8) 0 : Nat) : Int) (IntKind.u64.wrap ((d : Int) * 2 ^ p))))).drew ∧ Lim 18446744073709551616 cur' ∧ Hid (cur'.length = (n + 7) / 8) ∧ Hid (val 18446744073709551616 cur' = val 256 (bs.reverse.take j')) := by
  have hd' : d < 256 := by rw [← hd]; exact hb.get (by omega) t
  have hlt : val 256 (bs.reverse.take j) < 256 ^ j := by
    have := val_lt (β := 256) (xs := bs.reverse.take j) (fun x hx => hb x (by simpa using List.mem_of_mem_take hx))
    rw [List.length_take, List.length_reverse, Nat.min_eq_left (by omega)] at this
    exact this
  obtain ⟨e1, e2, e3⟩ := byte_in hL hi hV hlt hd'
  have hw : IntKind.u64.wrap ((d : Int) * 2 ^ p) = ((d * 2 ^ p % 18446744073709551616 : Nat) : Int) := by
    rw [IntKind.wrap_u64]
    have : ((d : Int) * 2 ^ p) = ((d * 2 ^ p : Nat) : Int) := by simp
    rw [this]
    omega
  rw [hp] at e1 e2 e3
  have hv : bits .or .u64 ((cur.getD (j / 8) 0 : Nat) : Int) (IntKind.u64.wrap ((d : Int) * 2 ^ p)) = ((cur.getD (j / 8) 0 + d * 2 ^ p : Nat) : Int) := by
    rw [hw, bits_or_u64_nat _ _ (hL.get (by omega) _) (Nat.mod_lt _ (by omega)), e1]
  rw [hv]
  refine ⟨j + 1, cur.set (j / 8) (cur.getD (j / 8) 0 + d * 2 ^ p), by omega, by simp, (how.set_ _ _).drew, (hbel.setCell (Nat.le_refl _) _).drew, ?_, by simpa [Hid] using hcl, ?_⟩
  · intro x hx
    rcases List.mem_or_eq_of_mem_set hx with hx | hx
    · exact hL x hx
    · omega
  · show _ = _
    rw [e3, val_take_succ]
    congr 2
    have ht : t < bs.length := by omega
    have : bs.reverse.getD j 0 = bs.getD t 0 := by
      simp only [List.getD]
      rw [List.getElem?_reverse (by omega)]
      congr 2; omega
    rw [this, hd]

set_option maxHeartbeats 2000000 in
theorem read_any {w : World} {A : Option Addr} {n c : Nat} {bs : List Nat} (h : Nb w w.heap.size A n c bs) (hn : n ≤ 1099511627776) : Calls Try.prog 44 #[.slice A n c] w (Ret (val 256 bs.reverse) w) := by
  have hr := h.rooms
  have Hlen := Lib.hid h.len
  go_enter Try.func44, Try.ntmps44
  go_wp2_with (refine wpList_make_us _ rfl _ _ rfl _ _ ((n + 7) / 8) rfl rfl (by omega) (by omega) (by omega) ?_; intro w1 hw1 hg1)
  go_loopw [14] (fun i wr => ∃ (j : Nat) (cur : List Nat), j ≤ n ∧ i = .int .i64 j ∧ Ow wr w.heap.size cur ∧ Below w.heap.size w wr ∧ Lim 18446744073709551616 cur ∧ Hid (cur.length = (n + 7) / 8) ∧ Hid (val 18446744073709551616 cur = val 256 (bs.reverse.take j))) (fun i _ => n - (intOf i).toNat)
  case atStart => exact ⟨0, _, Nat.zero_le _, rfl, hw1, below_none hg1 (Nat.le_refl _), lim_replicate (by omega) _, by simp [Hid], by simp [Hid, val, val_replicate]⟩
  case round =>
    obtain ⟨j, cur, hj, rfl, how, hbel, hL, hcl, hV⟩ := hrel
    by_cases hlt : j < n
    · obtain ⟨t, ht⟩ : ∃ t, n = t + 1 + j := ⟨n - 1 - j, by omega⟩
      obtain ⟨b, off, rfl, hb, hx⟩ := (h.below hbel).at_ (show t < n by omega)
      have ei : (n : Int) - 1 - (j : Int) = (t : Int) := by omega
      have htn : t < n := by omega
      have hjl : j / 8 < (n + 7) / 8 := by omega
      have hjl2 : j / 8 < cur.length := by rw [hcl.out]; exact hjl
      have hc1 : wr.cell? ⟨w.heap.size, j / 8, none⟩ = some (.int .u64 ((cur.getD (j / 8) 0 : Nat) : Int)) := how.cell (by simp [List.getD, hjl2])
      have hf1 := how.frozen (j / 8)
      have hd256 := h.lim.get (by omega) t
      have hrnd := fun p hp => @read_round w wr j n _ t p cur bs hL hjl2 ht h.len h.lim rfl hp how hbel hcl.out hV.out
      generalize bs.getD t 0 = d at *
      generalize cur.getD (j / 8) 0 = x at *
      have hp : ((j : Int) % 8) * 8 = ((j % 8 * 8 : Nat) : Int) := by omega
      have hrnd' := hrnd _ rfl
      have hp8 : j % 8 * 8 ≤ 56 := by omega
      generalize j % 8 * 8 = p at *
      have Hrnd := Lib.hid hrnd'
      have Ht := Lib.hid ht
      clear hrnd hrnd' ht hjl2
      go_wp2
      go_region
      all_goals go_wp2
      all_goals go_roundw
      case rel => exact Hrnd.out
      case measure => simp [intOf]; omega
    · have hjn : j = n := by omega
      have hv := hV.out
      rw [List.take_of_length_le (by rw [List.length_reverse, Hlen.out]; omega)] at hv
      have Hcut := Lib.hid (cut_res how (Nat.le_refl _) hbel (by rw [hcl.out]; unfold maxLen; omega) hL hcl.out.symm hv)
      clear hv hjn
      go_wp2_with (go_at_call 60; refine Hcut.out.mono ?_; rintro e w' ⟨A', n', c', xs', rfl, hres⟩)
      go_ret
      exact ⟨_, _, _, _, rfl, hres⟩
end Go.Proofs.Ytddpgckbdccldaa
