/- Bytes in memory that read as a list; turned words; a word of four bytes. -/
import Derived.Test.YtafpnpfiefbddaaDoorProg
import Derived.Test.YtafpnpfiefbddaaDoorMath
import Derived.WalkKit
import Derived.Below
import Derived.Laws.OwnMore
import Derived.Laws.CopyOwn
import Derived.Laws.BitsAll
import Derived.Deep.Draws
import Derived.Deep.QuietTactic
import Derived.BigQuiet
import Derived.Lib.Hide
import Derived.WalkLawsBesides
import Derived.WalkSpells
namespace Go.Proofs.YtafpnpfiefbddaaDoor
set_option linter.unusedSimpArgs false
set_option linter.unusedVariables false
open Go.RowKit
set_option linter.unusedVariables false
attribute [local go_sem] bits_wx bits_wa bits_wo bits_wn add_ad wrap_ad mul_up div_dn

theorem neg_and (k : Nat) (h1 : 1 ≤ k) (h2 : k ≤ 31) : bits BinOp.and IntKind.u64 (IntKind.u64.wrap (-(k : Int))) 31 = ((32 - k : Nat) : Int) := by
  have : ∀ k : Fin 32, 1 ≤ k.val → bits BinOp.and IntKind.u64 (IntKind.u64.wrap (-(k.val : Int))) 31 = ((32 - k.val : Nat) : Int) := by decide +kernel
  exact this ⟨k, by omega⟩ h1
theorem rot_any (x : Nat) (hx : x < 4294967296) (k : Nat) (hk : 1 ≤ k) (hk' : k ≤ 31) (w : World) :
    Calls Tryd.prog 69 #[.int .u32 (x : Int), .int .i64 (-(k : Int))] w fun e w' => e = .returned (.int .u32 (rt x k : Nat)) ∧ w = w' := by
  have h := neg_and k hk hk'
  obtain ⟨m, hm⟩ : ∃ m, 32 - k = m := ⟨_, rfl⟩
  rw [hm] at h
  have h1 : m ≤ 31 := by omega
  have h2 : 1 ≤ m := by omega
  have hs : IntKind.u64.wrap (32 - (m : Int)) = (k : Int) := by rw [IntKind.wrap_u64]; omega
  have Hm : Hid (rt x k = wo (up x m) (dn x k)) := by rw [← hm]; rfl
  clear hm
  go_enter Tryd.func69, Tryd.ntmps69
  go_wp2
  go_ret
  rw [Hm.out]
  exact ⟨rfl, rfl⟩
theorem turned_any (x : Nat) (hx : x < 4294967296) (k : Int) (hk : 1 ≤ k) (hk' : k ≤ 31) (w : World) :
    Calls Tryd.prog 67 #[.int .u32 (x : Int), .int .i64 k] w fun e w' => e = .returned (.int .u32 (rt x k.toNat : Nat)) ∧ w = w' := by
  obtain ⟨k, rfl⟩ := Int.eq_ofNat_of_zero_le (show 0 ≤ k by omega)
  rw [Int.toNat_natCast]
  go_enter Tryd.func67, Tryd.ntmps67
  go_wp2_with (go_at_call 69; refine (rot_any x hx k (by omega) (by omega) _).mono ?_; rintro e w' ⟨rfl, rfl⟩)
  go_ret
  exact ⟨rfl, rfl⟩
/-- the cells of a row of bytes -/
def bs (xs : List Nat) : List Value := xs.map fun x : Nat => .int .u8 (x : Int)
def Lim (n : Nat) (xs : List Nat) : Prop := ∀ x ∈ xs, x < n
theorem Lim.nil (n : Nat) : Lim n [] := fun _ h => by cases h
theorem Lim.append {n : Nat} {xs ys : List Nat} (h : Lim n xs) (k : Lim n ys) : Lim n (xs ++ ys) := fun x hx => (List.mem_append.1 hx).elim (h x) (k x)
theorem Lim.one {n x : Nat} (h : x < n) : Lim n [x] := fun y hy => by simp at hy; omega
theorem Lim.take {n : Nat} {xs : List Nat} (h : Lim n xs) (k : Nat) : Lim n (xs.take k) := fun x hx => h x (List.mem_of_mem_take hx)
theorem Lim.drop {n : Nat} {xs : List Nat} (h : Lim n xs) (k : Nat) : Lim n (xs.drop k) := fun x hx => h x (List.mem_of_mem_drop hx)
theorem Lim.get {n : Nat} {xs : List Nat} (h : Lim n xs) (hn : 0 < n) (k : Nat) : xs.getD k 0 < n := by
  by_cases hk : k < xs.length
  · simpa [List.getD, List.getElem?_eq_getElem hk] using h _ (List.getElem_mem hk)
  · simpa [List.getD, List.getElem?_eq_none (show xs.length ≤ k by omega)] using hn
/-- the slice value '.slice A n c' reads as the bytes xs; it lies below block B -/
structure Nb (w : World) (B : Nat) (A : Option Addr) (n c : Nat) (xs : List Nat) : Prop where
  len : xs.length = n
  cap : n ≤ c
  room : c ≤ 9223372036854775807
  lim : Lim 256 xs
  cell : 0 < n → ∃ b off, A = some ⟨b, off, none⟩ ∧ b < B ∧ ∀ j x : Nat, xs[j]? = some x → w.cell? ⟨b, off + j, none⟩ = some (.int .u8 (x : Int))

theorem Nb.at_ {w : World} {B : Nat} {A : Option Addr} {n c : Nat} {xs : List Nat} (h : Nb w B A n c xs) {k : Nat} (hk : k < n) :
    ∃ b off, A = some ⟨b, off, none⟩ ∧ b < B ∧ w.cell? ⟨b, off + k, none⟩ = some (.int .u8 ((xs.getD k 0 : Nat) : Int)) := by
  obtain ⟨b, off, e, hb, hc⟩ := h.cell (by omega)
  have hl : k < xs.length := by rw [h.len]; exact hk
  refine ⟨b, off, e, hb, ?_⟩
  have := hc k xs[k] (List.getElem?_eq_getElem hl)
  rw [this]
  simp [List.getD, List.getElem?_eq_getElem hl]
theorem Nb.keep {w w' : World} {B : Nat} {A : Option Addr} {n c : Nat} {xs : List Nat} (h : Nb w B A n c xs) (hk : ∀ p : Addr, p.block < B → w'.cell? p = w.cell? p) : Nb w' B A n c xs :=
  ⟨h.len, h.cap, h.room, h.lim, fun hn => by
    obtain ⟨b, off, e, hb, hc⟩ := h.cell hn
    exact ⟨b, off, e, hb, fun j x hx => (hk _ hb).trans (hc j x hx)⟩⟩
theorem Nb.more {w : World} {B B' : Nat} {A : Option Addr} {n c : Nat} {xs : List Nat} (h : Nb w B A n c xs) (hB : B ≤ B') : Nb w B' A n c xs :=
  ⟨h.len, h.cap, h.room, h.lim, fun hn => by
    obtain ⟨b, off, e, hb, hc⟩ := h.cell hn
    exact ⟨b, off, e, by omega, hc⟩⟩
theorem Nb.below {w w' : World} {B : Nat} {A : Option Addr} {n c : Nat} {xs : List Nat} (h : Nb w B A n c xs) (hb : Below B w w') : Nb w' B A n c xs := h.keep fun _ hp => hb.cell hp
theorem Nb.bel {w w' : World} {B : Nat} {A : Option Addr} {n c : Nat} {xs : List Nat} (h : Nb w w.heap.size A n c xs) (hb : Below B w w') (hB : w.heap.size ≤ B) : Nb w' w'.heap.size A n c xs :=
  (h.keep fun _ hp => hb.cell (by omega)).more hb.size
theorem Nb.drewN {w : World} {B : Nat} {A : Option Addr} {n c : Nat} {xs : List Nat} (h : Nb w B A n c xs) (k : Nat) : Nb (w.drewN k) B A n c xs := ⟨h.len, h.cap, h.room, h.lim, h.cell⟩
theorem Nb.nil (w : World) (B c : Nat) (h : c ≤ 9223372036854775807) (A : Option Addr) : Nb w B A 0 c [] := ⟨rfl, Nat.zero_le _, h, Lim.nil _, fun h => absurd h (Nat.lt_irrefl _)⟩

theorem word_bits {a b c d : Nat} (ha : a < 256) (hb : b < 256) (hc : c < 256) (hd : d < 256) :
    bits .or .u32 (bits .or .u32 (bits .or .u32 ((a : Int) * 16777216) ((b : Int) * 65536)) ((c : Int) * 256)) (d : Int) = (word a b c d : Nat) := by
  rw [← word_or ha hb hc hd, ← bits_wo, ← bits_wo, ← bits_wo]
  have e1 : up a 24 = a * 16777216 := by unfold up; omega
  have e2 : up b 16 = b * 65536 := by unfold up; omega
  have e3 : up c 8 = c * 256 := by unfold up; omega
  rw [e1, e2, e3]
  simp
/-- sha.wordOf -/
theorem wordOf_any {w : World} {B c : Nat} {A : Option Addr} {xs : List Nat} (h : Nb w B A 4 c xs) :
    Calls Tryd.prog 68 #[.slice A 4 c] w fun e w' => (∃ q, w' = w.drewN q) ∧ e = .returned (.int .u32 (word (xs.getD 0 0) (xs.getD 1 0) (xs.getD 2 0) (xs.getD 3 0) : Nat)) := by
  have hc := h.cap
  have hr := h.room
  obtain ⟨b, off, rfl, hb, h0⟩ := h.at_ (k := 0) (by omega)
  obtain ⟨b1, off1, e1, hb1, h1⟩ := h.at_ (k := 1) (by omega)
  obtain ⟨b2, off2, e2, hb2, h2⟩ := h.at_ (k := 2) (by omega)
  obtain ⟨b3, off3, e3, hb3, h3⟩ := h.at_ (k := 3) (by omega)
  simp only [Option.some.injEq, Addr.mk.injEq, and_true] at e1 e2 e3
  obtain ⟨rfl, rfl⟩ := e1
  obtain ⟨rfl, rfl⟩ := e2
  obtain ⟨rfl, rfl⟩ := e3
  have l0 := h.lim.get (by omega) 0
  have l1 := h.lim.get (by omega) 1
  have l2 := h.lim.get (by omega) 2
  have l3 := h.lim.get (by omega) 3
  generalize xs.getD 0 0 = x0 at *
  generalize xs.getD 1 0 = x1 at *
  generalize xs.getD 2 0 = x2 at *
  generalize xs.getD 3 0 = x3 at *
  have Hw := Lib.hid (word_bits l0 l1 l2 l3)
  rw [Nat.add_zero] at h0
  go_enter Tryd.func68, Tryd.ntmps68
  go_wp2
  go_quiet (fail)
  go_wp2
  go_ret
  rw [Hw.out]
  exact ⟨⟨_, rfl⟩, rfl⟩
end Go.Proofs.YtafpnpfiefbddaaDoor
