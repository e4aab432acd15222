/- The plain mathematics of the digest: words of 32 bits, schedule, rounds, blocks, the padded text. Bytes in memory that read as a list; turned words; a word of four bytes. A whole array that is read out of a block, or stored into one. sha.schedule: a block's words. sha.changeBy: what one block makes of the words. The first words, a word's bytes, the digest's bytes. sha.digest. sha.padding. sha.part, sha.wholeBytes, bytes.Clone, sha.leftOver. A part of two pieces, however they lie; what is left over. sha.blocks: the blocks of two pieces come one by one. A range over a function whose body always goes on, where what a round is handed is told of the world in which it begins. sha.change: what all whole blocks of two pieces make of the words. A Hash in memory: what it has taken; sha.Sum; Hash.changed. Small words on digests. sha.Trunc. -/
import Derived.Laws.BitsAllLaws
import Derived.Test.YtkhlmcknbangfaaDoorProg
import Derived.WalkKit
import Derived.Below
import Derived.Laws.OwnMore
import Derived.Laws.CopyOwn
import Derived.Laws.BitsAll
import Derived.Deep.Draws
import Derived.Deep.QuietTactic
import Derived.BigQuiet
import Derived.Lib.Hide
import Derived.WalkLawsBesides
import Derived.WalkSpells
import Derived.Laws.CopyRow
import Derived.Laws.Rows
import Derived.LoopTactic
import Derived.StillTailTactics
import Derived.Deep.RegionWith
import Derived.OneCell
import Derived.RegionTactic
import Derived.IntWalk
import Derived.Deep.RegionLawGrows
import Derived.RangeFuncNested
import Derived.RangeFuncBound
import Derived.RangeFuncCalls
import Derived.RangeFuncLeaves
import Derived.Shelf.Abstract
import Derived.Shelf.RegionOpen
import Derived.OwnWalkIn
import Derived.TacticsInMore
import Derived.LoopNIn
import Derived.LoopIn
import Derived.RangeFuncFrom
namespace Go.Proofs.YtkhlmcknbangfaaDoor.Sh
set_option linter.unusedSimpArgs false
set_option linter.unusedVariables false

/-- the words' operations -/
def wx (a b : Nat) : Nat := (bits .xor .u32 (a : Int) (b : Int)).toNat
def wa (a b : Nat) : Nat := (bits .and .u32 (a : Int) (b : Int)).toNat
def wo (a b : Nat) : Nat := (bits .or .u32 (a : Int) (b : Int)).toNat
def wn (a : Nat) : Nat := wx 4294967295 a
def ad (a b : Nat) : Nat := (a + b) % 4294967296
def dn (x n : Nat) : Nat := x / 2 ^ n
def up (x n : Nat) : Nat := x * 2 ^ n % 4294967296
def rt (x n : Nat) : Nat := wo (up x (32 - n)) (dn x n)

theorem wrap_u32_nonneg' (n : Int) : 0 ≤ IntKind.u32.wrap n := by rw [IntKind.wrap_u32']; omega
theorem bits_u32_nonneg (o : BinOp) (h : o = .xor ∨ o = .and ∨ o = .or) (a b : Int) : 0 ≤ bits o .u32 a b := by
  rcases h with rfl | rfl | rfl <;> exact wrap_u32_nonneg' _
theorem bits_u32_lt (o : BinOp) (h : o = .xor ∨ o = .and ∨ o = .or) (a b : Int) : bits o .u32 a b < 4294967296 := by
  have : ∀ n : Int, IntKind.u32.wrap n < 4294967296 := fun n => by rw [IntKind.wrap_u32']; omega
  rcases h with rfl | rfl | rfl <;> exact this _
theorem bits_wx (a b : Nat) : bits .xor .u32 (a : Int) (b : Int) = (wx a b : Int) := by
  have := bits_u32_nonneg .xor (by simp) (a : Int) (b : Int); unfold wx; omega
theorem bits_wa (a b : Nat) : bits .and .u32 (a : Int) (b : Int) = (wa a b : Int) := by
  have := bits_u32_nonneg .and (by simp) (a : Int) (b : Int); unfold wa; omega
theorem bits_wo (a b : Nat) : bits .or .u32 (a : Int) (b : Int) = (wo a b : Int) := by
  have := bits_u32_nonneg .or (by simp) (a : Int) (b : Int); unfold wo; omega
theorem bits_wn (a : Nat) : bits .xor .u32 4294967295 (a : Int) = (wn a : Int) := bits_wx 4294967295 a
theorem bits_wn2 (a : Nat) : bits .xor .u32 (if IntKind.u32.signed = true then -1 else IntKind.u32.max) (a : Int) = (wn a : Int) := bits_wn a
theorem wx_lt (a b : Nat) : wx a b < 4294967296 := by have := bits_u32_lt .xor (by simp) (a : Int) (b : Int); unfold wx; omega
theorem wa_lt (a b : Nat) : wa a b < 4294967296 := by have := bits_u32_lt .and (by simp) (a : Int) (b : Int); unfold wa; omega
theorem wo_lt (a b : Nat) : wo a b < 4294967296 := by have := bits_u32_lt .or (by simp) (a : Int) (b : Int); unfold wo; omega
theorem wn_lt (a : Nat) : wn a < 4294967296 := wx_lt _ _
theorem ad_lt (a b : Nat) : ad a b < 4294967296 := by unfold ad; omega
theorem rt_lt (a b : Nat) : rt a b < 4294967296 := wo_lt _ _
theorem add_ad (a b : Nat) : ((a : Int) + (b : Int)) % 4294967296 = (ad a b : Int) := by unfold ad; omega
theorem wrap_ad (a b : Nat) : IntKind.u32.wrap ((a : Int) + (b : Int)) = (ad a b : Int) := by rw [IntKind.wrap_u32', add_ad]
theorem div_dn (x n : Nat) : (x : Int) / 2 ^ n = (dn x n : Int) := by unfold dn; simp
theorem mul_up (x n : Nat) : (x : Int) * 2 ^ n % 4294967296 = (up x n : Int) := by unfold up; simp
theorem div_8 (x : Nat) : (x : Int) / 8 = (dn x 3 : Int) := div_dn x 3
theorem div_1024 (x : Nat) : (x : Int) / 1024 = (dn x 10 : Int) := div_dn x 10
theorem wo_comm (a b : Nat) : wo a b = wo b a := by
  show (IntKind.u32.wrap (BitVec.toNat (BitVec.ofInt 32 (a : Int) ||| BitVec.ofInt 32 (b : Int)) : Int)).toNat = (IntKind.u32.wrap (BitVec.toNat (BitVec.ofInt 32 (b : Int) ||| BitVec.ofInt 32 (a : Int)) : Int)).toNat
  rw [BitVec.or_comm]
theorem wo_nat {a b : Nat} (ha : a < 4294967296) (hb : b < 4294967296) : wo a b = a ||| b := by
  unfold wo; rw [u32_or_nat a b ha hb]; rfl
theorem or_add {a b n : Nat} (hb : b < 2 ^ n) : a * 2 ^ n ||| b = a * 2 ^ n + b := by
  rw [Nat.mul_comm, ← Nat.two_pow_add_eq_or_of_lt hb]

/-- four bytes as a word -/
def word (a b c d : Nat) : Nat := ((a * 256 + b) * 256 + c) * 256 + d
theorem word_or {a b c d : Nat} (ha : a < 256) (hb : b < 256) (hc : c < 256) (hd : d < 256) :
    wo (wo (wo (up a 24) (up b 16)) (up c 8)) d = word a b c d := by
  have e1 : up a 24 = a * 65536 * 256 := by unfold up; omega
  have e2 : up b 16 = b * 65536 := by unfold up; omega
  have e3 : up c 8 = c * 256 := by unfold up; omega
  rw [e1, e2, e3]
  have h1 : a * 65536 * 256 ||| b * 65536 = (a * 256 + b) * 65536 := by
    have := or_add (a := a) (b := b * 65536) (n := 24) (by omega)
    simp only [show (2 : Nat) ^ 24 = 16777216 from rfl] at this
    rw [show a * 65536 * 256 = a * 16777216 by omega, this]; omega
  have h2 : (a * 256 + b) * 65536 ||| c * 256 = ((a * 256 + b) * 256 + c) * 256 := by
    have := or_add (a := a * 256 + b) (b := c * 256) (n := 16) (by omega)
    simp only [show (2 : Nat) ^ 16 = 65536 from rfl] at this
    rw [this]; omega
  have h3 : ((a * 256 + b) * 256 + c) * 256 ||| d = ((a * 256 + b) * 256 + c) * 256 + d := or_add (n := 8) (by omega)
  rw [wo_nat (a := a * 65536 * 256) (by omega) (by omega), h1, wo_nat (a := (a * 256 + b) * 65536) (by omega) (by omega), h2, wo_nat (by omega) (by omega), h3]
  rfl
theorem word_lt {a b c d : Nat} (ha : a < 256) (hb : b < 256) (hc : c < 256) (hd : d < 256) : word a b c d < 4294967296 := by unfold word; omega

/-- the schedule: the first 16 words, then those that follow -/
def sg0 (x : Nat) : Nat := wx (wx (rt x 7) (rt x 18)) (dn x 3)
def sg1 (x : Nat) : Nat := wx (wx (rt x 17) (rt x 19)) (dn x 10)
def wordAt (p : List Nat) (t : Nat) : Nat := word (p.getD (4 * t) 0) (p.getD (4 * t + 1) 0) (p.getD (4 * t + 2) 0) (p.getD (4 * t + 3) 0)
def sched1 (p : List Nat) : Nat → List Nat
  | 0 => []
  | t + 1 => sched1 p t ++ [wordAt p t]
def nextW (w : List Nat) : Nat := ad (ad (ad (sg1 (w.getD (w.length - 2) 0)) (w.getD (w.length - 7) 0)) (sg0 (w.getD (w.length - 15) 0))) (w.getD (w.length - 16) 0)
def sched2 (w : List Nat) : Nat → List Nat
  | 0 => w
  | t + 1 => sched2 w t ++ [nextW (sched2 w t)]
def sched (p : List Nat) : List Nat := sched2 (sched1 p 16) 48
theorem length_sched1 (p : List Nat) (t : Nat) : (sched1 p t).length = t := by induction t with
  | zero => rfl
  | succ t ih => simp [sched1, ih]
theorem length_sched2 (w : List Nat) (t : Nat) : (sched2 w t).length = w.length + t := by induction t with
  | zero => rfl
  | succ t ih => simp [sched2, ih]; omega
theorem length_sched (p : List Nat) : (sched p).length = 64 := by rw [sched, length_sched2, length_sched1]

/-- eight words, and what a round makes of them -/
structure St where
  a : Nat
  b : Nat
  c : Nat
  d : Nat
  e : Nat
  f : Nat
  g : Nat
  h : Nat
def bs1 (e : Nat) : Nat := wx (wx (rt e 6) (rt e 11)) (rt e 25)
def bs0 (a : Nat) : Nat := wx (wx (rt a 2) (rt a 13)) (rt a 22)
def ch (e f g : Nat) : Nat := wx (wa e f) (wa (wn e) g)
def maj (a b c : Nat) : Nat := wx (wx (wa a b) (wa a c)) (wa b c)
def t1 (s : St) (k w : Nat) : Nat := ad (ad (ad (ad s.h (bs1 s.e)) (ch s.e s.f s.g)) k) w
def t2 (s : St) : Nat := ad (bs0 s.a) (maj s.a s.b s.c)
def rnd (s : St) (k w : Nat) : St := ⟨ad (t1 s k w) (t2 s), s.a, s.b, s.c, ad s.d (t1 s k w), s.e, s.f, s.g⟩
def rnds (ks ws : List Nat) (s : St) : Nat → St
  | 0 => s
  | t + 1 => rnd (rnds ks ws s t) (ks.getD t 0) (ws.getD t 0)
def plus (x y : St) : St := ⟨ad x.a y.a, ad x.b y.b, ad x.c y.c, ad x.d y.d, ad x.e y.e, ad x.f y.f, ad x.g y.g, ad x.h y.h⟩
def kk : List Nat := [
  0x428a2f98, 0x71374491, 0xb5c0fbcf, 0xe9b5dba5, 0x3956c25b, 0x59f111f1, 0x923f82a4, 0xab1c5ed5,
  0xd807aa98, 0x12835b01, 0x243185be, 0x550c7dc3, 0x72be5d74, 0x80deb1fe, 0x9bdc06a7, 0xc19bf174,
  0xe49b69c1, 0xefbe4786, 0x0fc19dc6, 0x240ca1cc, 0x2de92c6f, 0x4a7484aa, 0x5cb0a9dc, 0x76f988da,
  0x983e5152, 0xa831c66d, 0xb00327c8, 0xbf597fc7, 0xc6e00bf3, 0xd5a79147, 0x06ca6351, 0x14292967,
  0x27b70a85, 0x2e1b2138, 0x4d2c6dfc, 0x53380d13, 0x650a7354, 0x766a0abb, 0x81c2c92e, 0x92722c85,
  0xa2bfe8a1, 0xa81a664b, 0xc24b8b70, 0xc76c51a3, 0xd192e819, 0xd6990624, 0xf40e3585, 0x106aa070,
  0x19a4c116, 0x1e376c08, 0x2748774c, 0x34b0bcb5, 0x391c0cb3, 0x4ed8aa4a, 0x5b9cca4f, 0x682e6ff3,
  0x748f82ee, 0x78a5636f, 0x84c87814, 0x8cc70208, 0x90befffa, 0xa4506ceb, 0xbef9a3f7, 0xc67178f2]
def first : St := ⟨0x6a09e667, 0xbb67ae85, 0x3c6ef372, 0xa54ff53a, 0x510e527f, 0x9b05688c, 0x1f83d9ab, 0x5be0cd19⟩
/-- what a block changes -/
def chg (s : St) (p : List Nat) : St := plus s (rnds kk (sched p) s 64)
/-- what the first n blocks of some bytes change -/
def chgN (s : St) (bs : List Nat) : Nat → St
  | 0 => s
  | n + 1 => chg (chgN s bs n) ((bs.drop (64 * n)).take 64)

/-- the digest's bytes -/
def by4 (x : Nat) : List Nat := [x / 16777216 % 256, x / 65536 % 256, x / 256 % 256, x % 256]
def words (s : St) : List Nat := [s.a, s.b, s.c, s.d, s.e, s.f, s.g, s.h]
def dig (s : St) : List Nat := (words s).flatMap by4
/-- eight bytes of a number, the greatest first -/
def by8 (n : Nat) : List Nat := [n / 72057594037927936 % 256, n / 281474976710656 % 256, n / 1099511627776 % 256, n / 4294967296 % 256, n / 16777216 % 256, n / 65536 % 256, n / 256 % 256, n % 256]
/-- what stands behind n bytes in the padded text -/
def pad (n : Nat) : List Nat := 128 :: (List.replicate ((119 - n % 64) % 64) 0 ++ by8 (8 * n))
theorem length_pad (n : Nat) : (pad n).length = 9 + (119 - n % 64) % 64 := by simp [pad, by8]; omega
theorem pad_whole (n : Nat) : (n + (pad n).length) % 64 = 0 := by rw [length_pad]; omega
/-- the digest -/
def sha (b : List Nat) : List Nat := dig (chgN first (b ++ pad b.length) ((b.length + (pad b.length).length) / 64))

theorem chgN_append (s : St) (a b : List Nat) (n : Nat) (h : 64 * n ≤ a.length) : chgN s (a ++ b) n = chgN s a n := by
  induction n with
  | zero => rfl
  | succ n ih =>
    rw [chgN, chgN, ih (by omega)]
    congr 1
    rw [List.drop_append_of_le_length (by omega), List.take_append_of_le_length (by simp; omega)]
theorem chgN_add (s : St) (a : List Nat) (m n : Nat) : chgN s a (m + n) = chgN (chgN s a m) (a.drop (64 * m)) n := by
  induction n with
  | zero => rfl
  | succ n ih =>
    rw [Nat.add_succ, chgN, ih, chgN, List.drop_drop, Nat.mul_add]
/-- taken in two pieces: the words behind the first, what it left over, and the second -/
theorem chgN_two (s : St) (a b : List Nat) : chgN s (a ++ b) ((a.length + b.length) / 64) =
    chgN (chgN s a (a.length / 64)) (a.drop (64 * (a.length / 64)) ++ b) (((a.drop (64 * (a.length / 64))).length + b.length) / 64) := by
  have e : (a.length + b.length) / 64 = a.length / 64 + ((a.drop (64 * (a.length / 64))).length + b.length) / 64 := by
    rw [List.length_drop]; omega
  rw [e, chgN_add, chgN_append _ _ _ _ (by omega), List.drop_append_of_le_length (by omega)]

example : (sha []).take 4 = [0xe3, 0xb0, 0xc4, 0x42] := by decide +kernel
theorem rnds_zero (ks ws : List Nat) (s : St) : rnds ks ws s 0 = s := rfl
theorem rnds_succ (ks ws : List Nat) (s : St) (t : Nat) : rnds ks ws s (t + 1) = rnd (rnds ks ws s t) (ks.getD t 0) (ws.getD t 0) := rfl
theorem chgN_zero (s : St) (b : List Nat) : chgN s b 0 = s := rfl
theorem chgN_succ (s : St) (b : List Nat) (n : Nat) : chgN s b (n + 1) = chg (chgN s b n) ((b.drop (64 * n)).take 64) := rfl
theorem chg_is (s : St) (p : List Nat) : chg s p = plus s (rnds kk (sched p) s 64) := rfl
theorem sha_is (b : List Nat) : sha b = dig (chgN first (b ++ pad b.length) ((b.length + (pad b.length).length) / 64)) := rfl
attribute [irreducible] sched1 sched2 sched rnds chgN chg sha
end Go.Proofs.YtkhlmcknbangfaaDoor.Sh
namespace Go.Proofs.YtkhlmcknbangfaaDoor.Sh
open Go.RowKit
set_option linter.unusedVariables false
attribute [local go_sem] bits_wx bits_wa bits_wo bits_wn add_ad wrap_ad mul_up div_dn

theorem neg_and (k : Nat) (h1 : 1 ≤ k) (h2 : k ≤ 31) : bits BinOp.and IntKind.u64 (IntKind.u64.wrap (-(k : Int))) 31 = ((32 - k : Nat) : Int) := by
  have : ∀ k : Fin 32, 1 ≤ k.val → bits BinOp.and IntKind.u64 (IntKind.u64.wrap (-(k.val : Int))) 31 = ((32 - k.val : Nat) : Int) := by decide +kernel
  exact this ⟨k, by omega⟩ h1
theorem rot_any (x : Nat) (hx : x < 4294967296) (k : Nat) (hk : 1 ≤ k) (hk' : k ≤ 31) (w : World) :
    Calls Tryd.prog 99 #[.int .u32 (x : Int), .int .i64 (-(k : Int))] w fun e w' => e = .returned (.int .u32 (rt x k : Nat)) ∧ w = w' := by
  have h := neg_and k hk hk'
  obtain ⟨m, hm⟩ : ∃ m, 32 - k = m := ⟨_, rfl⟩
  rw [hm] at h
  have h1 : m ≤ 31 := by omega
  have h2 : 1 ≤ m := by omega
  have hs : IntKind.u64.wrap (32 - (m : Int)) = (k : Int) := by rw [IntKind.wrap_u64]; omega
  have Hm : Hid (rt x k = wo (up x m) (dn x k)) := by rw [← hm]; rfl
  clear hm
  go_enter Tryd.func99, Tryd.ntmps99
  go_wp2
  go_ret
  rw [Hm.out]
  exact ⟨rfl, rfl⟩
theorem turned_any (x : Nat) (hx : x < 4294967296) (k : Int) (hk : 1 ≤ k) (hk' : k ≤ 31) (w : World) :
    Calls Tryd.prog 97 #[.int .u32 (x : Int), .int .i64 k] w fun e w' => e = .returned (.int .u32 (rt x k.toNat : Nat)) ∧ w = w' := by
  obtain ⟨k, rfl⟩ := Int.eq_ofNat_of_zero_le (show 0 ≤ k by omega)
  rw [Int.toNat_natCast]
  go_enter Tryd.func97, Tryd.ntmps97
  go_wp2_with (go_at_call 99; refine (rot_any x hx k (by omega) (by omega) _).mono ?_; rintro e w' ⟨rfl, rfl⟩)
  go_ret
  exact ⟨rfl, rfl⟩

/-- the cells of a row of bytes -/
def bs (xs : List Nat) : List Value := xs.map fun x : Nat => .int .u8 (x : Int)
def Lim (n : Nat) (xs : List Nat) : Prop := ∀ x ∈ xs, x < n
theorem Lim.nil (n : Nat) : Lim n [] := fun _ h => by cases h
theorem Lim.append {n : Nat} {xs ys : List Nat} (h : Lim n xs) (k : Lim n ys) : Lim n (xs ++ ys) := fun x hx => (List.mem_append.1 hx).elim (h x) (k x)
theorem Lim.one {n x : Nat} (h : x < n) : Lim n [x] := fun y hy => by simp at hy; omega
theorem Lim.take {n : Nat} {xs : List Nat} (h : Lim n xs) (k : Nat) : Lim n (xs.take k) := fun x hx => h x (List.mem_of_mem_take hx)
theorem Lim.drop {n : Nat} {xs : List Nat} (h : Lim n xs) (k : Nat) : Lim n (xs.drop k) := fun x hx => h x (List.mem_of_mem_drop hx)
theorem Lim.get {n : Nat} {xs : List Nat} (h : Lim n xs) (hn : 0 < n) (k : Nat) : xs.getD k 0 < n := by
  by_cases hk : k < xs.length
  · simpa [List.getD, List.getElem?_eq_getElem hk] using h _ (List.getElem_mem hk)
  · simpa [List.getD, List.getElem?_eq_none (show xs.length ≤ k by omega)] using hn
/-- the slice value '.slice A n c' reads as the bytes xs; it lies below block B -/
structure Nb (w : World) (B : Nat) (A : Option Addr) (n c : Nat) (xs : List Nat) : Prop where
  len : xs.length = n
  cap : n ≤ c
  room : c ≤ 9223372036854775807
  lim : Lim 256 xs
  cell : 0 < n → ∃ b off, A = some ⟨b, off, none⟩ ∧ b < B ∧ ∀ j x : Nat, xs[j]? = some x → w.cell? ⟨b, off + j, none⟩ = some (.int .u8 (x : Int))

theorem Nb.at_ {w : World} {B : Nat} {A : Option Addr} {n c : Nat} {xs : List Nat} (h : Nb w B A n c xs) {k : Nat} (hk : k < n) :
    ∃ b off, A = some ⟨b, off, none⟩ ∧ b < B ∧ w.cell? ⟨b, off + k, none⟩ = some (.int .u8 ((xs.getD k 0 : Nat) : Int)) := by
  obtain ⟨b, off, e, hb, hc⟩ := h.cell (by omega)
  have hl : k < xs.length := by rw [h.len]; exact hk
  refine ⟨b, off, e, hb, ?_⟩
  have := hc k xs[k] (List.getElem?_eq_getElem hl)
  rw [this]
  simp [List.getD, List.getElem?_eq_getElem hl]
theorem Nb.keep {w w' : World} {B : Nat} {A : Option Addr} {n c : Nat} {xs : List Nat} (h : Nb w B A n c xs) (hk : ∀ p : Addr, p.block < B → w'.cell? p = w.cell? p) : Nb w' B A n c xs :=
  ⟨h.len, h.cap, h.room, h.lim, fun hn => by
    obtain ⟨b, off, e, hb, hc⟩ := h.cell hn
    exact ⟨b, off, e, hb, fun j x hx => (hk _ hb).trans (hc j x hx)⟩⟩
theorem Nb.more {w : World} {B B' : Nat} {A : Option Addr} {n c : Nat} {xs : List Nat} (h : Nb w B A n c xs) (hB : B ≤ B') : Nb w B' A n c xs :=
  ⟨h.len, h.cap, h.room, h.lim, fun hn => by
    obtain ⟨b, off, e, hb, hc⟩ := h.cell hn
    exact ⟨b, off, e, by omega, hc⟩⟩
theorem Nb.below {w w' : World} {B : Nat} {A : Option Addr} {n c : Nat} {xs : List Nat} (h : Nb w B A n c xs) (hb : Below B w w') : Nb w' B A n c xs := h.keep fun _ hp => hb.cell hp
theorem Nb.bel {w w' : World} {B : Nat} {A : Option Addr} {n c : Nat} {xs : List Nat} (h : Nb w w.heap.size A n c xs) (hb : Below B w w') (hB : w.heap.size ≤ B) : Nb w' w'.heap.size A n c xs :=
  (h.keep fun _ hp => hb.cell (by omega)).more hb.size
theorem Nb.drewN {w : World} {B : Nat} {A : Option Addr} {n c : Nat} {xs : List Nat} (h : Nb w B A n c xs) (k : Nat) : Nb (w.drewN k) B A n c xs := ⟨h.len, h.cap, h.room, h.lim, h.cell⟩
theorem Nb.nil (w : World) (B c : Nat) (h : c ≤ 9223372036854775807) (A : Option Addr) : Nb w B A 0 c [] := ⟨rfl, Nat.zero_le _, h, Lim.nil _, fun h => absurd h (Nat.lt_irrefl _)⟩

theorem word_bits {a b c d : Nat} (ha : a < 256) (hb : b < 256) (hc : c < 256) (hd : d < 256) :
    bits .or .u32 (bits .or .u32 (bits .or .u32 ((a : Int) * 16777216) ((b : Int) * 65536)) ((c : Int) * 256)) (d : Int) = (word a b c d : Nat) := by
  rw [← word_or ha hb hc hd, ← bits_wo, ← bits_wo, ← bits_wo]
  have e1 : up a 24 = a * 16777216 := by unfold up; omega
  have e2 : up b 16 = b * 65536 := by unfold up; omega
  have e3 : up c 8 = c * 256 := by unfold up; omega
  rw [e1, e2, e3]
  simp
/-- sha.wordOf -/
theorem wordOf_any {w : World} {B c : Nat} {A : Option Addr} {xs : List Nat} (h : Nb w B A 4 c xs) :
    Calls Tryd.prog 98 #[.slice A 4 c] w fun e w' => (∃ q, w' = w.drewN q) ∧ e = .returned (.int .u32 (word (xs.getD 0 0) (xs.getD 1 0) (xs.getD 2 0) (xs.getD 3 0) : Nat)) := by
  have hc := h.cap
  have hr := h.room
  obtain ⟨b, off, rfl, hb, h0⟩ := h.at_ (k := 0) (by omega)
  obtain ⟨b1, off1, e1, hb1, h1⟩ := h.at_ (k := 1) (by omega)
  obtain ⟨b2, off2, e2, hb2, h2⟩ := h.at_ (k := 2) (by omega)
  obtain ⟨b3, off3, e3, hb3, h3⟩ := h.at_ (k := 3) (by omega)
  simp only [Option.some.injEq, Addr.mk.injEq, and_true] at e1 e2 e3
  obtain ⟨rfl, rfl⟩ := e1
  obtain ⟨rfl, rfl⟩ := e2
  obtain ⟨rfl, rfl⟩ := e3
  have l0 := h.lim.get (by omega) 0
  have l1 := h.lim.get (by omega) 1
  have l2 := h.lim.get (by omega) 2
  have l3 := h.lim.get (by omega) 3
  generalize xs.getD 0 0 = x0 at *
  generalize xs.getD 1 0 = x1 at *
  generalize xs.getD 2 0 = x2 at *
  generalize xs.getD 3 0 = x3 at *
  have Hw := Lib.hid (word_bits l0 l1 l2 l3)
  rw [Nat.add_zero] at h0
  go_enter Tryd.func98, Tryd.ntmps98
  go_wp2
  go_quiet (fail)
  go_wp2
  go_ret
  rw [Hw.out]
  exact ⟨⟨_, rfl⟩, rfl⟩
end Go.Proofs.YtkhlmcknbangfaaDoor.Sh
namespace Go.Proofs.YtkhlmcknbangfaaDoor.Sh
open Go.RowKit
set_option linter.unusedVariables false

theorem run_storeVar_row {P : Program} (w : World) (g : Nat) (ty : TypeId) (cs : List Value) (t : TypeId) (cur : Array Value) (hg : w.heap[g]? = some (.cells cur t (0, 0)))
    (h1 : ∀ v ∈ cs, v.oneCell' = true) (hs : cs.length = cur.size) (hi : (P.info? ty).map (·.size) = some cs.length) :
    (storeVar ty ⟨g, 0, none⟩ (.agg cs.toArray)).run P w = .ok () (w.setRow g cs.toArray) := by
  cases hq : P.info? ty with
  | none => simp [hq] at hi
  | some i =>
    have hsz : i.size = cs.length := by simpa [hq] using hi
    have hst := run_storeCells_at (P := P) g 0 t cs 0 cur w hg (by omega) h1
    have e : (List.take (0 + 0) cur.toList ++ cs ++ List.drop (0 + 0 + cs.length) cur.toList).toArray = cs.toArray := by
      rw [List.drop_eq_nil_of_le (by simp; omega)]; simp
    rw [e] at hst
    simp [storeVar, Sem.run_bind, sizeOf, typeInfo, hq, hsz, Value.cells, hst]
theorem wpList_store_row {P : Program} {ops : Array Oper} {rest : List Oper} {o : Oper} {a : Act} {w : World} {Q : Exit → Act → World → Prop} (hgd : o.guard = none) (hd : o.dst = none) (ty : TypeId) (x v : Operand) (ho : o.op = .store ty x v)
    (g : Nat) (hx : a.eval x = .pointer (some ⟨g, 0, none⟩)) (cs : List Value) (hv : a.eval v = .agg cs.toArray) (t : TypeId) (cur : Array Value) (hg : w.heap[g]? = some (.cells cur t (0, 0)))
    (h1 : ∀ v ∈ cs, v.oneCell' = true) (hs : cs.length = cur.size) (hi : (P.info? ty).map (·.size) = some cs.length)
    (h : wpList P ops Q rest a (w.setRow g cs.toArray)) : wpList P ops Q (o :: rest) a w := by
  refine wpList_plain hgd fun K hK => ?_
  unfold Oper.wp execOp
  simp only [ho, hx, hv, Instr.storeAt, Instr.sureAddr, Sem.run_bind, Sem.run_pure, Result.andThen_ok, run_storeVar_row w g ty cs t cur hg h1 hs hi]
  have := hK _ _ h
  simpa [Oper.upon, hd, Act.put] using this
end Go.Proofs.YtkhlmcknbangfaaDoor.Sh
namespace Go.Proofs.YtkhlmcknbangfaaDoor.Sh
open Go.RowKit
set_option linter.unusedVariables false
attribute [local go_sem] bits_wx bits_wa bits_wo bits_wn add_ad wrap_ad mul_up div_dn div_8 div_1024

/-- the values of a row of words -/
def wv (xs : List Nat) : List Value := xs.map fun x : Nat => .int .u32 (x : Int)
theorem length_wv (xs : List Nat) : (wv xs).length = xs.length := by simp [wv]
theorem wv_one (xs : List Nat) : ∀ v ∈ wv xs, v.oneCell' = true := by
  intro v hv
  simp only [wv, List.mem_map] at hv
  obtain ⟨x, _, rfl⟩ := hv
  rfl
/-- block g is just the words xs, of an array type t -/
def Wb (w : World) (g t : Nat) (xs : List Nat) : Prop := w.heap[g]? = some (.cells (wv xs).toArray t (0, 0))
theorem Wb.lt {w : World} {g t : Nat} {xs : List Nat} (h : Wb w g t xs) : g < w.heap.size := by
  rcases Nat.lt_or_ge g w.heap.size with hlt | hge
  · exact hlt
  · unfold Wb at h; rw [Array.getElem?_eq_none hge] at h; cases h
theorem Wb.cell {w : World} {g t : Nat} {xs : List Nat} (h : Wb w g t xs) {j : Nat} (hj : j < xs.length) : w.cell? ⟨g, j, none⟩ = some (.int .u32 ((xs.getD j 0 : Nat) : Int)) := by
  rw [cell_of_row w g j (wv xs).toArray t (0, 0) h]
  simp [wv, List.getD, List.getElem?_eq_getElem hj]
theorem Wb.frozen {w : World} {g t : Nat} {xs : List Nat} (h : Wb w g t xs) (j : Nat) : w.frozen? ⟨g, j, none⟩ = false := by
  unfold Wb at h
  simp [World.frozen?, h]
theorem Wb.set_ {w : World} {g t : Nat} {xs : List Nat} (h : Wb w g t xs) (j x : Nat) : Wb (w.setCell ⟨g, j, none⟩ (.int .u32 (x : Int))) g t (xs.set j x) := by
  unfold Wb at h ⊢
  simp [World.setCell, Array.getElem?_modify, h, wv]
theorem Wb.drewN {w : World} {g t : Nat} {xs : List Nat} (h : Wb w g t xs) (n : Nat) : Wb (w.drewN n) g t xs := h
theorem Wb.drew {w : World} {g t : Nat} {xs : List Nat} (h : Wb w g t xs) : Wb w.drew g t xs := h
theorem Wb.alloc {w : World} {g t : Nat} {xs : List Nat} (h : Wb w g t xs) (o : Obj) : Wb (w.alloc o) g t xs := (Below.heap_alloc w o g h.lt).trans h
theorem Wb.below {w w' : World} {B g t : Nat} {xs : List Nat} (h : Wb w g t xs) (hb : Below B w w') (hg : g < B) : Wb w' g t xs := (hb.block g hg).trans h
theorem Wb.other {w : World} {g t : Nat} {xs : List Nat} (h : Wb w g t xs) {p : Addr} (hp : p.block ≠ g) (v : Value) : Wb (w.setCell p v) g t xs := (Below.heap_setCell w p v g (fun e => hp e.symm)).trans h

theorem below_drewN {B : Nat} {a w : World} (h : Below B a w) (n : Nat) : Below B a (w.drewN n) := ⟨h.os, h.tape, h.output, h.size, h.block⟩
theorem below_drew {B : Nat} {a w : World} (h : Below B a w) : Below B a w.drew := ⟨h.os, h.tape, h.output, h.size, h.block⟩

/-- a part of a row of bytes -/
theorem Nb.part {w : World} {B n c : Nat} {A : Option Addr} {xs : List Nat} (h : Nb w B A n c xs) {b off : Nat} (hA : A = some ⟨b, off, none⟩) (k m c' : Nat) (hk : k + m ≤ n) (hc : m ≤ c') (hc' : c' ≤ 9223372036854775807) :
    Nb w B (some ⟨b, off + k, none⟩) m c' ((xs.drop k).take m) :=
  ⟨by rw [List.length_take, List.length_drop, h.len]; omega, hc, hc', (h.lim.drop k).take m, fun hm => by
    obtain ⟨b', off', e, hb, hcell⟩ := h.cell (by omega)
    subst hA
    simp only [Option.some.injEq, Addr.mk.injEq, and_true] at e
    obtain ⟨rfl, rfl⟩ := e
    refine ⟨b, off + k, rfl, hb, fun j x hj => ?_⟩
    rw [List.getElem?_take] at hj
    split at hj
    · rw [List.getElem?_drop] at hj
      rw [Nat.add_assoc]
      exact hcell _ _ hj
    · cases hj⟩

theorem wordAt_part (xs : List Nat) (t : Nat) : word (((xs.drop (4 * t)).take 4).getD 0 0) (((xs.drop (4 * t)).take 4).getD 1 0) (((xs.drop (4 * t)).take 4).getD 2 0) (((xs.drop (4 * t)).take 4).getD 3 0) = wordAt xs t := by
  unfold wordAt
  simp [List.getD, List.getElem?_drop]

theorem set_at {ws : List Nat} {n j x : Nat} (h : ws.length = j) (hj : j < n) : (ws ++ List.replicate (n - j) 0).set j x = ws ++ [x] ++ List.replicate (n - (j + 1)) 0 := by
  obtain ⟨m, hm⟩ : ∃ m, n - j = m + 1 := ⟨n - j - 1, by omega⟩
  rw [hm, show n - (j + 1) = m by omega, List.replicate_succ]
  subst h
  simp
theorem getD_app {ws zs : List Nat} {k : Nat} (h : k < ws.length) : (ws ++ zs).getD k 0 = ws.getD k 0 := by
  simp [List.getD, List.getElem?_append_left h]

theorem wordAt_lt {p : List Nat} (h : Lim 256 p) (t : Nat) : wordAt p t < 4294967296 := word_lt (h.get (by omega) _) (h.get (by omega) _) (h.get (by omega) _) (h.get (by omega) _)
theorem lim_sched1 {p : List Nat} (h : Lim 256 p) (t : Nat) : Lim 4294967296 (sched1 p t) := by
  induction t with
  | zero => rw [sched1]; exact Lim.nil _
  | succ t ih => rw [sched1]; exact ih.append (Lim.one (wordAt_lt h t))
theorem lim_sched2 {w : List Nat} (h : Lim 4294967296 w) (t : Nat) : Lim 4294967296 (sched2 w t) := by
  induction t with
  | zero => rw [sched2]; exact h
  | succ t ih => rw [sched2]; exact ih.append (Lim.one (ad_lt _ _))
/-- what a schedule hands back -/
def Zeros : Obj := .cells (wv (List.replicate 64 0)).toArray 113 (0, 0)
theorem alloc_wb (w : World) : Wb (w.alloc Zeros) w.heap.size 113 (List.replicate 64 0) := by
  exact heap_alloc_new w _
set_option maxRecDepth 100000
set_option maxHeartbeats 1000000 in
theorem schedule_any {w : World} {c : Nat} {A : Option Addr} {xs : List Nat} (h : Nb w w.heap.size A 64 c xs) :
    Calls Tryd.prog 96 #[.slice A 64 c] w fun e w' => e = .returned (.agg (wv (sched xs)).toArray) ∧ Below w.heap.size w w' := by
  have hc := h.cap
  have hr := h.room
  obtain ⟨b, off, rfl, hb, -⟩ := h.cell (by omega)
  obtain ⟨S, hS⟩ : ∃ S, sched xs = S := ⟨_, rfl⟩
  rw [hS]
  have HS := Lib.hid hS
  clear hS
  have hz := alloc_wb w
  have hb0 : Below w.heap.size w (w.alloc Zeros) := (Below.refl _ _).alloc (Nat.le_refl _) _
  go_enter Tryd.func96, Tryd.ntmps96
  go_wp2
  have hs0 : ((w.alloc Zeros).alloc Zeros).heap.size = w.heap.size + 2 := by simp
  have hz1 : Wb ((w.alloc Zeros).alloc Zeros) (w.heap.size + 1) 113 (List.replicate 64 0) := by have := alloc_wb (w.alloc Zeros); simpa using this
  have hz0 : Wb ((w.alloc Zeros).alloc Zeros) w.heap.size 113 (List.replicate 64 0) := hz.alloc _
  have hb1 : Below w.heap.size w ((w.alloc Zeros).alloc Zeros) := hb0.alloc (by simp) _
  change Code.wp _ _ _ _ ((w.alloc Zeros).alloc Zeros)
  generalize (w.alloc Zeros).alloc Zeros = w1 at *
  go_loopw [8] (fun i wr => ∃ k : Nat, k ≤ 16 ∧ i = .int .i64 k ∧ Wb wr (w.heap.size + 1) 113 (sched1 xs k ++ List.replicate (64 - k) 0) ∧ Wb wr w.heap.size 113 (List.replicate 64 0) ∧ Below w.heap.size w wr) (fun i _ => 16 - (intOf i).toNat)
  case atStart => exact ⟨0, by omega, rfl, by rw [sched1]; exact hz1, hz0, hb1⟩
  case round =>
    obtain ⟨k, hk, rfl, hw1, hw0, hB⟩ := hrel
    by_cases hlt : k < 16
    · have hp := (h.below hB).part rfl (4 * k) 4 (c - 4 * k) (by omega) (by omega) (by omega)
      have Hv := Lib.hid (set_at (n := 64) (x := wordAt xs k) (length_sched1 xs k) (by omega))
      have Hwa := Lib.hid (wordAt_part xs k)
      have hcell := hw1.cell (j := k) (by rw [List.length_append, length_sched1, List.length_replicate]; omega)
      have hfz := hw1.frozen k
      generalize (xs.drop (4 * k)).take 4 = ys at *
      go_wp2_with fail
      refine (wordOf_any hp).mono ?_
      rintro e w2 ⟨⟨q, rfl⟩, rfl⟩
      rw [Hwa.out]
      go_wp2
      go_roundw
      case rel =>
        refine ⟨k + 1, by omega, by go_num, ?_, hw0.other (by simp) _, ?_⟩
        · rw [sched1, ← Hv.out]
          exact hw1.set_ k _
        · exact (below_drewN hB q).setCell (p := ⟨w.heap.size + 1, k, none⟩) (Nat.le_succ _) _
      case measure => simp [intOf]; omega
    · obtain rfl : k = 16 := by omega
      clear hlt
      go_wp2
      have hs16 : (sched1 xs 16).length = 16 := length_sched1 xs 16
      generalize hss : sched1 xs 16 = ss at *
      have Hs := Lib.hid hss
      clear hss
      go_loopw [5] (fun i wr => ∃ k : Nat, k ≤ 48 ∧ i = .int .i64 (k + 16 : Nat) ∧ Wb wr (w.heap.size + 1) 113 (sched2 ss k ++ List.replicate (48 - k) 0) ∧ Wb wr w.heap.size 113 (List.replicate 64 0) ∧ Below w.heap.size w wr) (fun i _ => 64 - (intOf i).toNat)
      case atStart => exact ⟨0, by omega, rfl, by rw [sched2]; exact hw1, hw0, hB⟩
      case round =>
        clear hw1 hw0 hB hz1 hz0 hb1
        obtain ⟨k, hk, rfl, hw1, hw0, hB⟩ := hrel
        have hl : (sched2 ss k).length = k + 16 := by rw [length_sched2, hs16]; omega
        by_cases hlt : k < 48
        · have hll : (sched2 ss k ++ List.replicate (48 - k) 0).length = 64 := by rw [List.length_append, hl, List.length_replicate]; omega
          have c15 := hw1.cell (j := k + 1) (by omega)
          have c2 := hw1.cell (j := k + 14) (by omega)
          have c7 := hw1.cell (j := k + 9) (by omega)
          have c16 := hw1.cell (j := k) (by omega)
          have c0 := hw1.cell (j := k + 16) (by omega)
          have hfz := hw1.frozen (k + 16)
          rw [getD_app (by omega)] at c15 c2 c7 c16
          have Hv := Lib.hid (set_at (n := 64) (x := nextW (sched2 ss k)) hl (by omega))
          have Hn : Hid (nextW (sched2 ss k) = ad (ad (ad (sg1 ((sched2 ss k).getD (k + 14) 0)) ((sched2 ss k).getD (k + 9) 0)) (sg0 ((sched2 ss k).getD (k + 1) 0))) ((sched2 ss k).getD k 0)) := by
            show _ = _
            rw [nextW, hl]; rfl
          have hL := lim_sched2 (lim_sched1 h.lim 16) k
          rw [Hs.out] at hL
          have l2 := hL.get (by omega) (k + 14)
          have l15 := hL.get (by omega) (k + 1)
          clear hL
          generalize (sched2 ss k).getD (k + 14) 0 = x2 at *
          generalize (sched2 ss k).getD (k + 9) 0 = x7 at *
          generalize (sched2 ss k).getD (k + 1) 0 = x15 at *
          generalize (sched2 ss k).getD k 0 = x16 at *
          have Hll := Lib.hid hll
          have Hl := Lib.hid hl
          clear hll hl hs16
          have w2 : IntKind.i64.wrap ((k : Int) + 16 - 2) = (k : Int) + 14 := (IntWalk.i64_in _ (by omega)).trans (by omega)
          go_wp2
          go_quiet ((go_at_call 97; exact Calls.quiet_of_same ((turned_any _ (by omega) _ (by omega) (by omega) _).mono fun _ _ ⟨he, hw⟩ => ⟨he, hw.symm⟩)))
          replace hB := below_drewN hB nq
          replace hw1 := hw1.drewN nq
          replace hw0 := hw0.drewN nq
          replace c2 : (wr.drewN nq).cell? _ = _ := c2
          replace c7 : (wr.drewN nq).cell? _ = _ := c7
          replace c15 : (wr.drewN nq).cell? _ = _ := c15
          replace c16 : (wr.drewN nq).cell? _ = _ := c16
          replace c0 : (wr.drewN nq).cell? _ = _ := c0
          replace hfz : (wr.drewN nq).frozen? _ = _ := hfz
          generalize wr.drewN nq = wq at *
          go_wp2
          go_quiet ((go_at_call 97; exact Calls.quiet_of_same ((turned_any _ (by omega) _ (by omega) (by omega) _).mono fun _ _ ⟨he, hw⟩ => ⟨he, hw.symm⟩)))
          replace hB := below_drewN hB nq
          replace hw1 := hw1.drewN nq
          replace hw0 := hw0.drewN nq
          replace c2 : (wq.drewN nq).cell? _ = _ := c2
          replace c7 : (wq.drewN nq).cell? _ = _ := c7
          replace c15 : (wq.drewN nq).cell? _ = _ := c15
          replace c16 : (wq.drewN nq).cell? _ = _ := c16
          replace c0 : (wq.drewN nq).cell? _ = _ := c0
          replace hfz : (wq.drewN nq).frozen? _ = _ := hfz
          generalize wq.drewN nq = ws at *
          go_wp2
          have w7 : IntKind.i64.wrap ((k : Int) + 16 - 7) = (k : Int) + 9 := (IntWalk.i64_in _ (by omega)).trans (by omega)
          have w16 : IntKind.i64.wrap ((k : Int) + 16 - 16) = (k : Int) := (IntWalk.i64_in _ (by omega)).trans (by omega)
          have w16' : IntKind.i64.wrap (k : Int) = (k : Int) := (IntWalk.i64_in _ (by omega))
          go_region
          all_goals go_wp2
          go_roundw
          case rel =>
            refine ⟨k + 1, by omega, by go_num, ?_, (hw0.other (Nat.succ_ne_self _) _).drew, below_drew (hB.setCell (p := ⟨w.heap.size + 1, k + 16, none⟩) (Nat.le_succ _) _)⟩
            rw [sched2, show 48 - (k + 1) = 64 - (k + 16 + 1) by omega, ← Hv.out, Hn.out]
            have := hw1.set_ (k + 16) (ad (ad (ad (sg1 x2) x7) (sg0 x15)) x16)
            rw [show 48 - k = 64 - (k + 16) by omega] at this
            exact this.drew
          case measure => simp [intOf]; omega
        · have hS : Wb wr (w.heap.size + 1) 113 S := by
            have h48 : k = 48 := by omega
            rw [h48, show 48 - 48 = 0 from rfl, List.replicate_zero, List.append_nil, ← Hs.out] at hw1
            rw [← HS.out, sched]
            exact hw1
          have hge : 48 ≤ k := by omega
          have HSl : Hid (S.length = 64) := by rw [← HS.out]; exact length_sched xs
          have hL : (wv S).length = 64 := by rw [length_wv]; exact HSl.out
          have HL := Lib.hid hL
          clear hlt hw1 hl HS Hs hs16 hL
          go_wp2_with (first
            | (refine wpList_load_row rfl 113 (.tmp 3) rfl (w.heap.size + 1) rfl 113 (wv S).toArray (0, 0) _ hS Tryd.underlying113 rfl (by rw [List.size_toArray, HL.out]; kernel_rfl) ?_)
            | (refine wpList_store_row rfl rfl 113 (.tmp 2) (.tmp 75) rfl w.heap.size rfl (wv S) rfl 113 _ hw0 (wv_one S) (by rw [HL.out]; simp [wv]) (by rw [HL.out]; kernel_rfl) ?_))
          have hr1 := setRow_heap wr w.heap.size (wv (List.replicate 64 0)).toArray (wv S).toArray 113 (0, 0) hw0
          refine bodyPost_ret (v := .agg (wv S).toArray) (results_cell_row rfl _ _ w.heap.size 113 (wv S).toArray (0, 0) _ rfl hr1 Tryd.underlying113 rfl (by rw [List.size_toArray, HL.out]; kernel_rfl)) rfl ⟨rfl, ?_⟩
          exact below_setRow hB (Nat.le_refl _) _
end Go.Proofs.YtkhlmcknbangfaaDoor.Sh
namespace Go.Proofs.YtkhlmcknbangfaaDoor.Sh
open Go.RowKit
set_option linter.unusedVariables false
attribute [local go_sem] bits_wx bits_wa bits_wo bits_wn bits_wn2 add_ad wrap_ad mul_up div_dn div_8 div_1024

/-- the constants lie in memory -/
structure Ks (w : World) : Prop where
  size : 3 < w.heap.size
  cell : ∀ t, t < 64 → w.cell? ⟨3, t, none⟩ = some (.int .u32 ((kk.getD t 0 : Nat) : Int))
theorem Ks.below {w w' : World} {B : Nat} (h : Ks w) (hb : Below B w w') (hB : 3 < B) : Ks w' :=
  ⟨Nat.lt_of_lt_of_le h.size hb.size, fun t ht => (hb.cell (p := ⟨3, t, none⟩) hB).trans (h.cell t ht)⟩
theorem Ks.bel {w w' : World} (h : Ks w) (hb : Below w.heap.size w w') : Ks w' := h.below hb h.size

structure St.Ok (s : St) : Prop where
  a : s.a < 4294967296
  b : s.b < 4294967296
  c : s.c < 4294967296
  d : s.d < 4294967296
  e : s.e < 4294967296
  f : s.f < 4294967296
  g : s.g < 4294967296
  h : s.h < 4294967296
theorem rnd_ok {s : St} (hs : s.Ok) (k w : Nat) : (rnd s k w).Ok := by
  unfold rnd
  exact ⟨ad_lt (t1 s k w) (t2 s), hs.a, hs.b, hs.c, ad_lt s.d (t1 s k w), hs.e, hs.f, hs.g⟩
theorem rnds_ok {s : St} (hs : s.Ok) (ks ws : List Nat) (t : Nat) : (rnds ks ws s t).Ok := by
  induction t with
  | zero =>
    have e := rnds_zero ks ws s
    rw [e]; exact hs
  | succ t ih => rw [rnds_succ]; exact rnd_ok ih _ _
theorem plus_ok (x y : St) : (plus x y).Ok := by
  unfold plus
  exact ⟨ad_lt x.a y.a, ad_lt x.b y.b, ad_lt x.c y.c, ad_lt x.d y.d, ad_lt x.e y.e, ad_lt x.f y.f, ad_lt x.g y.g, ad_lt x.h y.h⟩
theorem chg_ok (s : St) (p : List Nat) : (chg s p).Ok := by rw [chg_is]; exact plus_ok _ _
theorem chgN_ok {s : St} (hs : s.Ok) (p : List Nat) (n : Nat) : (chgN s p n).Ok := by
  cases n with
  | zero => rw [chgN_zero]; exact hs
  | succ n => rw [chgN_succ]; exact chg_ok _ _

/-- a new block of words -/
def Ob (t : TypeId) (xs : List Nat) : Obj := .cells (wv xs).toArray t (0, 0)
/-- the words as a value -/
def sv (s : St) : Value := .agg #[.int .u32 (s.a : Int), .int .u32 (s.b : Int), .int .u32 (s.c : Int), .int .u32 (s.d : Int), .int .u32 (s.e : Int), .int .u32 (s.f : Int), .int .u32 (s.g : Int), .int .u32 (s.h : Int)]

theorem kk_lt (t : Nat) : kk.getD t 0 < 4294967296 := by
  have h : kk.all (fun x => decide (x < 4294967296)) = true := by decide +kernel
  exact Lim.get (n := 4294967296) (fun x hx => of_decide_eq_true (List.all_eq_true.1 h x hx)) (by omega) t
theorem sched_lim {p : List Nat} (h : Lim 256 p) : Lim 4294967296 (sched p) := by rw [sched]; exact lim_sched2 (lim_sched1 h 16) 48

set_option maxRecDepth 100000
set_option maxHeartbeats 2000000 in
theorem changeBy_any {w : World} {c : Nat} {A : Option Addr} {xs : List Nat} (hk : Ks w) (h : Nb w w.heap.size A 64 c xs) (s : St) (hs : s.Ok) :
    Calls Tryd.prog 91 #[sv s, .slice A 64 c] w fun e w' => e = .returned (sv (chg s xs)) ∧ Below w.heap.size w w' := by
  obtain ⟨R, hR⟩ : ∃ R, chg s xs = R := ⟨_, rfl⟩
  rw [hR]
  have hL := sched_lim h.lim
  have hl := length_sched xs
  have hr := h.room
  have hc := h.cap
  have hsz := hk.size
  obtain ⟨W, hW⟩ : ∃ W, sched xs = W := ⟨_, rfl⟩
  rw [chg_is, hW] at hR
  rw [hW] at hL hl
  have HR := Lib.hid hR
  have Hl := Lib.hid hl
  clear hR hl
  unfold sv
  obtain ⟨a, b, cc, d, ee, f, g, hh⟩ := s
  obtain ⟨h0, h1, h2, h3, h4, h5, h6, h7⟩ := hs
  dsimp only at h0 h1 h2 h3 h4 h5 h6 h7 ⊢
  go_enter Tryd.func91, Tryd.ntmps91
  go_wp2_with fail
  have hb1 : Below w.heap.size w ((w.alloc (Ob 95 [a, b, cc, d, ee, f, g, hh])).alloc (Ob 95 (List.replicate 8 0))) := ((Below.refl _ _).alloc (Nat.le_refl _) _).alloc (by simp) _
  have hx1 : Wb ((w.alloc (Ob 95 [a, b, cc, d, ee, f, g, hh])).alloc (Ob 95 (List.replicate 8 0))) w.heap.size 95 [a, b, cc, d, ee, f, g, hh] := Wb.alloc (heap_alloc_new w _) _
  have hy1 : Wb ((w.alloc (Ob 95 [a, b, cc, d, ee, f, g, hh])).alloc (Ob 95 (List.replicate 8 0))) (w.heap.size + 1) 95 (List.replicate 8 0) := by
    have := heap_alloc_new (w.alloc (Ob 95 [a, b, cc, d, ee, f, g, hh])) (Ob 95 (List.replicate 8 0))
    rwa [World.size_alloc] at this
  have hz1 : ((w.alloc (Ob 95 [a, b, cc, d, ee, f, g, hh])).alloc (Ob 95 (List.replicate 8 0))).heap.size = w.heap.size + 2 := by simp
  change Calls _ _ _ ((w.alloc (Ob 95 [a, b, cc, d, ee, f, g, hh])).alloc (Ob 95 (List.replicate 8 0))) _
  generalize (w.alloc (Ob 95 [a, b, cc, d, ee, f, g, hh])).alloc (Ob 95 (List.replicate 8 0)) = w1 at *
  refine (schedule_any ((h.below hb1).more hb1.size)).mono ?_
  rintro e w2 ⟨rfl, hB⟩
  rw [hW]
  have hx2 := hx1.below hB hx1.lt
  have hy2 := hy1.below hB hy1.lt
  have hb2 : Below w.heap.size w w2 := hb1.trans (hB.mono hb1.size)
  have hs2 := hB.size
  have Hz1 := Lib.hid hz1
  have hz2 : w.heap.size + 2 ≤ w2.heap.size := by omega
  clear hz1 hx1 hy1 hb1 hB h
  have HL : Hid ((wv W).length = 64) := by rw [length_wv]; exact Hl.out
  have hw3 : Wb (w2.alloc Zeros) w2.heap.size 113 (List.replicate 64 0) := alloc_wb w2
  have hx3 := hx2.alloc Zeros
  have hy3 := hy2.alloc Zeros
  have hb3 := hb2.alloc hb2.size Zeros
  go_wp2_with (change wpList _ _ _ _ _ (w2.alloc Zeros); refine wpList_store_row rfl rfl 113 (.tmp 5) (.tmp 20) rfl w2.heap.size rfl (wv W) rfl 113 _ hw3 (wv_one W) (by rw [HL.out]; simp [wv]) (by rw [HL.out]; kernel_rfl) ?_)
  have hw4 : Wb ((w2.alloc Zeros).setRow w2.heap.size (wv W).toArray) w2.heap.size 113 W := setRow_heap _ _ _ _ _ _ hw3
  have hx4 : Wb ((w2.alloc Zeros).setRow w2.heap.size (wv W).toArray) w.heap.size 95 [a, b, cc, d, ee, f, g, hh] := (setRow_other _ _ _ _ (by omega)).trans hx3
  have hy4 : Wb ((w2.alloc Zeros).setRow w2.heap.size (wv W).toArray) (w.heap.size + 1) 95 (List.replicate 8 0) := (setRow_other _ _ _ _ (by omega)).trans hy3
  have hb4 : Below w.heap.size w ((w2.alloc Zeros).setRow w2.heap.size (wv W).toArray) := below_setRow hb3 hb2.size _
  generalize (w2.alloc Zeros).setRow w2.heap.size (wv W).toArray = w4 at *
  generalize w2.heap.size = gw at *
  clear hw3 hx3 hy3 hb3 hx2 hy2 hb2
  have c0 : w4.cell? ⟨w.heap.size, 0, none⟩ = some (.int .u32 (a : Int)) := hx4.cell (j := 0) (by simp)
  have c1 : w4.cell? ⟨w.heap.size, 1, none⟩ = some (.int .u32 (b : Int)) := hx4.cell (j := 1) (by simp)
  have c2 : w4.cell? ⟨w.heap.size, 2, none⟩ = some (.int .u32 (cc : Int)) := hx4.cell (j := 2) (by simp)
  have c3 : w4.cell? ⟨w.heap.size, 3, none⟩ = some (.int .u32 (d : Int)) := hx4.cell (j := 3) (by simp)
  have c4 : w4.cell? ⟨w.heap.size, 4, none⟩ = some (.int .u32 (ee : Int)) := hx4.cell (j := 4) (by simp)
  have c5 : w4.cell? ⟨w.heap.size, 5, none⟩ = some (.int .u32 (f : Int)) := hx4.cell (j := 5) (by simp)
  have c6 : w4.cell? ⟨w.heap.size, 6, none⟩ = some (.int .u32 (g : Int)) := hx4.cell (j := 6) (by simp)
  have c7 : w4.cell? ⟨w.heap.size, 7, none⟩ = some (.int .u32 (hh : Int)) := hx4.cell (j := 7) (by simp)
  go_quiet (fail)
  have hw5 := hw4.drewN nq
  have hx5 := hx4.drewN nq
  have hy5 := hy4.drewN nq
  have hb5 := below_drewN hb4 nq
  clear c0 c1 c2 c3 c4 c5 c6 c7 hw4 hx4 hy4 hb4
  generalize w4.drewN nq = w5 at *
  have c0 : w5.cell? ⟨w.heap.size, 0, none⟩ = some (.int .u32 (a : Int)) := hx5.cell (j := 0) (by simp)
  have c1 : w5.cell? ⟨w.heap.size, 1, none⟩ = some (.int .u32 (b : Int)) := hx5.cell (j := 1) (by simp)
  have c2 : w5.cell? ⟨w.heap.size, 2, none⟩ = some (.int .u32 (cc : Int)) := hx5.cell (j := 2) (by simp)
  have c3 : w5.cell? ⟨w.heap.size, 3, none⟩ = some (.int .u32 (d : Int)) := hx5.cell (j := 3) (by simp)
  have c4 : w5.cell? ⟨w.heap.size, 4, none⟩ = some (.int .u32 (ee : Int)) := hx5.cell (j := 4) (by simp)
  have c5 : w5.cell? ⟨w.heap.size, 5, none⟩ = some (.int .u32 (f : Int)) := hx5.cell (j := 5) (by simp)
  have c6 : w5.cell? ⟨w.heap.size, 6, none⟩ = some (.int .u32 (g : Int)) := hx5.cell (j := 6) (by simp)
  have c7 : w5.cell? ⟨w.heap.size, 7, none⟩ = some (.int .u32 (hh : Int)) := hx5.cell (j := 7) (by simp)
  go_wp2
  go_quiet (fail)
  have hw6 := hw5.drewN nq
  have hx6 := hx5.drewN nq
  have hy6 := hy5.drewN nq
  have hb6 := below_drewN hb5 nq
  clear c0 c1 c2 c3 c4 c5 c6 c7 hw5 hx5 hy5 hb5
  generalize w5.drewN nq = w6 at *
  go_wp2
  obtain ⟨s0, hs0⟩ : ∃ s0 : St, s0 = ⟨a, b, cc, d, ee, f, g, hh⟩ := ⟨_, rfl⟩
  rw [← hs0] at HR
  have Hs0 := Lib.hid hs0
  have ok0 : s0.Ok := by rw [hs0]; exact ⟨h0, h1, h2, h3, h4, h5, h6, h7⟩
  clear hs0
  have hst : Hid (rnds kk W s0 0 = s0) := rnds_zero _ _ _
  go_loopw [6, 7, 8, 9, 10, 11, 12, 13, 37] (fun v6 v7 v8 v9 v10 v11 v12 v13 i wr => ∃ (k : Nat) (s : St), k ≤ 64 ∧ i = .int .i64 k ∧ v6 = .int .u32 (s.a : Int) ∧ v7 = .int .u32 (s.b : Int) ∧ v8 = .int .u32 (s.c : Int) ∧ v9 = .int .u32 (s.d : Int) ∧
      v10 = .int .u32 (s.e : Int) ∧ v11 = .int .u32 (s.f : Int) ∧ v12 = .int .u32 (s.g : Int) ∧ v13 = .int .u32 (s.h : Int) ∧ Hid (rnds kk W s0 k = s) ∧ s.Ok ∧ Wb wr gw 113 W ∧ Wb wr w.heap.size 95 [a, b, cc, d, ee, f, g, hh] ∧ Wb wr (w.heap.size + 1) 95 (List.replicate 8 0) ∧ Below w.heap.size w wr)
    (fun _ _ _ _ _ _ _ _ i _ => 64 - (intOf i).toNat)
  case atStart => exact ⟨0, ⟨a, b, cc, d, ee, f, g, hh⟩, by omega, rfl, rfl, rfl, rfl, rfl, rfl, rfl, rfl, rfl, by rw [← Hs0.out]; exact hst, ⟨h0, h1, h2, h3, h4, h5, h6, h7⟩, hw6, hx6, hy6, hb6⟩
  case round =>
    clear hw6 hx6 hy6 hb6 hst
    obtain ⟨k, ⟨sa, sb, sc, sd, se, sf, sg, sh⟩, hk64, rfl, rfl, rfl, rfl, rfl, rfl, rfl, rfl, rfl, Hs, ⟨k0, k1, k2, k3, k4, k5, k6, k7⟩, hw7, hx7, hy7, hb7⟩ := hrel
    dsimp only at k0 k1 k2 k3 k4 k5 k6 k7
    by_cases hlt : k < 64
    · have ck := (hk.below hb7 hsz).cell k hlt
      have cw := hw7.cell (j := k) (by rw [Hl.out]; exact hlt)
      have Hn : Hid (rnds kk W s0 (k + 1) = rnd ⟨sa, sb, sc, sd, se, sf, sg, sh⟩ (kk.getD k 0) (W.getD k 0)) := by show _ = _; rw [rnds_succ, Hs.out]
      have lk := kk_lt k
      have lw := hL.get (by omega) k
      generalize kk.getD k 0 = kv at *
      generalize W.getD k 0 = wk at *
      clear Hs
      go_wp2_with (go_at_call 97; refine (turned_any _ (by omega) _ (by omega) (by omega) _).mono ?_; rintro e w' ⟨rfl, rfl⟩)
      go_quiet (fail)
      have hw8 := hw7.drewN nq
      have hx8 := hx7.drewN nq
      have hy8 := hy7.drewN nq
      have hb8 := below_drewN hb7 nq
      clear ck cw hw7 hx7 hy7 hb7
      generalize wr.drewN nq = w8 at *
      go_wp2_with (go_at_call 97; refine (turned_any _ (by omega) _ (by omega) (by omega) _).mono ?_; rintro e w' ⟨rfl, rfl⟩)
      go_roundw
      case rel => exact ⟨k + 1, rnd ⟨sa, sb, sc, sd, se, sf, sg, sh⟩ kv wk, by omega, by go_num, rfl, rfl, rfl, rfl, rfl, rfl, rfl, rfl, Hn, rnd_ok ⟨k0, k1, k2, k3, k4, k5, k6, k7⟩ _ _, hw8, hx8, hy8, hb8⟩
      case measure => simp [intOf]; omega
    · have Hf : Hid (plus ⟨a, b, cc, d, ee, f, g, hh⟩ ⟨sa, sb, sc, sd, se, sf, sg, sh⟩ = R) := by
        have h64 : k = 64 := by omega
        have e := Hs.out
        rw [h64] at e
        show _ = _
        rw [← HR.out, e, Hs0.out]
      have hge : 64 ≤ k := by omega
      clear hlt Hs HR Hs0 ok0
      have c0 : wr.cell? ⟨w.heap.size, 0, none⟩ = some (.int .u32 (a : Int)) := hx7.cell (j := 0) (by simp)
      have c1 : wr.cell? ⟨w.heap.size, 1, none⟩ = some (.int .u32 (b : Int)) := hx7.cell (j := 1) (by simp)
      have c2 : wr.cell? ⟨w.heap.size, 2, none⟩ = some (.int .u32 (cc : Int)) := hx7.cell (j := 2) (by simp)
      have c3 : wr.cell? ⟨w.heap.size, 3, none⟩ = some (.int .u32 (d : Int)) := hx7.cell (j := 3) (by simp)
      have c4 : wr.cell? ⟨w.heap.size, 4, none⟩ = some (.int .u32 (ee : Int)) := hx7.cell (j := 4) (by simp)
      have c5 : wr.cell? ⟨w.heap.size, 5, none⟩ = some (.int .u32 (f : Int)) := hx7.cell (j := 5) (by simp)
      have c6 : wr.cell? ⟨w.heap.size, 6, none⟩ = some (.int .u32 (g : Int)) := hx7.cell (j := 6) (by simp)
      have c7 : wr.cell? ⟨w.heap.size, 7, none⟩ = some (.int .u32 (hh : Int)) := hx7.cell (j := 7) (by simp)
      go_wp2_with (refine wpList_store_row rfl rfl 95 (.tmp 4) (.tmp 134) rfl (w.heap.size + 1) rfl (wv (words (plus ⟨a, b, cc, d, ee, f, g, hh⟩ ⟨sa, sb, sc, sd, se, sf, sg, sh⟩))) rfl 95 _ hy7 (wv_one _) (by simp [wv, words]) (by kernel_rfl) ?_)
      have hr1 := setRow_heap wr (w.heap.size + 1) (wv (List.replicate 8 0)).toArray (wv (words (plus ⟨a, b, cc, d, ee, f, g, hh⟩ ⟨sa, sb, sc, sd, se, sf, sg, sh⟩))).toArray 95 (0, 0) hy7
      refine bodyPost_ret (v := .agg (wv (words (plus ⟨a, b, cc, d, ee, f, g, hh⟩ ⟨sa, sb, sc, sd, se, sf, sg, sh⟩))).toArray) (results_cell_row rfl _ _ (w.heap.size + 1) 95 _ (0, 0) _ rfl hr1 Tryd.underlying95 rfl (by kernel_rfl)) rfl ⟨?_, ?_⟩
      · rw [← Hf.out]; rfl
      · exact below_setRow hb7 (Nat.le_succ _) _
end Go.Proofs.YtkhlmcknbangfaaDoor.Sh
namespace Go.Proofs.YtkhlmcknbangfaaDoor.Sh
open Go.RowKit
set_option linter.unusedVariables false
set_option maxRecDepth 100000

theorem bs_one (xs : List Nat) : ∀ v ∈ bs xs, v.oneCell' = true := by
  intro v hv
  simp only [bs, List.mem_map] at hv
  obtain ⟨x, _, rfl⟩ := hv
  rfl
theorem length_bs (xs : List Nat) : (bs xs).length = xs.length := by simp [bs]
/-- block g is just the bytes xs, of a type t -/
def Bb (w : World) (g t : Nat) (xs : List Nat) : Prop := w.heap[g]? = some (.cells (bs xs).toArray t (0, 0))
theorem Bb.lt {w : World} {g t : Nat} {xs : List Nat} (h : Bb w g t xs) : g < w.heap.size := by
  rcases Nat.lt_or_ge g w.heap.size with hlt | hge
  · exact hlt
  · unfold Bb at h; rw [Array.getElem?_eq_none hge] at h; cases h
theorem Bb.cell {w : World} {g t : Nat} {xs : List Nat} (h : Bb w g t xs) {j x : Nat} (hx : xs[j]? = some x) : w.cell? ⟨g, j, none⟩ = some (.int .u8 (x : Int)) := by
  rw [cell_of_row w g j (bs xs).toArray t (0, 0) h]
  simp [bs, hx]
theorem Bb.cellD {w : World} {g t : Nat} {xs : List Nat} (h : Bb w g t xs) {j : Nat} (hj : j < xs.length) : w.cell? ⟨g, j, none⟩ = some (.int .u8 ((xs.getD j 0 : Nat) : Int)) := by
  refine h.cell ?_
  simp [List.getD, List.getElem?_eq_getElem hj]
theorem Bb.frozen {w : World} {g t : Nat} {xs : List Nat} (h : Bb w g t xs) (j : Nat) : w.frozen? ⟨g, j, none⟩ = false := by
  unfold Bb at h
  simp [World.frozen?, h]
theorem Bb.set_ {w : World} {g t : Nat} {xs : List Nat} (h : Bb w g t xs) (j x : Nat) : Bb (w.setCell ⟨g, j, none⟩ (.int .u8 (x : Int))) g t (xs.set j x) := by
  unfold Bb at h ⊢
  simp [World.setCell, Array.getElem?_modify, h, bs]
theorem Bb.drewN {w : World} {g t : Nat} {xs : List Nat} (h : Bb w g t xs) (n : Nat) : Bb (w.drewN n) g t xs := h
theorem Bb.drew {w : World} {g t : Nat} {xs : List Nat} (h : Bb w g t xs) : Bb w.drew g t xs := h
theorem Bb.alloc {w : World} {g t : Nat} {xs : List Nat} (h : Bb w g t xs) (o : Obj) : Bb (w.alloc o) g t xs := (Below.heap_alloc w o g h.lt).trans h
theorem Bb.below {w w' : World} {B g t : Nat} {xs : List Nat} (h : Bb w g t xs) (hb : Below B w w') (hg : g < B) : Bb w' g t xs := (hb.block g hg).trans h
theorem Bb.nb {w : World} {g t : Nat} {xs : List Nat} (h : Bb w g t xs) (off n c : Nat) (hn : off + n ≤ xs.length) (hc : n ≤ c) (hc' : c ≤ 9223372036854775807) (hL : Lim 256 xs) :
    Nb w w.heap.size (some ⟨g, off, none⟩) n c ((xs.drop off).take n) :=
  ⟨by rw [List.length_take, List.length_drop]; omega, hc, hc', (hL.drop off).take n, fun _ => ⟨g, off, rfl, h.lt, fun j x hj => by
    rw [List.getElem?_take] at hj
    split at hj
    · rw [List.getElem?_drop] at hj
      exact h.cell hj
    · cases hj⟩⟩
def Yb (t : TypeId) (xs : List Nat) : Obj := .cells (bs xs).toArray t (0, 0)
theorem alloc_bb (w : World) (t : TypeId) (xs : List Nat) : Bb (w.alloc (Yb t xs)) w.heap.size t xs := heap_alloc_new w _
theorem alloc_ob (w : World) (t : TypeId) (xs : List Nat) : Wb (w.alloc (Ob t xs)) w.heap.size t xs := heap_alloc_new w _

theorem first_ok : first.Ok := by constructor <;> decide
theorem firstWords_any (w : World) : Calls Tryd.prog 80 #[] w fun e w' => e = .returned (sv first) ∧ Below w.heap.size w w' := by
  have h1 : Wb (w.alloc (Ob 95 (List.replicate 8 0))) w.heap.size 95 (List.replicate 8 0) := alloc_ob w _ _
  have hb1 : Below w.heap.size w (w.alloc (Ob 95 (List.replicate 8 0))) := (Below.refl _ _).alloc (Nat.le_refl _) _
  go_enter Tryd.func80, Tryd.ntmps80
  go_wp2_with (change wpList _ _ _ _ _ (w.alloc (Ob 95 (List.replicate 8 0))); refine wpList_store_row rfl rfl 95 (.tmp 0) (.tmp 1) rfl w.heap.size rfl (wv (words first)) rfl 95 _ h1 (wv_one _) (by simp [wv, words]) (by kernel_rfl) ?_)
  have hr1 := setRow_heap _ w.heap.size _ (wv (words first)).toArray 95 (0, 0) h1
  exact bodyPost_ret (v := sv first) (results_cell_row rfl _ _ w.heap.size 95 _ (0, 0) _ rfl hr1 Tryd.underlying95 rfl (by kernel_rfl)) rfl ⟨rfl, below_setRow hb1 (Nat.le_refl _) _⟩

theorem bytesOf_any (x : Nat) (hx : x < 4294967296) (w : World) : Calls Tryd.prog 89 #[.int .u32 (x : Int)] w fun e w' => e = .returned (.agg (bs (by4 x)).toArray) ∧ Below w.heap.size w w' := by
  have h1 : Bb (w.alloc (Yb 102 (List.replicate 4 0))) w.heap.size 102 (List.replicate 4 0) := alloc_bb w _ _
  have hb1 : Below w.heap.size w (w.alloc (Yb 102 (List.replicate 4 0))) := (Below.refl _ _).alloc (Nat.le_refl _) _
  have e0 : (x : Int) / 16777216 = ((x / 16777216 % 256 : Nat) : Int) := by omega
  have e1 : (x : Int) / 65536 % 256 = ((x / 65536 % 256 : Nat) : Int) := by omega
  have e2 : (x : Int) / 256 % 256 = ((x / 256 % 256 : Nat) : Int) := by omega
  have e3 : (x : Int) % 256 = ((x % 256 : Nat) : Int) := by omega
  have E0 := Lib.hid e0
  have E1 := Lib.hid e1
  have E2 := Lib.hid e2
  have E3 := Lib.hid e3
  clear e0 e1 e2 e3
  go_enter Tryd.func89, Tryd.ntmps89
  go_wp2_with (change wpList _ _ _ _ _ (w.alloc (Yb 102 (List.replicate 4 0))); refine wpList_store_row rfl rfl 102 (.tmp 2) (.tmp 14) rfl w.heap.size rfl (bs (by4 x)) ?_ 102 _ h1 (bs_one _) (by simp [bs, by4]) (by kernel_rfl) ?_)
  · show Value.agg #[Value.int IntKind.u8 ((x : Int) / 16777216), Value.int IntKind.u8 ((x : Int) / 65536 % 256), Value.int IntKind.u8 ((x : Int) / 256 % 256), Value.int IntKind.u8 ((x : Int) % 256)] = _
    rw [E0.out, E1.out, E2.out, E3.out]
    rfl
  have hr1 := setRow_heap _ w.heap.size _ (bs (by4 x)).toArray 102 (0, 0) h1
  exact bodyPost_ret (v := .agg (bs (by4 x)).toArray) (results_cell_row rfl _ _ w.heap.size 102 _ (0, 0) _ rfl hr1 Tryd.underlying102 rfl (by kernel_rfl)) rfl ⟨rfl, below_setRow hb1 (Nat.le_refl _) _⟩

theorem idx_words (s : St) (k : Nat) (hk : k < 8) (W : World) : (Instr.index 95 (.agg (wv (words s)).toArray) (.int .i64 (k : Int))).run Tryd.prog W = .ok (.int .u32 (((words s).getD k 0 : Nat) : Int)) W := by
  have hh : k = 0 ∨ k = 1 ∨ k = 2 ∨ k = 3 ∨ k = 4 ∨ k = 5 ∨ k = 6 ∨ k = 7 := by omega
  rcases hh with rfl | rfl | rfl | rfl | rfl | rfl | rfl | rfl <;> rfl
end Go.Proofs.YtkhlmcknbangfaaDoor.Sh
namespace Go.Proofs.YtkhlmcknbangfaaDoor.Sh
open Go.RowKit
set_option linter.unusedVariables false
set_option maxRecDepth 100000

def digN (s : St) (k : Nat) : List Nat := ((words s).take k).flatMap by4
theorem digN_zero (s : St) : digN s 0 = [] := rfl
theorem digN_all (s : St) : digN s 8 = dig s := rfl
theorem digN_succ (s : St) (k : Nat) (hk : k < 8) : digN s (k + 1) = digN s k ++ by4 ((words s).getD k 0) := by
  have hl : k < (words s).length := hk
  unfold digN
  rw [List.take_succ_eq_append_getElem hl, List.flatMap_append]
  simp [List.getD, List.getElem?_eq_getElem hl]
theorem length_digN (s : St) (k : Nat) (hk : k ≤ 8) : (digN s k).length = 4 * k := by
  induction k with
  | zero => rfl
  | succ k ih => rw [digN_succ s k (by omega), List.length_append, ih (by omega)]; simp [by4]; omega
theorem dig_step (s : St) (k : Nat) (hk : k < 8) : splice (bs (digN s k ++ List.replicate (32 - 4 * k) 0)) (4 * k) (bs (by4 ((words s).getD k 0))) = bs (digN s (k + 1) ++ List.replicate (32 - 4 * (k + 1)) 0) := by
  have hl := length_digN s k (by omega)
  have hb : (bs (by4 ((words s).getD k 0))).length = 4 := rfl
  unfold splice
  rw [hb, digN_succ s k hk]
  simp only [bs, List.map_append]
  rw [List.take_append_of_le_length (by simp [hl]), List.take_of_length_le (by simp [hl]), List.drop_append, List.drop_eq_nil_of_le (by simp [hl]), List.append_assoc]
  congr 1
  congr 1
  simp only [List.map_replicate, List.drop_replicate, List.length_map, hl, List.nil_append]
  congr 1
  omega
theorem words_lt {s : St} (h : s.Ok) (k : Nat) : (words s).getD k 0 < 4294967296 := Lim.get (n := 4294967296) (by
  intro x hx
  simp only [words, List.mem_cons, List.not_mem_nil, or_false] at hx
  obtain ⟨h0, h1, h2, h3, h4, h5, h6, h7⟩ := h
  omega) (by omega) k

theorem slice_at (g k : Nat) (hk : k < 8) (W : World) : (Instr.sliceAt 86 (.pointer (some ⟨g, 0, none⟩)) (some (.int .i64 (4 * (k : Int)))) none none).run Tryd.prog W = .ok (.slice (some ⟨g, 4 * k, none⟩) (32 - 4 * k) (32 - 4 * k)) W := by
  have hh : k = 0 ∨ k = 1 ∨ k = 2 ∨ k = 3 ∨ k = 4 ∨ k = 5 ∨ k = 6 ∨ k = 7 := by omega
  rcases hh with rfl | rfl | rfl | rfl | rfl | rfl | rfl | rfl <;> rfl
set_option maxHeartbeats 1000000 in
theorem digest_any (s : St) (hs : s.Ok) (w : World) : Calls Tryd.prog 78 #[sv s] w fun e w' => e = .returned (.agg (bs (dig s)).toArray) ∧ Below w.heap.size w w' := by
  have hsv : sv s = .agg (wv (words s)).toArray := rfl
  have hL := fun k => words_lt hs k
  have HL := Lib.hid hL
  have HI := Lib.hid (idx_words s)
  have HS := Lib.hid (dig_step s)
  rw [hsv]
  clear hsv hL
  obtain ⟨D, hD⟩ : ∃ D, dig s = D := ⟨_, rfl⟩
  rw [hD]
  have HD := Lib.hid hD
  clear hD
  generalize hws : wv (words s) = V at *
  have HV := Lib.hid hws
  have hVl : V.length = 8 := by rw [← hws]; rfl
  have HVl := Lib.hid hVl
  have hV1 : ∀ v ∈ V, v.oneCell' = true := by rw [← hws]; exact wv_one _
  have HV1 := Lib.hid hV1
  clear hws hVl hV1
  obtain ⟨w0, hw0⟩ : ∃ w0, w0 = ((w.alloc (.cells V.toArray 95)).alloc (Yb 86 (List.replicate 32 0))).alloc (Yb 86 (List.replicate 32 0)) := ⟨_, rfl⟩
  have b0 : Below w.heap.size w w0 := by rw [hw0]; exact (((Below.refl _ _).alloc (Nat.le_refl _) _).alloc (by simp) _).alloc (by simp; omega) _
  have x0 : w0.heap[w.heap.size]? = some (.cells V.toArray 95 (0, 0)) := by
    rw [hw0]
    exact (Below.heap_alloc _ _ _ (by simp; omega)).trans ((Below.heap_alloc _ _ _ (by simp)).trans (heap_alloc_new w _))
  have o0 : Bb w0 (w.heap.size + 1) 86 (List.replicate 32 0) := by
    rw [hw0]
    have := alloc_bb (w.alloc (.cells V.toArray 95)) 86 (List.replicate 32 0)
    rw [World.size_alloc] at this
    exact this.alloc _
  have l0 : Bb w0 (w.heap.size + 2) 86 (List.replicate 32 0) := by
    rw [hw0]
    have := alloc_bb ((w.alloc (.cells V.toArray 95)).alloc (Yb 86 (List.replicate 32 0))) 86 (List.replicate 32 0)
    rwa [World.size_alloc, World.size_alloc] at this
  have HW := Lib.hid hw0
  clear hw0
  go_enter Tryd.func78, Tryd.ntmps78
  go_wp2_with (change wpList _ _ _ _ _ (((w.alloc (.cells V.toArray 95)).alloc (Yb 86 (List.replicate 32 0))).alloc (Yb 86 (List.replicate 32 0))); rw [← HW.out]; refine wpList_load_row rfl 95 (.tmp 1) rfl w.heap.size rfl 95 V.toArray (0, 0) _ x0 Tryd.underlying95 rfl (by rw [List.size_toArray, HVl.out]; kernel_rfl) ?_)
  clear HW
  go_loopw [8] (fun i wr => ∃ k : Nat, k ≤ 8 ∧ i = .int .i64 k ∧ Bb wr (w.heap.size + 2) 86 (digN s k ++ List.replicate (32 - 4 * k) 0) ∧ Bb wr (w.heap.size + 1) 86 (List.replicate 32 0) ∧ Below w.heap.size w wr) (fun i _ => 8 - (intOf i).toNat)
  case atStart => exact ⟨0, by omega, rfl, l0, o0, b0⟩
  case round =>
    clear x0 o0 l0 b0
    obtain ⟨k, hk, rfl, hl, ho, hB⟩ := hrel
    by_cases hlt : k < 8
    · have hI := HI.out k hlt
      have hwl := HL.out k
      have Hst := Lib.hid (HS.out k hlt)
      have hcl : (bs (digN s k ++ List.replicate (32 - 4 * k) 0)).length = 32 := by
        rw [length_bs, List.length_append, length_digN s k hk, List.length_replicate]; omega
      have Hcl := Lib.hid hcl
      clear hcl
      generalize (words s).getD k 0 = x at *
      go_wp2_with fail
      refine (bytesOf_any x hwl _).mono ?_
      rintro e w1 ⟨rfl, hb1⟩
      have hl1 := hl.below hb1 hl.lt
      have ho1 := ho.below hb1 ho.lt
      have hB1 : Below w.heap.size w w1 := hB.trans (hb1.mono hB.size)
      have hs1 : w.heap.size + 3 ≤ w1.heap.size := by have := hb1.size; have := hl.lt; omega
      clear hl ho hB hb1
      have hf : Bb (w1.alloc (Yb 102 (List.replicate 4 0))) w1.heap.size 102 (List.replicate 4 0) := alloc_bb w1 _ _
      have hl2 := hl1.alloc (Yb 102 (List.replicate 4 0))
      have ho2 := ho1.alloc (Yb 102 (List.replicate 4 0))
      have hB2 := hB1.alloc hB1.size (Yb 102 (List.replicate 4 0))
      go_wp2_with (change wpList _ _ _ _ _ (w1.alloc (Yb 102 (List.replicate 4 0))); refine wpList_store_row rfl rfl 102 (.tmp 6) (.tmp 13) rfl w1.heap.size rfl (bs (by4 x)) rfl 102 _ hf (bs_one _) (by simp [bs, by4]) (by kernel_rfl) ?_)
      have hf3 : Bb ((w1.alloc (Yb 102 (List.replicate 4 0))).setRow w1.heap.size (bs (by4 x)).toArray) w1.heap.size 102 (by4 x) := setRow_heap _ _ _ _ _ _ hf
      have hl3 : Bb ((w1.alloc (Yb 102 (List.replicate 4 0))).setRow w1.heap.size (bs (by4 x)).toArray) (w.heap.size + 2) 86 _ := (setRow_other _ _ _ _ (by omega)).trans hl2
      have ho3 : Bb ((w1.alloc (Yb 102 (List.replicate 4 0))).setRow w1.heap.size (bs (by4 x)).toArray) (w.heap.size + 1) 86 _ := (setRow_other _ _ _ _ (by omega)).trans ho2
      have hB3 : Below w.heap.size w ((w1.alloc (Yb 102 (List.replicate 4 0))).setRow w1.heap.size (bs (by4 x)).toArray) := below_setRow hB2 hB1.size _
      generalize (w1.alloc (Yb 102 (List.replicate 4 0))).setRow w1.heap.size (bs (by4 x)).toArray = w3 at *
      generalize w1.heap.size = g1 at *
      clear hf hl2 ho2 hB2 hl1 ho1 hB1
      have hg3 := hf3.lt
      have Hl3 : Hid (w3.drew.heap[w.heap.size + 1 + 1]? = some (.cells (bs (digN s k ++ List.replicate (32 - 4 * k) 0)).toArray 86 (0, 0))) := hl3
      have Hn : Hid ((bs (by4 x)).length = Nat.min 4 (32 - 4 * k)) := by
        show 4 = Nat.min 4 (32 - 4 * k)
        simp only [Nat.min_def]; split <;> omega
      have Hpos : Hid (0 < (bs (by4 x)).length → some (⟨w.heap.size + 1 + 1, 4 * k, none⟩ : Addr) = some ⟨w.heap.size + 1 + 1, 4 * k, none⟩ ∧ ∃ ad, some (⟨g1, 0, none⟩ : Addr) = some ad ∧ ∀ j v, (bs (by4 x))[j]? = some v → w3.drew.cell? (ad.add j) = some v) := fun _ => ⟨rfl, _, rfl, fun j v hj => by
        simp only [bs, List.getElem?_map, Option.map_eq_some_iff] at hj
        obtain ⟨y, hy, rfl⟩ := hj
        have := hf3.drew.cell hy
        by_cases hj0 : j = 0
        · subst hj0; simpa [Addr.add] using this
        · simpa [Addr.add, hj0] using this⟩
      have Hfit : Hid (4 * k + (bs (by4 x)).length ≤ (bs (digN s k ++ List.replicate (32 - 4 * k) 0)).length) := by
        show 4 * k + 4 ≤ _
        rw [Hcl.out]; omega
      generalize hcur : bs (digN s k ++ List.replicate (32 - 4 * k) 0) = cur at *
      have Hcur := Lib.hid hcur
      clear hcur
      generalize hby : bs (by4 x) = Y at *
      have HY1 : Hid (∀ v ∈ Y, v.oneCell' = true) := by show ∀ v ∈ Y, _; rw [← hby]; exact bs_one _
      clear hby hf3
      have hsl := fun W => slice_at (w.heap.size + 1 + 1) k hlt W
      have h4 : IntKind.i64.wrap (4 * (k : Int)) = 4 * (k : Int) := IntWalk.i64_in _ (by omega)
      go_region_law (refine step_copy_splice rfl (.tmp 16) (.tmp 17) 22 22 rfl 5 Tryd.underlying22 (by kernel_rfl) (some ⟨w.heap.size + 1 + 1, 4 * k, none⟩) (some ⟨g1, 0, none⟩) (32 - 4 * k) (32 - 4 * k) 4 4 rfl rfl (w.heap.size + 1 + 1) (4 * k) cur 86 Hl3.out Y Hn.out Hpos.out Hfit.out HY1.out (w.heap.size + 1 + 1) w3.drew (Below.refl _ _) (Nat.le_refl _) ?_; intro w4 hw4 hb4)
      all_goals go_wp2
      go_roundw
      case rel =>
        refine ⟨k + 1, by omega, by go_num, ?_, ho3.drew.below hb4 (by omega), (below_drew hB3).trans (hb4.mono (by omega))⟩
        have := hw4.out
        rw [Hst.out] at this
        exact this
      case measure => simp [intOf]; omega
    · have hfin : Bb wr (w.heap.size + 2) 86 D := by
        have h8 : k = 8 := by omega
        rw [h8, digN_all, HD.out] at hl
        simpa using hl
      have hDl : (bs D).length = 32 := by rw [← HD.out]; rfl
      have HDl := Lib.hid hDl
      have hge : 8 ≤ k := by omega
      clear hlt hl HS HL HI hDl
      go_wp2_with (first
        | (refine wpList_load_row rfl 86 (.tmp 3) rfl (w.heap.size + 1 + 1) rfl 86 (bs D).toArray (0, 0) _ hfin Tryd.underlying86 rfl (by rw [List.size_toArray, HDl.out]; kernel_rfl) ?_)
        | (refine wpList_store_row rfl rfl 86 (.tmp 2) (.tmp 20) rfl (w.heap.size + 1) rfl (bs D) rfl 86 _ ho (bs_one _) (by rw [HDl.out]; simp [bs]) (by rw [HDl.out]; kernel_rfl) ?_))
      have hr1 := setRow_heap wr (w.heap.size + 1) _ (bs D).toArray 86 (0, 0) ho
      exact bodyPost_ret (v := .agg (bs D).toArray) (results_cell_row rfl _ _ (w.heap.size + 1) 86 _ (0, 0) _ rfl hr1 Tryd.underlying86 rfl (by rw [List.size_toArray, HDl.out]; kernel_rfl)) rfl ⟨rfl, below_setRow hB (Nat.le_succ _) _⟩
end Go.Proofs.YtkhlmcknbangfaaDoor.Sh
namespace Go.Proofs.YtkhlmcknbangfaaDoor.Sh
open Go.RowKit
set_option linter.unusedVariables false
set_option maxRecDepth 100000

theorem Tryd.info5 : (Tryd.prog.info? 5).map (fun i => (i.zero, i.size, i.bytes)) = some (some (.int .u8 0), 1, 1) := by kernel_rfl
theorem bs_replicate (n : Nat) : bs (List.replicate n 0) = List.replicate n (.int .u8 0) := by simp [bs]
theorem run_make_bs (n : Nat) (hn : n ≤ 70368744177664) (w : World) : (Instr.makeSlice 22 (.int .i64 (n : Int)) (.int .i64 (n : Int))).run Tryd.prog w =
    .ok (.slice (some ⟨w.heap.size, 0, none⟩) n n) (w.alloc (Yb 5 (List.replicate n 0))) := by
  obtain ⟨i0, hi, hz0, hz1, hz2⟩ := info_parts Tryd.info5
  have hr := run_make (P := Tryd.prog) w 22 5 i0 (.int .u8 0) Tryd.underlying22 hi hz0 .i64 .i64 n n (by omega) (Int.le_refl _) (by rw [hz2]; omega) (by omega)
  simp only [Int.toNat_natCast] at hr
  rw [hr, hz1, Nat.mul_one]
  have : (madeCells (Value.int .u8 0).cells n) = (bs (List.replicate n 0)).toArray := by
    rw [bs_replicate]
    apply Array.ext'
    exact toList_madeCells_one _ _
  rw [this]
  rfl
theorem wpList_make_bs (w : World) {ops : Array Oper} {rest : List Oper} {o : Oper} {a : Act} {Q : Exit → Act → World → Prop}
    (hg : o.guard = none) (l c : Operand) (hop : o.op = Op.makeSlice 22 l c) (L C : Int) (n : Nat) (hl : a.eval l = .int .i64 L) (hc : a.eval c = .int .i64 C) (hL : L = (n : Int)) (hC : C = (n : Int)) (hn : n ≤ 70368744177664)
    (hK : ∀ w', Bb w' w.heap.size 5 (List.replicate n 0) → Below w.heap.size w w' → wpList Tryd.prog ops Q rest (a.put o.dst (.slice (some ⟨w.heap.size, 0, none⟩) n n)) w') :
    wpList Tryd.prog ops Q (o :: rest) a w := by
  refine wpList_plain hg fun K hK' => ?_
  have hrun := run_make_bs n hn w
  subst hL
  subst hC
  unfold Oper.wp
  simp [execOp, hop, hl, hc, hrun, Result.andThen]
  exact hK' _ _ (hK _ (alloc_bb _ _ _) ((Below.refl _ _).alloc (Nat.le_refl _) _))

/-- the padding, as far as k of the last eight bytes are laid from behind -/
def padN (n k : Nat) : List Nat := 128 :: (List.replicate ((119 - n % 64) % 64) 0 ++ (List.replicate (8 - k) 0 ++ (by8 (8 * n)).drop (8 - k)))
theorem padN_all (n : Nat) : padN n 8 = pad n := rfl
theorem padN_zero (n : Nat) : padN n 0 = (List.replicate (9 + (119 - n % 64) % 64) 0).set 0 128 := by
  unfold padN
  rw [show 9 + (119 - n % 64) % 64 = ((119 - n % 64) % 64 + 8) + 1 by omega, List.replicate_succ (n := (119 - n % 64) % 64 + 8), List.set_cons_zero, List.replicate_append_replicate.symm]
  rfl
theorem length_padN (n k : Nat) (hk : k ≤ 8) : (padN n k).length = 9 + (119 - n % 64) % 64 := by
  simp [padN, by8]; omega
theorem padN_succ (n k : Nat) (hk : k < 8) : (padN n k).set (8 + (119 - n % 64) % 64 - k) ((by8 (8 * n)).getD (7 - k) 0) = padN n (k + 1) := by
  unfold padN
  obtain ⟨z, hz⟩ : ∃ z, (119 - n % 64) % 64 = z := ⟨_, rfl⟩
  rw [hz, show 8 + z - k = (z + (7 - k)) + 1 by omega, List.set_cons_succ, List.set_append, if_neg (by simp), List.length_replicate, show z + (7 - k) - z = 7 - k by omega]
  have hh : k = 0 ∨ k = 1 ∨ k = 2 ∨ k = 3 ∨ k = 4 ∨ k = 5 ∨ k = 6 ∨ k = 7 := by omega
  rcases hh with rfl | rfl | rfl | rfl | rfl | rfl | rfl | rfl <;> rfl
theorem by8_get (N k : Nat) (hk : k < 8) : (N : Int) / 2 ^ (8 * k) % 256 = (((by8 N).getD (7 - k) 0 : Nat) : Int) := by
  have hh : k = 0 ∨ k = 1 ∨ k = 2 ∨ k = 3 ∨ k = 4 ∨ k = 5 ∨ k = 6 ∨ k = 7 := by omega
  rcases hh with rfl | rfl | rfl | rfl | rfl | rfl | rfl | rfl <;> simp [by8]
theorem pad_lim (n : Nat) : Lim 256 (pad n) := by
  intro x hx
  unfold pad at hx
  simp only [List.mem_cons, List.mem_append, List.mem_replicate, by8, List.not_mem_nil, or_false] at hx
  omega

theorem padding_any (n : Nat) (hn : n ≤ 1099511627776) (w : World) : Calls Tryd.prog 81 #[.int .i64 (n : Int)] w fun e w' => ∃ g, e = .returned (.slice (some ⟨g, 0, none⟩) (9 + (119 - n % 64) % 64) (9 + (119 - n % 64) % 64)) ∧ w.heap.size ≤ g ∧ Bb w' g 5 (pad n) ∧ Below w.heap.size w w' := by
  obtain ⟨z, hz⟩ : ∃ z, (119 - n % 64) % 64 = z := ⟨_, rfl⟩
  rw [hz]
  have ez : (119 - (n : Int) % 64) % 64 = (z : Int) := by omega
  have hz64 : z < 64 := by omega
  have Hz := Lib.hid hz
  clear hz
  go_enter Tryd.func81, Tryd.ntmps81
  go_wp2_with (refine wpList_make_bs _ rfl (.tmp 13) (.tmp 13) rfl _ _ (9 + z) rfl rfl (by omega) (by omega) (by omega) ?_; intro w1 hm hb1; have hc0 := hm.cell (j := 0) (x := 0) (by rw [List.getElem?_replicate, if_pos (by omega)]); have hf0 := hm.frozen 0)
  have hm2 := hm.set_ 0 128
  have hB2 := hb1.setCell (p := ⟨w.heap.size, 0, none⟩) (Nat.le_refl _) (.int .u8 (128 : Nat))
  rw [← Hz.out, ← padN_zero] at hm2
  change Bb (w1.setCell ⟨w.heap.size, 0, none⟩ (.int .u8 128)) _ _ _ at hm2
  change Below _ _ (w1.setCell ⟨w.heap.size, 0, none⟩ (.int .u8 128)) at hB2
  generalize w1.setCell ⟨w.heap.size, 0, none⟩ (.int .u8 128) = w2 at *
  clear hm hb1 hc0 hf0
  go_loopw [20] (fun i wr => ∃ k : Nat, k ≤ 8 ∧ i = .int .i64 k ∧ Bb wr w.heap.size 5 (padN n k) ∧ Below w.heap.size w wr) (fun i _ => 8 - (intOf i).toNat)
  case atStart => exact ⟨0, by omega, rfl, hm2, hB2⟩
  case round =>
    clear hm2 hB2
    obtain ⟨k, hk, rfl, hm, hB⟩ := hrel
    by_cases hlt : k < 8
    · have hl := length_padN n k hk
      rw [Hz.out] at hl
      have hc := hm.cellD (j := 8 + z - k) (by omega)
      have hf := hm.frozen (8 + z - k)
      have Hs := Lib.hid (padN_succ n k hlt)
      have Hg := Lib.hid (by8_get (8 * n) k hlt)
      have h8 : (8 * (k : Int)).toNat = 8 * k := by omega
      have h9 : (↑9 + ↑z - 1 - (k : Int)).toNat = 8 + z - k := by omega
      clear hl
      go_wp2
      go_roundw
      case rel =>
        refine ⟨k + 1, by omega, by go_num, ?_, hB.setCell (p := ⟨w.heap.size, 8 + z - k, none⟩) (Nat.le_refl _) _⟩
        have e : (n : Int) * 8 = ((8 * n : Nat) : Int) := by omega
        rw [e, Hg.out, ← Hs.out, Hz.out]
        exact hm.set_ _ _
      case measure => simp [intOf]; omega
    · have hf : Bb wr w.heap.size 5 (pad n) := by
        rw [show k = 8 by omega, padN_all] at hm
        exact hm
      have hge : 8 ≤ k := by omega
      clear hlt hm
      go_wp2
      go_ret
      exact ⟨w.heap.size, rfl, Nat.le_refl _, hf, hB⟩
end Go.Proofs.YtkhlmcknbangfaaDoor.Sh
namespace Go.Proofs.YtkhlmcknbangfaaDoor.Sh
open Go.RowKit
set_option linter.unusedVariables false
set_option maxRecDepth 100000

theorem whole_any (A A2 : Option Addr) (n c m c2 : Nat) (hn : n ≤ 140737488351232) (hm : m ≤ 140737488351232) (w : World) :
    Calls Tryd.prog 94 #[.slice A n c, .slice A2 m c2] w fun e w' => e = .returned (.int .i64 ((64 * ((n + m) / 64) : Nat) : Int)) ∧ w = w' := by
  have e : ((n : Int) + (m : Int)) / 64 * 64 = ((64 * ((n + m) / 64) : Nat) : Int) := by omega
  have E := Lib.hid e
  clear e
  go_enter Tryd.func94, Tryd.ntmps94
  go_wp2
  go_ret
  rw [E.out]
  exact ⟨rfl, rfl⟩

/-- what a part is -/
def PartIs (zs : List Nat) (f k : Nat) (w : World) (e : Ending) (w' : World) : Prop := ∃ A' c', e = .returned (.slice A' k c') ∧ Nb w' w'.heap.size A' k c' ((zs.drop f).take k) ∧ Below w.heap.size w w'

theorem nb_zero (w : World) (B : Nat) (A : Option Addr) (zs : List Nat) : Nb w B A 0 0 (zs.take 0) := by rw [List.take_zero]; exact Nb.nil w B 0 (by omega) A
theorem part1 {w : World} {A A2 : Option Addr} {n c m c2 : Nat} {xs : List Nat} (h : Nb w w.heap.size A n c xs) (hm : m ≤ 140737488351232) (ys : List Nat) (f k : Nat) (hk : f + k ≤ n) :
    Calls Tryd.prog 95 #[.slice A n c, .slice A2 m c2, .int .i64 (f : Int), .int .i64 ((f + k : Nat) : Int)] w (PartIs (xs ++ ys) f k w) := by
  have hc := h.cap
  have hr := h.room
  have e : ((xs ++ ys).drop f).take k = (xs.drop f).take k := by
    rw [List.drop_append_of_le_length (by rw [h.len]; omega), List.take_append_of_le_length (by rw [List.length_drop, h.len]; omega)]
  have E := Lib.hid e
  clear e
  by_cases h0 : k = 0
  · subst h0
    go_enter Tryd.func95, Tryd.ntmps95
    go_wp2
    go_ret
    exact ⟨_, _, rfl, nb_zero _ _ _ _, Below.refl _ _⟩
  · obtain ⟨b, off, rfl, hb, -⟩ := h.cell (by omega)
    have hne : ¬ f + k = f := by omega
    go_enter Tryd.func95, Tryd.ntmps95
    go_wp2
    go_ret
    refine ⟨some ⟨b, off + f, none⟩, k, ?_, ?_, Below.refl _ _⟩
    · show Ending.returned (Value.slice _ (f + k - f) (f + k - f)) = _
      rw [show f + k - f = k by omega]
    · rw [E.out]
      exact h.part rfl f k k (by omega) (Nat.le_refl _) (by omega)
theorem part2 {w : World} {A A2 : Option Addr} {n c m c2 : Nat} {xs ys : List Nat} (hl : xs.length = n) (hn : n ≤ 1099511627776) (h : Nb w w.heap.size A2 m c2 ys) (f k : Nat) (h0 : 0 < k) (hk : f + k ≤ m) :
    Calls Tryd.prog 95 #[.slice A n c, .slice A2 m c2, .int .i64 ((n + f : Nat) : Int), .int .i64 ((n + f + k : Nat) : Int)] w (PartIs (xs ++ ys) (n + f) k w) := by
  have hc := h.cap
  have hr := h.room
  have e : ((xs ++ ys).drop (n + f)).take k = (ys.drop f).take k := by
    rw [← hl, List.drop_append, List.drop_eq_nil_of_le (by omega), List.nil_append, Nat.add_sub_cancel_left]
  have E := Lib.hid e
  clear e hl
  obtain ⟨b, off, rfl, hb, -⟩ := h.cell (by omega)
  have hne : ¬ f + k = f := by omega
  have e1 : IntKind.i64.wrap ((n : Int) + (f : Int) - (n : Int)) = (f : Int) := (IntWalk.i64_in _ (by omega)).trans (by omega)
  have e2 : IntKind.i64.wrap ((n : Int) + (f : Int) + (k : Int) - (n : Int)) = (f : Int) + (k : Int) := (IntWalk.i64_in _ (by omega)).trans (by omega)
  go_enter Tryd.func95, Tryd.ntmps95
  go_wp2
  go_ret
  refine ⟨some ⟨b, off + f, none⟩, k, ?_, ?_, Below.refl _ _⟩
  · show Ending.returned (Value.slice _ (f + k - f) (f + k - f)) = _
    rw [show f + k - f = k by omega]
  · rw [E.out]
    exact h.part rfl f k k (by omega) (Nat.le_refl _) (by omega)
theorem ownsRow_nb {w : World} {base n : Nat} {v : Value} {xs : List Nat} (hl : xs.length = n) (hL : Lim 256 xs) (h : w.ownsRow base 5 1 v n (bs xs)) : ∃ A c, v = .slice A n c ∧ Nb w w.heap.size A n c xs := by
  rcases h.2 with ⟨rfl, he⟩ | ⟨g, cap, cur, rfl, hg, hheap, hnc, hcm, hcs, hx⟩
  · subst he
    exact ⟨_, _, rfl, hl, Nat.zero_le _, Nat.zero_le _, hL, fun h => absurd h (Nat.lt_irrefl _)⟩
  · refine ⟨_, _, rfl, hl, hnc, hcm, hL, fun h0 => ⟨g, 0, rfl, ?_, fun j x hj => ?_⟩⟩
    · rcases Nat.lt_or_ge g w.heap.size with hlt | hge
      · exact hlt
      · rw [Array.getElem?_eq_none hge] at hheap; cases hheap
    · rw [cell_of_row w g _ cur 5 (0, 0) hheap, Nat.zero_add]
      have : (List.take (n * 1) cur.toList)[j]? = some (.int .u8 (x : Int)) := by rw [hx]; simp [bs, hj]
      rw [List.getElem?_take] at this
      split at this
      · simpa using this
      · cases this
theorem Nb.olds {w : World} {B n c : Nat} {ad : Addr} {xs : List Nat} (h : Nb w B (some ad) n c xs) : ∀ j u, (bs xs)[j]? = some u → w.cell? (ad.add j) = some u := by
  intro j u hj
  simp only [bs, List.getElem?_map, Option.map_eq_some_iff] at hj
  obtain ⟨y, hy, rfl⟩ := hj
  have hjn : j < n := by
    rw [← h.len]
    rcases Nat.lt_or_ge j xs.length with h' | h'
    · exact h'
    · rw [List.getElem?_eq_none h'] at hy; cases hy
  obtain ⟨b, off, e, _, hc⟩ := h.cell (by omega)
  cases e
  by_cases hj0 : j = 0
  · subst hj0; simpa [Addr.add] using hc 0 y hy
  · simpa [Addr.add, hj0] using hc j y hy
theorem grown_below {B : Nat} {w w' : World} (h : w.grownBy w' none) : Below w.heap.size w w' := ⟨h.os, h.tape, h.output, h.size, fun i hi => h.block i hi (by simp)⟩
set_option maxHeartbeats 1000000 in
theorem part3 {w : World} {A A2 : Option Addr} {n c m c2 : Nat} {xs ys : List Nat} (h : Nb w w.heap.size A n c xs) (h2 : Nb w w.heap.size A2 m c2 ys) (f k k2 : Nat) (hf : f < n) (h0 : 0 < k2) (hk : k2 ≤ m) (hs : n + m ≤ 1099511627776) :
    Calls Tryd.prog 95 #[.slice A n c, .slice A2 m c2, .int .i64 (f : Int), .int .i64 ((n + k2 : Nat) : Int)] w (PartIs (xs ++ ys) f (n + k2 - f) w) := by
  have hc := h.cap
  have hr := h.room
  have hc2 := h2.cap
  have hr2 := h2.room
  have hl := Lib.hid h.len
  obtain ⟨b, off, rfl, hb, -⟩ := h.cell (by omega)
  obtain ⟨b2, off2, rfl, hb2, -⟩ := h2.cell (by omega)
  have e2 : IntKind.i64.wrap ((n : Int) + (k2 : Int) - (n : Int)) = (k2 : Int) := (IntWalk.i64_in _ (by omega)).trans (by omega)
  have hn : ¬ n = f := by omega
  have h1 : Nb w w.heap.size (some ⟨b, off + f, none⟩) (n - f) (n - f) (xs.drop f) := by
    have := h.part rfl f (n - f) (n - f) (by omega) (Nat.le_refl _) (by omega)
    rwa [List.take_of_length_le (by rw [List.length_drop, h.len]; omega)] at this
  go_enter Tryd.func95, Tryd.ntmps95
  go_wp2
  have ho : ∀ b', some (⟨b, off + f, none⟩ : Addr) = some b' → ∀ j u, (bs (xs.drop f))[j]? = some u → w.drew.cell? (b'.add j) = some u := by
    intro b' e; cases e; exact h1.olds
  have hs2 : ∀ j u, (bs (ys.take k2))[j]? = some u → w.drew.cell? ((⟨b2, off2, none⟩ : Addr).add j) = some u := by
    have h3 : Nb w w.heap.size (some ⟨b2, off2, none⟩) k2 c2 (ys.take k2) := by
      have := h2.part rfl 0 k2 c2 (by omega) (by omega) hr2
      simpa using this
    exact h3.olds
  have hlo : (bs (xs.drop f)).length = (n - f) * 1 := by rw [length_bs, h1.len, Nat.mul_one]
  have hln : (bs (ys.take k2)).length = k2 * 1 := by rw [length_bs, List.length_take, h2.len, Nat.mul_one]; omega
  have hfin : ∀ v' w', w'.ownsRow w.drew.heap.size 5 1 v' (n - f + k2) (bs (xs.drop f) ++ bs (ys.take k2)) → w.drew.grownBy w' none → PartIs (xs ++ ys) f (n + k2 - f) w (.returned v') w' := by
    intro v' w' hown hgrow
    rw [show bs (xs.drop f) ++ bs (ys.take k2) = bs (xs.drop f ++ ys.take k2) by simp [bs]] at hown
    obtain ⟨A', c', rfl, hnb⟩ := ownsRow_nb (by simpa [bs] using (show (xs.drop f ++ ys.take k2).length = n - f + k2 by rw [List.length_append, h1.len, ← length_bs (ys.take k2), hln, Nat.mul_one])) ((h.lim.drop f).append (h2.lim.take k2)) hown
    have ek : n + k2 - f = n - f + k2 := by omega
    refine ⟨A', c', by rw [ek], ?_, ?_⟩
    · have e : ((xs ++ ys).drop f).take (n + k2 - f) = xs.drop f ++ ys.take k2 := by
        rw [List.drop_append_of_le_length (by rw [hl.out]; omega), List.take_append, List.take_of_length_le (by rw [h1.len]; omega), h1.len, show n + k2 - f - (n - f) = k2 by omega]
      rw [e, ek]; exact hnb
    · exact ⟨hgrow.os, hgrow.tape, hgrow.output, hgrow.size, fun i hi => hgrow.block i hi (by simp)⟩
  have Ho := Lib.hid ho
  have Hs2 := Lib.hid hs2
  have Hlo := Lib.hid hlo
  have Hln := Lib.hid hln
  have Hfin := Lib.hid hfin
  clear ho hs2 hlo hln hfin h1 h h2 hl
  generalize bs (xs.drop f) = O at *
  have HN1 := Lib.hid (bs_one (ys.take k2))
  generalize bs (ys.take k2) = N at *
  obtain ⟨i0, hi, hz0, hz1, hz2⟩ := info_parts Tryd.info5
  have q1 : f ≤ n := by omega
  have q2 : k2 ≤ c2 := by omega
  go_region_law (refine step_append_grows rfl (.tmp 38) (.tmp 43) 22 rfl 5 i0 (.int .u8 0) 1 1 Tryd.underlying22 hi hz0 hz1 hz2 rfl (by decide) (some ⟨b, off + f, none⟩) (n - f) (n - f) O (by simp [Act.eval, Act.put]) (fun e => by cases e) Hlo.out Ho.out ⟨b2, off2, none⟩ k2 c2 N (by simp [Act.eval, Act.put]) Hln.out Hs2.out HN1.out (by omega) (by unfold maxLen; omega) (by omega) ?_; intro v' w' hown hgrow)
  all_goals go_wp2
  go_ret
  exact Hfin.out _ _ hown hgrow
end Go.Proofs.YtkhlmcknbangfaaDoor.Sh
namespace Go.Proofs.YtkhlmcknbangfaaDoor.Sh
open Go.RowKit
set_option linter.unusedVariables false
set_option maxRecDepth 100000

theorem part2z {w : World} {A A2 : Option Addr} {n c m c2 : Nat} (zs : List Nat) (hn : n ≤ 1099511627776) (hm : m ≤ 1099511627776) (hc2 : m ≤ c2) (hr2 : c2 ≤ 9223372036854775807) (f : Nat) (hf : n < f) (hk : f ≤ n + m) :
    Calls Tryd.prog 95 #[.slice A n c, .slice A2 m c2, .int .i64 (f : Int), .int .i64 (f : Int)] w (PartIs zs f 0 w) := by
  obtain ⟨d, rfl⟩ : ∃ d, f = n + d := ⟨f - n, by omega⟩
  have e1 : IntKind.i64.wrap ((n : Int) + (d : Int) - (n : Int)) = (d : Int) := (IntWalk.i64_in _ (by omega)).trans (by omega)
  have h0 : 0 < d := by omega
  clear hf
  go_enter Tryd.func95, Tryd.ntmps95
  go_wp2
  go_ret
  refine ⟨A2, 0, ?_, nb_zero _ _ _ _, Below.refl _ _⟩
  simp
theorem part_any {w : World} {A A2 : Option Addr} {n c m c2 : Nat} {xs ys : List Nat} (h : Nb w w.heap.size A n c xs) (h2 : Nb w w.heap.size A2 m c2 ys) (hs : n + m ≤ 1099511627776) (f T : Nat) (hf : f ≤ T) (hT : T ≤ n + m) :
    Calls Tryd.prog 95 #[.slice A n c, .slice A2 m c2, .int .i64 (f : Int), .int .i64 (T : Int)] w (PartIs (xs ++ ys) f (T - f) w) := by
  by_cases h1 : T ≤ n
  · obtain ⟨k, rfl⟩ : ∃ k, T = f + k := ⟨T - f, by omega⟩
    rw [Nat.add_sub_cancel_left]
    exact part1 h (by omega) ys f k h1
  · by_cases h3 : n ≤ f
    · by_cases h4 : T = f
      · subst h4
        rw [Nat.sub_self]
        exact part2z _ (by omega) (by omega) h2.cap h2.room T (by omega) hT
      · obtain ⟨f', rfl⟩ : ∃ f', f = n + f' := ⟨f - n, by omega⟩
        obtain ⟨k, rfl⟩ : ∃ k, T = n + f' + k := ⟨T - (n + f'), by omega⟩
        rw [Nat.add_sub_cancel_left]
        exact part2 h.len (by omega) h2 f' k (by omega) (by omega)
    · obtain ⟨k2, rfl⟩ : ∃ k2, T = n + k2 := ⟨T - n, by omega⟩
      exact part3 h h2 f 0 k2 (by omega) (by omega) (by omega) hs

end Go.Proofs.YtkhlmcknbangfaaDoor.Sh
namespace Go.Proofs.YtkhlmcknbangfaaDoor.Sh
open Go.RowKit Go.Shelf
set_option linter.unusedVariables false
set_option maxRecDepth 100000
attribute [local go_sem] Oper.semAt_some

theorem below_grown {W W' : World} (h : Below W.heap.size W W') : W.grownBy W' none := ⟨h.os, h.tape, h.output, h.size, fun i hi _ => h.block i hi⟩

/-- what a round keeps: all below a block, and two blocks more -/
structure Keeps (n0 B1 B2 : Nat) (W W' : World) : Prop where
  low : Below n0 W W'
  one : W'.heap[B1]? = W.heap[B1]?
  two : W'.heap[B2]? = W.heap[B2]?
theorem Keeps.refl (n0 B1 B2 : Nat) (W : World) : Keeps n0 B1 B2 W W := ⟨Below.refl _ _, rfl, rfl⟩
theorem Keeps.trans {n0 B1 B2 : Nat} {A B C : World} (h : Keeps n0 B1 B2 A B) (k : Keeps n0 B1 B2 B C) : Keeps n0 B1 B2 A C := ⟨h.low.trans k.low, k.one.trans h.one, k.two.trans h.two⟩
theorem Keeps.of {n0 B1 B2 : Nat} {W W' : World} (h : Below W.heap.size W W') (h0 : n0 ≤ W.heap.size) (h1 : B1 < W.heap.size) (h2 : B2 < W.heap.size) : Keeps n0 B1 B2 W W' := ⟨h.mono h0, h.block _ h1, h.block _ h2⟩
theorem cell_of_block {W W' : World} {b j : Nat} (h : W'.heap[b]? = W.heap[b]?) : W'.cell? ⟨b, j, none⟩ = W.cell? ⟨b, j, none⟩ := by unfold World.cell?; rw [h]
set_option maxHeartbeats 2000000 in
theorem blocks1_in (l B1 B2 n0 : Nat) {A1 A2 : Option Addr} {n c m c2 : Nat} {xs ys : List Nat} (hs : n + m ≤ 1099511627776) (J : Nat → World → Prop) (hJ : ∀ k A B, J k A → A.grownBy B none → J k B)
    (hY : ∀ k A' c' W, J k W → k < (n + m) / 64 → Nb W W.heap.size A' 64 c' (((xs ++ ys).drop (64 * k)).take 64) → YieldAt Fence.wide 7 Tryd.prog l #[.slice A' 64 c'] W fun e W' => e = .returned (.bool true) ∧ J (k + 1) W' ∧ Keeps n0 B1 B2 W W')
    (W : World) (hn0 : n0 ≤ W.heap.size) (hB1 : B1 < W.heap.size) (hB2 : B2 < W.heap.size) (hc1 : W.cell? ⟨B1, 0, none⟩ = some (.slice A1 n c)) (hc2 : W.cell? ⟨B2, 0, none⟩ = some (.slice A2 m c2)) (hx : Nb W n0 A1 n c xs) (hy : Nb W n0 A2 m c2 ys) (h0 : J 0 W) :
    CallsIn Fence.wide 8 Tryd.prog 93 #[.func (.yield l) #[] #[], .pointer (some ⟨B1, 0, none⟩), .pointer (some ⟨B2, 0, none⟩)] W fun e W' => (∃ v, e = .returned v) ∧ J ((n + m) / 64) W' := by
  obtain ⟨N, hN⟩ : ∃ N, (n + m) / 64 = N := ⟨_, rfl⟩
  rw [hN] at hY ⊢
  have hNb : 64 * N ≤ n + m := by omega
  have HN := Lib.hid hN
  have hW := whole_any A1 A2 n c m c2 (by omega) (by omega) W
  rw [hN] at hW
  have HW := Lib.hid hW
  have HY := Lib.hid hY
  have HJ := Lib.hid hJ
  clear hN hW hY hJ
  refine callsIn_of_wp Tryd.func93 rfl trivial ?_ rfl
  simp only [Tryd.ntmps93, List.size_toArray, List.length_cons, List.length_nil, Nat.reduceAdd, Nat.reduceSub, Array.replicate_succ, Array.replicate_zero, List.push_toArray, List.append_toArray, List.nil_append, List.cons_append]
  gi_wp2_with fail
  refine ⟨trivial, (callsIn_wide.2 HW.out).mono ?_⟩
  rintro e w1 ⟨rfl, rfl⟩
  gi_wp2
  gi_loopw [5] (fun i wr => ∃ k : Nat, k ≤ N ∧ i = .int .i64 ((64 * k : Nat) : Int) ∧ J k wr ∧ Keeps n0 B1 B2 W wr) (fun i _ => 64 * N - (intOf i).toNat)
  case atStart => exact ⟨0, Nat.zero_le _, rfl, h0, Keeps.refl _ _ _ _⟩
  case round =>
    obtain ⟨k, hk, rfl, hJk, hB⟩ := hrel
    by_cases hlt : k < N
    · have hb1 : wr.cell? ⟨B1, 0, none⟩ = some (.slice A1 n c) := (cell_of_block hB.one).trans hc1
      have hb2 : wr.cell? ⟨B2, 0, none⟩ = some (.slice A2 m c2) := (cell_of_block hB.two).trans hc2
      have hsz := hB.low.size
      have hpart := part_any ((hx.below hB.low).more (Nat.le_trans hn0 hsz)) ((hy.below hB.low).more (Nat.le_trans hn0 hsz)) hs (64 * k) (64 * k + 64) (by omega) (by omega)
      rw [show 64 * k + 64 - 64 * k = 64 by omega, show ((64 * k : Nat) : Int) = 64 * (k : Int) by omega, show ((64 * k + 64 : Nat) : Int) = 64 * (k : Int) + 64 by omega] at hpart
      have Hp := Lib.hid hpart
      have q1 : 64 * (k : Int) < 64 * (N : Int) := by omega
      clear hpart hc1 hc2
      gi_wp2_with fail
      refine ⟨trivial, (callsIn_wide.2 Hp.out).mono ?_⟩
      rintro e w1 ⟨A', c', rfl, hn', hb'⟩
      obtain ⟨fn, tmps, assign, body, hy', hR⟩ := HY.out k A' c' w1 (HJ.out k _ _ hJk (below_grown hb')) hlt hn'
      gi_wp2
      refine hR.mono ?_
      rintro e w2 ⟨rfl, hJ2, hB2'⟩
      have hBall : Keeps n0 B1 B2 W w2 := (hB.trans (Keeps.of hb' (Nat.le_trans hn0 hsz) (Nat.lt_of_lt_of_le hB1 hsz) (Nat.lt_of_lt_of_le hB2 hsz))).trans hB2'
      gi_wp2
      go_roundw
      case rel => exact ⟨k + 1, by omega, by congr 1, hJ2, hBall⟩
      case measure => simp [intOf]; omega
    · have q1 : 64 * (N : Int) ≤ 64 * (k : Int) := by omega
      have hf : J N wr := by rw [show N = k by omega]; exact hJk
      clear hlt
      gi_wp2
      go_end0
      exact ⟨⟨_, rfl⟩, hf⟩
end Go.Proofs.YtkhlmcknbangfaaDoor.Sh
namespace Go.Proofs.YtkhlmcknbangfaaDoor.Sh
open Go.RowKit Go.Shelf
set_option linter.unusedVariables false
set_option maxRecDepth 100000

/-- the iterator's word: N rounds, each handed a value of which R holds -/
def Yields (F : Fence) (n : Nat) (P : Program) (gf : FuncId) (lb : Array Value) (B0 N : Nat) (R : Nat → Value → World → Prop) (Kp : World → World → Prop) (w : World) : Prop :=
  ∀ (l : Nat) (J : Nat → World → Prop) (W : World), Below B0 w W → (∀ k A B, J k A → A.grownBy B none → J k B) →
    (∀ k v W1, J k W1 → k < N → R k v W1 → YieldAt F (n - 1) P l #[v] W1 fun e W' => e = .returned (.bool true) ∧ J (k + 1) W' ∧ Kp W1 W') →
    J 0 W → CallsIn F n P gf (#[.func (.yield l) #[] #[]] ++ lb) W fun e W' => (∃ v, e = .returned v) ∧ J N W'

theorem range_all {P : Program} {F : Fence} {n : Nat} {g : Operand} {p : Tmp} {assign body : Code} {Q : Exit → Act → World → Prop} {a : Act} {w : World}
    (hro : F.round = none) (h1 : 1 ≤ n) {gf : FuncId} {lb : Array Value} (hg : a.eval g = .func (.func gf) #[] lb) (hFg : F.fn gf) (eg : ∀ args w, (callFunc gf args).run P w = .ok (.enter gf args) w)
    {N : Nat} {R : Nat → Value → World → Prop} {Kp : World → World → Prop} (hseq : Yields F (n - 1) P gf lb w.heap.size N R Kp w)
    (hKt : ∀ A B C, Kp A B → Kp B C → Kp A C) (hKb : ∀ (A : World) (l : Nat) (o o' : Obj), w.heap.size ≤ l → A.heap[l]? = some o → o.isCells = false → Kp A (A.putObj l o'))
    (hR : ∀ k v A l o o', R k v A → w.heap.size ≤ l → A.heap[l]? = some o → o.isCells = false → R k v (A.putObj l o'))
    (J : Nat → World → Prop) (hJ : OwnFrom w.heap.size J) (h0 : J 0 w) (a₁ : Value → Act)
    (hassign : ∀ (l : Nat) (v : Value) (W : World) (K : Act → World → Prop), K (a₁ v) W →
      assign.wpIn (F.inRound l) (n - 1 - 1) P (Exit.then K (fun _ _ _ => False)) { tmps := a.tmps.setIfInBounds p v, defers := [] } W)
    (hbody : ∀ (l k : Nat) (v : Value) (W : World), J k W → k < N → R k v W →
      body.wpIn (F.inRound l) (n - 1 - 1) P (fun e _ W' => e = .normal ∧ KeepsOthers W W' ∧ Kp W W' ∧ J (k + 1) W') (a₁ v) W)
    (hdone : ∀ (D : Nat) (W : World), w.heap.size ≤ D → J N W → W.heap[D]? = some (.deferred (some [])) → Q .normal { a with defers := { target := .collected D, args := #[] } :: a.defers } W) :
    (Code.rangeFunc g #[p] assign body).wpIn F n P Q a w := by
  refine wpIn_rangeFunc fun fn hfn => ?_
  rw [hro]
  obtain ⟨rec, hrec⟩ : ∃ rec : LoopState → Loop, ∀ st, rec st = { state := st, pending := none, fn, tmps := a.tmps, params := #[p], assign, body, defers := w.heap.size } := ⟨_, fun _ => rfl⟩
  have hsize : ((w.alloc (.deferred (some []))).alloc (.loop (rec .ready))).heap.size = w.heap.size + 2 := by simp
  have hbel : Below w.heap.size w ((w.alloc (.deferred (some []))).alloc (.loop (rec .ready))) := ((Below.refl _ w).alloc (Nat.le_refl _) _).alloc (by simp) _
  have hloop : ((w.alloc (.deferred (some []))).alloc (.loop (rec .ready))).heap[w.heap.size + 1]? = some (.loop (rec .ready)) := by
    have := World.alloc_heap_new (w.alloc (.deferred (some []))) (.loop (rec .ready))
    rwa [World.size_alloc] at this
  have hdef : ((w.alloc (.deferred (some []))).alloc (.loop (rec .ready))).heap[w.heap.size]? = some (.deferred (some [])) := (Below.heap_alloc _ _ _ (by simp)).trans (World.alloc_heap_new w _)
  have hj1 : J 0 ((w.alloc (.deferred (some []))).alloc (.loop (rec .ready))) := hJ.alloc _ (hJ.alloc _ h0)
  have henter := run_enterLoop_outer (P := P) (w := w) fn a.tmps #[p] assign body
  rw [← hrec] at henter
  generalize (w.alloc (.deferred (some []))).alloc (.loop (rec .ready)) = w1 at *
  refine ⟨w.heap.size + 1, [{ target := .collected w.heap.size, args := #[] }], w1, { target := .fn (.func gf) lb, args := #[.func (.yield (w.heap.size + 1)) #[] #[]] }, w1, gf,
    #[.func (.yield (w.heap.size + 1)) #[] #[]] ++ lb, w1, henter, ?_, ?_, ?_, fun _ => h1, ?_⟩
  · simp only [resolve, hg]; simp [go_sem]
  · intro f' hf'; simp [Target.leads] at hf'; subst hf'; exact hFg
  · simp [invoke, go_sem, eg]
  -- what the caller keeps, with the loop's own two objects
  let J2 : Nat → World → Prop := fun k W => J k W ∧ W.heap[w.heap.size + 1]? = some (.loop (rec .ready)) ∧ W.heap[w.heap.size]? = some (.deferred (some []))
  have hj2 : J2 0 w1 := ⟨hj1, hloop, hdef⟩
  refine (hseq (w.heap.size + 1) J2 w1 hbel ?_ ?_ hj2).mono ?_
  · intro k A B h hg
    exact ⟨hJ k A B none h.1 hg (fun _ e => by cases e), (hg.block _ (Array.getElem?_eq_some_iff.1 h.2.1).1 (by simp)).trans h.2.1, (hg.block _ (Array.getElem?_eq_some_iff.1 h.2.2).1 (by simp)).trans h.2.2⟩
  · rintro k v W ⟨hj, hl, hd⟩ hk hr
    have hlt : w.heap.size + 1 < W.heap.size := (Array.getElem?_eq_some_iff.1 hl).1
    have hy := run_yield (P := P) (args := #[v]) hl (by rw [hrec]; rfl)
    rw [hrec] at hy
    refine ⟨fn, _, assign, body, hy, roundIn_of_wpIn hfn ?_⟩
    rw [show (Array.foldl (fun (t : Array Value) (x : Tmp × Value) => t.setIfInBounds x.1 x.2) a.tmps (#[p].zip #[v])) = a.tmps.setIfInBounds p v by simp]
    refine hassign (w.heap.size + 1) v W _ ?_
    refine ⟨_, run_beginRound hl (by rw [hrec]), ?_⟩
    have hb : ({ rec .ready with state := .busy } : Loop) = rec .busy := by rw [hrec, hrec]
    rw [hb]
    have hl2 : (W.putObj (w.heap.size + 1) (.loop (rec .busy))).heap[w.heap.size + 1]? = some (.loop (rec .busy)) := World.putObj_heap_same hlt
    have hd2 : (W.putObj (w.heap.size + 1) (.loop (rec .busy))).heap[w.heap.size]? = some (.deferred (some [])) := (World.putObj_heap_other (by omega)).trans hd
    refine wpIn_mono (hbody _ k v _ (hJ.putObj _ hj (by omega) hl rfl) hk (hR _ _ _ _ _ _ hr (by omega) hl rfl)) ?_
    rintro e a3 W3 ⟨rfl, hko, hbl, hj3⟩
    have hl3 := hko.same _ _ hl2 rfl
    have he := run_endRound (P := P) none hl3
    have hb3 : ({ rec .busy with state := (if (none : Option Code).isNone then .ready else .done), pending := none } : Loop) = rec .ready := by rw [hrec, hrec]; rfl
    rw [hb3] at he
    exact ⟨_, _, he, rfl, ⟨hJ.putObj _ hj3 (by omega) hl3 rfl, World.putObj_heap_same (Array.getElem?_eq_some_iff.1 hl3).1, (World.putObj_heap_other (by omega)).trans (hko.same _ _ hd2 rfl)⟩,
      hKt _ _ _ (hKt _ _ _ (hKb W _ _ _ (by omega) hl rfl) hbl) (hKb W3 _ _ _ (by omega) hl3 rfl)⟩
  · rintro e W2 ⟨⟨v, rfl⟩, hj, hl, hd⟩
    have he := run_endLoop (P := P) hl (by rw [hrec]; simp)
    rw [show (rec .ready).pending = none by rw [hrec]] at he
    refine ⟨none, _, he, ?_⟩
    exact hdone _ _ (Nat.le_refl _) (hJ.putObj _ hj (by omega) hl rfl) ((World.putObj_heap_other (by omega)).trans hd)
end Go.Proofs.YtkhlmcknbangfaaDoor.Sh
namespace Go.Proofs.YtkhlmcknbangfaaDoor.Sh
open Go.RowKit Go.Shelf
set_option linter.unusedVariables false
set_option maxRecDepth 100000
theorem cell_new (w : World) (v : Value) (t : TypeId) : (w.alloc (.cells #[v] t)).cell? ⟨w.heap.size, 0, none⟩ = some v := by
  rw [cell_of_row _ _ 0 #[v] t (0, 0) (heap_alloc_new w _)]; rfl

attribute [local go_sem] Oper.semAt_some

theorem wpListIn_load_row {F : Fence} {n : Nat} {P : Program} {ops : Array Oper} {rest : List Oper} {o : Oper} {a : Act} {w : World} {Q : Exit → Act → World → Prop} (hgd : o.guard = none) (ty : TypeId) (x : Operand) (ho : o.op = .load ty x)
    (g : Nat) (hx : a.eval x = .pointer (some ⟨g, 0, none⟩)) (t : TypeId) (cs : Array Value) (fr : Nat × Nat) (d : TypeDesc) (hg : w.heap[g]? = some (.cells cs t fr))
    (hu : P.underlying ty = some d) (hd : (match d with | .struct _ | .array _ _ => true | _ => false) = true) (hi : (P.info? ty).map (·.size) = some cs.size)
    (h : wpListIn F n P ops Q rest (a.put o.dst (.agg cs)) w) : wpListIn F n P ops Q (o :: rest) a w := by
  refine wpListIn_plain hgd fun K hK => ?_
  unfold Oper.wpIn
  refine ⟨?_, ?_⟩
  · simp [Oper.about, ho]
  · rw [Oper.semAt_plain F _ _ (by rw [ho]; intro c hc'; cases hc')]
    unfold execOp
    simp only [ho, hx, Instr.loadAt, Instr.sureAddr, Sem.run_bind, Sem.run_pure, Result.andThen_ok, run_loadVar_row w g t ty cs fr d hg hu hd hi]
    exact hK _ _ h
theorem wpListIn_store_row {F : Fence} {n : Nat} {P : Program} {ops : Array Oper} {rest : List Oper} {o : Oper} {a : Act} {w : World} {Q : Exit → Act → World → Prop} (hgd : o.guard = none) (hd : o.dst = none) (ty : TypeId) (x v : Operand) (ho : o.op = .store ty x v)
    (g : Nat) (hx : a.eval x = .pointer (some ⟨g, 0, none⟩)) (cs : List Value) (hv : a.eval v = .agg cs.toArray) (t : TypeId) (cur : Array Value) (hg : w.heap[g]? = some (.cells cur t (0, 0)))
    (h1 : ∀ v ∈ cs, v.oneCell' = true) (hs : cs.length = cur.size) (hi : (P.info? ty).map (·.size) = some cs.length)
    (h : wpListIn F n P ops Q rest a (w.setRow g cs.toArray)) : wpListIn F n P ops Q (o :: rest) a w := by
  refine wpListIn_plain hgd fun K hK => ?_
  unfold Oper.wpIn
  refine ⟨?_, ?_⟩
  · simp [Oper.about, ho]
  · rw [Oper.semAt_plain F _ _ (by rw [ho]; intro c hc'; cases hc')]
    unfold execOp
    simp only [ho, hx, hv, Instr.storeAt, Instr.sureAddr, Sem.run_bind, Sem.run_pure, Result.andThen_ok, run_storeVar_row w g ty cs t cur hg h1 hs hi]
    have := hK _ _ h
    simpa [Oper.uponIn, hd, Act.put] using this

theorem blocks_any (A1 A2 : Option Addr) (n c m c2 : Nat) (w : World) : Calls Tryd.prog 90 #[.slice A1 n c, .slice A2 m c2] w fun e w' =>
    e = .returned (.func (.func 93) #[] #[.pointer (some ⟨w.heap.size, 0, none⟩), .pointer (some ⟨w.heap.size + 1, 0, none⟩)]) ∧ w' = (w.alloc (.cells #[.slice A1 n c] 22)).alloc (.cells #[.slice A2 m c2] 22) := by
  go_enter Tryd.func90, Tryd.ntmps90
  go_wp2
  go_ret
  exact ⟨rfl, rfl⟩

theorem grown_setRow (w : World) (g : Nat) (cs : Array Value) : w.grownBy (w.setRow g cs) (some g) := ⟨rfl, rfl, rfl, by simp [World.setRow], fun k hk hne => setRow_other w g k _ (by intro e; subst e; exact hne rfl)⟩
theorem keeps_setRow {w : World} {g : Nat} (cs : Array Value) {cur : Array Value} {t : TypeId} {fr : Nat × Nat} (h : w.heap[g]? = some (.cells cur t fr)) : KeepsOthers w (w.setRow g cs) :=
  KeepsOthers.of_grownBy (grown_setRow w g cs) (fun j o e hj => by cases e; rw [h] at hj; cases hj; rfl)
/-- what a round is handed -/
def BlockIs (zs : List Nat) (k : Nat) (v : Value) (W : World) : Prop := ∃ A c, v = .slice A 64 c ∧ Nb W W.heap.size A 64 c ((zs.drop (64 * k)).take 64)
theorem BlockIs.put {zs : List Nat} {k : Nat} {v : Value} {A : World} {l : Nat} {o o' : Obj} (h : BlockIs zs k v A) (hl : A.heap[l]? = some o) (ho : o.isCells = false) : BlockIs zs k v (A.putObj l o') := by
  obtain ⟨ad, c, rfl, hn⟩ := h
  refine ⟨ad, c, rfl, hn.len, hn.cap, hn.room, hn.lim, fun h0 => ?_⟩
  obtain ⟨b, off, e, hb, hc⟩ := hn.cell h0
  exact ⟨b, off, e, by simpa using hb, fun j x hx => cell_kept (hc j x hx) (grownBy_putObj' _ l o') (fun r e => by cases e; exact ⟨o, hl, ho⟩)⟩

theorem blocks_yields {n c m c2 : Nat} {A1 A2 : Option Addr} {xs ys : List Nat} (hs : n + m ≤ 1099511627776) (n0 B1 B2 : Nat) (w : World) (hn0 : n0 ≤ w.heap.size) (hB1 : B1 < w.heap.size) (hB2 : B2 < w.heap.size)
    (hc1 : w.cell? ⟨B1, 0, none⟩ = some (.slice A1 n c)) (hc2 : w.cell? ⟨B2, 0, none⟩ = some (.slice A2 m c2)) (hx : Nb w n0 A1 n c xs) (hy : Nb w n0 A2 m c2 ys) :
    Yields Fence.wide 8 Tryd.prog 93 #[.pointer (some ⟨B1, 0, none⟩), .pointer (some ⟨B2, 0, none⟩)] w.heap.size ((n + m) / 64) (BlockIs (xs ++ ys)) (Keeps n0 B1 B2) w := by
  intro l J W hb hJ hY h0
  have hs' := hb.size
  exact blocks1_in l B1 B2 n0 hs J hJ (fun k A' c' W1 hj hk hn => hY k _ W1 hj hk ⟨A', c', rfl, hn⟩) W (by omega) (by omega) (by omega) ((hb.cell (p := ⟨B1, 0, none⟩) hB1).trans hc1) ((hb.cell (p := ⟨B2, 0, none⟩) hB2).trans hc2) (hx.below (hb.mono hn0)) (hy.below (hb.mono hn0)) h0

theorem changeBy_row {w : World} {c : Nat} {A : Option Addr} {xs : List Nat} (hk : Ks w) (h : Nb w w.heap.size A 64 c xs) (s : St) (hs : s.Ok) :
    Calls Tryd.prog 91 #[.agg (wv (words s)).toArray, .slice A 64 c] w fun e w' => e = .returned (.agg (wv (words (chg s xs))).toArray) ∧ Below w.heap.size w w' := changeBy_any hk h s hs

set_option maxHeartbeats 2000000 in
theorem change_any {w : World} (hk : Ks w) (s : St) (hs : s.Ok) {n c m c2 : Nat} {A1 A2 : Option Addr} {xs ys : List Nat} (hx : Nb w w.heap.size A1 n c xs) (hy : Nb w w.heap.size A2 m c2 ys) (hnm : n + m ≤ 1099511627776) :
    Calls Tryd.prog 79 #[.agg (wv (words s)).toArray, .slice A1 n c, .slice A2 m c2] w fun e w' => e = .returned (.agg (wv (words (chgN s (xs ++ ys) ((n + m) / 64)))).toArray) ∧ Below w.heap.size w w' := by
  have hsz := hk.size
  have hb1 : Below w.heap.size w (w.alloc (Ob 95 (words s))) := (Below.refl _ _).alloc (Nat.le_refl _) _
  have hb2 : Below w.heap.size w ((w.alloc (Ob 95 (words s))).alloc (Ob 95 (List.replicate 8 0))) := hb1.alloc (by simp) _
  have hx2 : Wb ((w.alloc (Ob 95 (words s))).alloc (Ob 95 (List.replicate 8 0))) w.heap.size 95 (words s) := Wb.alloc (alloc_ob _ _ _) _
  have hy2 : Wb ((w.alloc (Ob 95 (words s))).alloc (Ob 95 (List.replicate 8 0))) (w.heap.size + 1) 95 (List.replicate 8 0) := by
    have := alloc_ob (w.alloc (Ob 95 (words s))) 95 (List.replicate 8 0)
    rwa [World.size_alloc] at this
  have hz2 : ((w.alloc (Ob 95 (words s))).alloc (Ob 95 (List.replicate 8 0))).heap.size = w.heap.size + 2 := by simp
  obtain ⟨w2, hw2⟩ : ∃ w2, w2 = (w.alloc (Ob 95 (words s))).alloc (Ob 95 (List.replicate 8 0)) := ⟨_, rfl⟩
  rw [← hw2] at hb2 hx2 hy2 hz2
  have HW2 := Lib.hid hw2
  clear hw2 hb1
  refine (callsIn_wide (n := 9)).1 ?_
  refine callsIn_of_wp_marks Tryd.func79 rfl trivial ?_ rfl
  simp only [Tryd.ntmps79, List.size_toArray, List.length_cons, List.length_nil, Nat.reduceAdd, Nat.reduceSub, Array.replicate_succ, Array.replicate_zero, List.push_toArray, List.append_toArray, List.nil_append, List.cons_append]
  gi_wp2_with fail
  refine ⟨trivial, ?_⟩
  change CallsIn _ _ _ _ _ ((w.alloc (Ob 95 (words s))).alloc (Ob 95 (List.replicate 8 0))) _
  rw [← HW2.out]
  refine (callsIn_wide.2 (blocks_any A1 A2 n c m c2 w2)).mono ?_
  rintro e w3 ⟨rfl, hw3⟩
  have hb3 : Below w2.heap.size w2 w3 := by rw [hw3]; exact ((Below.refl _ _).alloc (Nat.le_refl _) _).alloc (by simp) _
  have hs3 : w3.heap.size = w2.heap.size + 2 := by rw [hw3]; simp
  have hc1 : w3.cell? ⟨w2.heap.size, 0, none⟩ = some (.slice A1 n c) := by
    rw [hw3]
    have h1 := cell_new w2 (.slice A1 n c) 22
    exact (((Below.refl (w2.heap.size + 1) (w2.alloc (.cells #[.slice A1 n c] 22))).alloc (by simp) _).cell (p := ⟨w2.heap.size, 0, none⟩) (Nat.lt_succ_self _)).trans h1
  have hc2 : w3.cell? ⟨w2.heap.size + 1, 0, none⟩ = some (.slice A2 m c2) := by
    rw [hw3]
    have h1 := cell_new (w2.alloc (.cells #[.slice A1 n c] 22)) (.slice A2 m c2) 22
    rwa [World.size_alloc] at h1
  have hx3 := hx2.below hb3 hx2.lt
  have hy3 := hy2.below hb3 hy2.lt
  have hB3 : Below w.heap.size w w3 := hb2.trans (hb3.mono (by omega))
  have hsz3 : w.heap.size + 4 = w3.heap.size := by omega
  have hyl := blocks_yields hnm w.heap.size w2.heap.size (w2.heap.size + 1) w3 hB3.size (by omega) (by omega) hc1 hc2 (hx.below hB3) (hy.below hB3)
  have Hyl := Lib.hid hyl
  clear hw3 hc1 hc2 hx2 hy2 hb2 hb3 hyl HW2 hx hy
  generalize w2.heap.size = g2 at *
  have hg2 : g2 = w.heap.size + 2 := hz2
  subst hg2
  clear hs3 hz2
  gi_wp2_with fail
  generalize hzs : xs ++ ys = zs at *
  have Hzs := Lib.hid hzs
  clear hzs
  refine range_all (J := fun k W => (Wb W w.heap.size 95 (words (chgN s zs k)) ∧ Wb W (w.heap.size + 1) 95 (List.replicate 8 0)) ∧ Below w.heap.size w W ∧ w.heap.size + 4 ≤ W.heap.size) rfl (by omega) (gf := 93) (lb := #[.pointer (some ⟨w.heap.size + 2, 0, none⟩), .pointer (some ⟨w.heap.size + 2 + 1, 0, none⟩)]) rfl trivial (enters_of Tryd.func93 (by kernel_rfl) rfl) Hyl.out
    (fun A B C h k => h.trans k) (fun A l o o' hl h ho => ⟨(Below.refl _ A).grown (grownBy_putObj' A l o') (by have := (Array.getElem?_eq_some_iff.1 h).1; omega) (fun k e => by cases e; omega), World.putObj_heap_other (by omega), World.putObj_heap_other (by omega)⟩)
    (fun k v A l o o' h _ hl ho => h.put hl ho) ?hJ ⟨⟨by rw [chgN_zero]; exact hx3, hy3⟩, hB3, by omega⟩
    (fun v => { tmps := #[.agg (wv (words s)).toArray, .slice A1 n c, .slice A2 m c2, .pointer (some ⟨w.heap.size, 0, none⟩), undef, undef, .pointer (some ⟨w.heap.size + 1, 0, none⟩), v, .slice A1 n c, .slice A2 m c2, .func (.func 93) #[] #[.pointer (some ⟨w.heap.size + 2, 0, none⟩), .pointer (some ⟨w.heap.size + 2 + 1, 0, none⟩)], v, undef, undef, undef, undef], defers := [] }) ?assign ?body ?done
  case hJ =>
    rintro k A B row ⟨⟨j1, j2⟩, j3, j4⟩ hg hr
    have hne : ∀ i, i < w3.heap.size → some i ≠ row := by
      intro i hi e
      have := (hr i e.symm).1
      omega
    have hA := j3.size
    exact ⟨⟨(hg.block _ j1.lt (hne _ (by omega))).trans j1, (hg.block _ j2.lt (hne _ (by omega))).trans j2⟩, j3.trans ⟨hg.os, hg.tape, hg.output, hg.size, fun i hi => hg.block i (by omega) (hne i (by omega))⟩, Nat.le_trans j4 hg.size⟩
  case assign =>
    intro l v W K hK
    gi_wp2
    exact hK
  case body =>
    rintro l k v W ⟨⟨j1, j2⟩, j3, q1⟩ hkN ⟨A, c', rfl, hn⟩
    have ok := chgN_ok hs zs k
    have hcb := changeBy_row (hk.below j3 hsz) hn (chgN s zs k) ok
    rw [← chgN_succ] at hcb
    have Hcb := Lib.hid hcb
    clear hcb hn ok
    gi_wp2_with (refine wpListIn_load_row rfl 95 (.tmp 3) rfl w.heap.size rfl 95 (wv (words (chgN s zs k))).toArray (0, 0) _ j1 Tryd.underlying95 rfl (by kernel_rfl) ?_)
    refine ⟨trivial, ?_⟩
    refine (CallsIn.inRound l (callsIn_wide.2 Hcb.out)).mono ?_
    rintro e w4 ⟨rfl, hb4⟩
    have i1 := j1.below hb4 j1.lt
    have i2 := j2.below hb4 j2.lt
    have i3 := j3.trans (hb4.mono (by omega))
    have i4 := hb4.size
    gi_wp2_with (refine wpListIn_store_row rfl rfl 95 (.tmp 3) (.tmp 14) rfl w.heap.size rfl (wv (words (chgN s zs (k + 1)))) rfl 95 _ i1 (wv_one _) (by simp [wv, words]) (by kernel_rfl) ?_)
    have r1 := setRow_heap w4 w.heap.size _ (wv (words (chgN s zs (k + 1)))).toArray 95 (0, 0) i1
    refine ⟨(KeepsOthers.of_grownBy (below_grown hb4) (fun j o e => by cases e)).trans (keeps_setRow _ i1), ⟨(hb4.mono (by omega)).trans (below_setRow (Below.refl _ _) (Nat.le_refl _) _), (setRow_other _ _ _ _ (by omega)).trans (hb4.block _ (by omega)), (setRow_other _ _ _ _ (by omega)).trans (hb4.block _ (by omega))⟩, ⟨r1, (setRow_other _ _ _ _ (by omega)).trans i2⟩, below_setRow i3 (Nat.le_refl _) _, by omega⟩
  case done =>
    rintro D W hD ⟨⟨j1, j2⟩, j3, q1⟩ hK
    gi_wp2_with (first
      | (refine wpListIn_load_row rfl 95 (.tmp 3) rfl w.heap.size rfl 95 (wv (words (chgN s zs ((n + m) / 64)))).toArray (0, 0) _ j1 Tryd.underlying95 rfl (by kernel_rfl) ?_)
      | (refine wpListIn_store_row rfl rfl 95 (.tmp 6) (.tmp 15) rfl (w.heap.size + 1) rfl (wv (words (chgN s zs ((n + m) / 64)))) rfl 95 _ j2 (wv_one _) (by simp [wv, words]) (by kernel_rfl) ?_))
    have hK2 : (W.setRow (w.heap.size + 1) (wv (words (chgN s zs ((n + m) / 64)))).toArray).heap[D]? = some (.deferred (some [])) := (setRow_other _ _ _ _ (by omega)).trans hK
    have r1 := setRow_heap W (w.heap.size + 1) _ (wv (words (chgN s zs ((n + m) / 64)))).toArray 95 (0, 0) j2
    have r2 : ((W.setRow (w.heap.size + 1) (wv (words (chgN s zs ((n + m) / 64)))).toArray).putObj D (.deferred none)).heap[w.heap.size + 1]? = _ := (World.putObj_heap_other (by omega)).trans r1
    refine ⟨by simp, .inl ⟨_, _, rfl, run_takeDeferred hK2, ?_⟩⟩
    exact ⟨_, results_cell_row rfl _ _ (w.heap.size + 1) 95 _ (0, 0) _ rfl r2 Tryd.underlying95 rfl (by kernel_rfl), by rw [Hzs.out], (below_setRow j3 (Nat.le_succ _) _).trans (belowK_b (w := w) (Nat.le_refl _) _ D _ _ (by omega) hK2 rfl rfl)⟩
end Go.Proofs.YtkhlmcknbangfaaDoor.Sh
namespace Go.Proofs.YtkhlmcknbangfaaDoor.Sh
open Go.RowKit
set_option linter.unusedVariables false
set_option maxRecDepth 100000

theorem run_storeVar_part {P : Program} (w : World) (g o : Nat) (ty : TypeId) (cs : List Value) (t : TypeId) (cur : List Value) (hg : w.heap[g]? = some (.cells cur.toArray t (0, 0)))
    (h1 : ∀ v ∈ cs, v.oneCell' = true) (hs : o + cs.length ≤ cur.length) (hi : (P.info? ty).map (·.size) = some cs.length) :
    (storeVar ty ⟨g, o, none⟩ (.agg cs.toArray)).run P w = .ok () (w.setRow g (cur.take o ++ cs ++ cur.drop (o + cs.length)).toArray) := by
  cases hq : P.info? ty with
  | none => simp [hq] at hi
  | some i =>
    have hsz : i.size = cs.length := by simpa [hq] using hi
    have hst := run_storeCells_at (P := P) g o t cs 0 cur.toArray w hg (by simpa using hs) h1
    simp only [Nat.add_zero] at hst
    simp [storeVar, Sem.run_bind, sizeOf, typeInfo, hq, hsz, Value.cells, hst]
theorem wpList_store_part {P : Program} {ops : Array Oper} {rest : List Oper} {o : Oper} {a : Act} {w : World} {Q : Exit → Act → World → Prop} (hgd : o.guard = none) (hd : o.dst = none) (ty : TypeId) (x v : Operand) (ho : o.op = .store ty x v)
    (g off : Nat) (hx : a.eval x = .pointer (some ⟨g, off, none⟩)) (cs : List Value) (hv : a.eval v = .agg cs.toArray) (t : TypeId) (cur : List Value) (hg : w.heap[g]? = some (.cells cur.toArray t (0, 0)))
    (h1 : ∀ v ∈ cs, v.oneCell' = true) (hs : off + cs.length ≤ cur.length) (hi : (P.info? ty).map (·.size) = some cs.length)
    (h : wpList P ops Q rest a (w.setRow g (cur.take off ++ cs ++ cur.drop (off + cs.length)).toArray)) : wpList P ops Q (o :: rest) a w := by
  refine wpList_plain hgd fun K hK => ?_
  unfold Oper.wp execOp
  simp only [ho, hx, hv, Instr.storeAt, Instr.sureAddr, Sem.run_bind, Sem.run_pure, Result.andThen_ok, run_storeVar_part w g off ty cs t cur hg h1 hs hi]
  have := hK _ _ h
  simpa [Oper.upon, hd, Act.put] using this

/-- sha.Sum -/
theorem sum_any {w : World} (hk : Ks w) {A : Option Addr} {n c : Nat} {xs : List Nat} (hx : Nb w w.heap.size A n c xs) (hn : n ≤ 1000000000) :
    Calls Tryd.prog 68 #[.slice A n c] w fun e w' => e = .returned (.agg (bs (sha xs)).toArray) ∧ Below w.heap.size w w' := by
  have hl := hx.len
  have hsz := hk.size
  obtain ⟨z, hz⟩ : ∃ z, 9 + (119 - n % 64) % 64 = z := ⟨_, rfl⟩
  have hzl : (pad n).length = z := by rw [length_pad, hz]
  have hz2 : z ≤ 72 := by omega
  obtain ⟨S, hS⟩ : ∃ S, chgN first (xs ++ pad n) ((n + z) / 64) = S := ⟨_, rfl⟩
  have hSo : S.Ok := by rw [← hS]; exact chgN_ok first_ok _ _
  have hsha : sha xs = dig S := by rw [sha_is, hl, hzl, hS]
  rw [hsha]
  have Hz := Lib.hid hz
  have HS := Lib.hid hS
  have Hzl := Lib.hid hzl
  have h0 : Bb (w.alloc (Yb 86 (List.replicate 32 0))) w.heap.size 86 (List.replicate 32 0) := alloc_bb w _ _
  have b0 : Below w.heap.size w (w.alloc (Yb 86 (List.replicate 32 0))) := (Below.refl _ _).alloc (Nat.le_refl _) _
  clear hz hS hsha hl hzl
  go_enter Tryd.func68, Tryd.ntmps68
  go_wp2_with fail
  change Calls _ _ _ (w.alloc (Yb 86 (List.replicate 32 0))) _
  generalize w.alloc (Yb 86 (List.replicate 32 0)) = w0 at *
  refine (firstWords_any w0).mono ?_
  rintro e w1 ⟨rfl, b1⟩
  have h1 := h0.below b1 h0.lt
  have B1 : Below w.heap.size w w1 := b0.trans (b1.mono b0.size)
  go_wp2_with fail
  refine (padding_any n (by omega) w1).mono ?_
  rintro e w2 ⟨g, rfl, hg, hp, b2⟩
  rw [Hz.out]
  have h2 := h1.below b2 h1.lt
  have B2 : Below w.heap.size w w2 := B1.trans (b2.mono B1.size)
  have hpn := hp.nb 0 z z (by rw [Hzl.out]; omega) (Nat.le_refl _) (by omega) (pad_lim n)
  rw [List.drop_zero, List.take_of_length_le (by rw [Hzl.out]; omega)] at hpn
  go_wp2_with fail
  have hch := change_any (hk.below B2 hsz) first first_ok ((hx.below B2).more B2.size) hpn (by omega)
  rw [HS.out] at hch
  refine hch.mono ?_
  rintro e w3 ⟨rfl, b3⟩
  have h3 := h2.below b3 h2.lt
  have B3 : Below w.heap.size w w3 := B2.trans (b3.mono B2.size)
  go_wp2_with fail
  refine (digest_any S hSo w3).mono ?_
  rintro e w4 ⟨rfl, b4⟩
  have h4 := h3.below b4 h3.lt
  have B4 : Below w.heap.size w w4 := B3.trans (b4.mono B3.size)
  have hDl : (bs (dig S)).length = 32 := by rfl
  have HD := Lib.hid hDl
  clear hDl
  generalize hDe : dig S = D at *
  have HDe := Lib.hid hDe
  clear hDe
  go_wp2_with (refine wpList_store_row rfl rfl 86 (.tmp 2) (.tmp 9) rfl w.heap.size rfl (bs D) rfl 86 _ h4 (bs_one _) (by rw [HD.out]; simp [bs]) (by rw [HD.out]; kernel_rfl) ?_)
  have hr1 := setRow_heap w4 w.heap.size _ (bs D).toArray 86 (0, 0) h4
  exact bodyPost_ret (v := .agg (bs D).toArray) (results_cell_row rfl _ _ w.heap.size 86 _ (0, 0) _ rfl hr1 Tryd.underlying86 rfl (by rw [List.size_toArray, HD.out]; kernel_rfl)) rfl ⟨by rw [HDe.out], below_setRow B4 (Nat.le_refl _) _⟩

end Go.Proofs.YtkhlmcknbangfaaDoor.Sh
namespace Go.Proofs.YtkhlmcknbangfaaDoor.Sh
open Go.RowKit
set_option linter.unusedVariables false
set_option maxRecDepth 100000

theorem dig_lim {s : St} : Lim 256 (dig s) := by
  intro x hx
  simp only [dig, List.mem_flatMap, by4, List.mem_cons, List.not_mem_nil, or_false] at hx
  obtain ⟨a, _, h⟩ := hx
  omega
theorem sha_lim (b : List Nat) : Lim 256 (sha b) := by rw [sha_is]; exact dig_lim
theorem length_sha (b : List Nat) : (sha b).length = 32 := by rw [sha_is]; rfl
theorem slice_sum (g : Nat) (W : World) : (Instr.sliceAt 86 (.pointer (some ⟨g, 0, none⟩)) none none none).run Tryd.prog W = .ok (.slice (some ⟨g, 0, none⟩) 32 32) W := by rfl
theorem Ks.drew {w : World} (h : Ks w) : Ks w.drew := ⟨h.size, h.cell⟩
end Go.Proofs.YtkhlmcknbangfaaDoor.Sh
namespace Go.Proofs.YtkhlmcknbangfaaDoor.Sh
open Go.RowKit
set_option linter.unusedVariables false
set_option maxRecDepth 100000

theorem splice_all (D : List Nat) (m : Nat) (h : (D.take m).length = m) : splice (bs (List.replicate m 0)) 0 (bs (D.take m)) = bs (D.take m) := by
  unfold splice
  rw [length_bs, h, List.take_zero, List.nil_append, List.drop_eq_nil_of_le (by rw [length_bs, List.length_replicate]; omega), List.append_nil]
set_option maxHeartbeats 1000000 in
theorem trunc_in {w : World} (hk : Ks w) {A : Option Addr} {n c : Nat} {xs : List Nat} (hx : Nb w w.heap.size A n c xs) (hn : n ≤ 1000000) (m : Nat) (hm : m ≤ 32) :
    Calls Tryd.prog 52 #[.slice A n c, .int .i64 (m : Int)] w fun e w' => ∃ A' c', e = .returned (.tuple #[.slice A' m c', .int .i64 0]) ∧ Nb w' w'.heap.size A' m c' ((sha xs).take m) ∧ Below w.heap.size w w' := by
  have hr := hx.room
  have hl := length_sha xs
  have hL := sha_lim xs
  have H := Lib.hid (sum_any hk hx (by omega))
  obtain ⟨D, hD⟩ : ∃ D, sha xs = D := ⟨_, rfl⟩
  rw [hD] at hl hL H ⊢
  have HDl : Hid ((bs D).length = 32) := Lib.hid (by rw [length_bs, hl])
  have hml : (D.take m).length = m := by rw [List.length_take, hl]; omega
  have Hml := Lib.hid hml
  have Hspl := Lib.hid (splice_all D m hml)
  clear hD hml
  go_enter Tryd.func52, Tryd.ntmps52
  go_wp2_with fail
  refine H.out.mono ?_
  rintro e w1 ⟨rfl, b1⟩
  have t0 : Bb (w1.alloc (Yb 86 (List.replicate 32 0))) w1.heap.size 86 (List.replicate 32 0) := alloc_bb _ _ _
  have B2 : Below w.heap.size w ((w1.alloc (Yb 86 (List.replicate 32 0))).setRow w1.heap.size (bs D).toArray) := below_setRow (b1.alloc b1.size _) b1.size _
  have t1 : Bb ((w1.alloc (Yb 86 (List.replicate 32 0))).setRow w1.heap.size (bs D).toArray) w1.heap.size 86 D := setRow_heap _ _ _ _ _ _ t0
  obtain ⟨w2, hw2⟩ : ∃ w2, (w1.alloc (Yb 86 (List.replicate 32 0))).setRow w1.heap.size (bs D).toArray = w2 := ⟨_, rfl⟩
  rw [hw2] at B2 t1
  have Hw2 := Lib.hid hw2
  clear hw2
  have hs2 := B2.size
  have hsl := fun W => slice_sum w1.heap.size W
  have Ht0 := Lib.hid t0
  have Ht1 := Lib.hid t1
  clear t0 t1
  go_wp2_with (first
    | (change wpList _ _ _ _ _ (w1.alloc (Yb 86 (List.replicate 32 0))); refine wpList_store_row rfl rfl 86 (.tmp 6) (.tmp 15) rfl w1.heap.size rfl (bs D) rfl 86 _ Ht0.out (bs_one _) (by rw [HDl.out]; simp [bs]) (by rw [HDl.out]; kernel_rfl) ?_; rw [Hw2.out])
    | (refine wpList_make_bs _ rfl (.tmp 16) (.tmp 16) rfl _ _ m rfl rfl rfl rfl (by omega) ?_; intro w3 hm3 hb3; have B3 := B2.trans (hb3.mono hs2); have t3 := Lib.hid (Ht1.out.below hb3 Ht1.out.lt); have Hm3 := Lib.hid hm3; have hm3l := hm3.lt)
    | (refine wpList_copy_splice rfl (.tmp 18) (.tmp 19) 22 22 rfl 5 Tryd.underlying22 (by kernel_rfl) (some ⟨w2.heap.size, 0, none⟩) (some ⟨w1.heap.size, 0, none⟩) m m 32 32 rfl rfl w2.heap.size 0 (bs (List.replicate m 0)) 5 Hm3.out (bs (D.take m)) (by rw [length_bs, Hml.out]; simp only [Nat.min_def]; split <;> omega) (fun _ => ⟨rfl, _, rfl, fun j v hj => by
          simp only [bs, List.getElem?_map, Option.map_eq_some_iff] at hj
          obtain ⟨y, hy, rfl⟩ := hj
          have hy2 : D[j]? = some y := by
            rw [List.getElem?_take] at hy
            split at hy
            · exact hy
            · cases hy
          have := t3.out.cell hy2
          by_cases hj0 : j = 0
          · subst hj0; simpa [Addr.add] using this
          · simpa [Addr.add, hj0] using this⟩) (by rw [length_bs, length_bs, Hml.out, List.length_replicate]; omega) (bs_one _) w.heap.size w B3 hs2 ?_; intro w4 hw4 B4))
  go_ret2
  have hb4 : Bb w4 w2.heap.size 5 (D.take m) := by
    have := hw4.out
    rw [Hspl.out] at this
    exact this
  have hn4 := hb4.nb 0 m m (by rw [Hml.out]; omega) (Nat.le_refl _) (by omega) (hL.take m)
  rw [List.drop_zero, List.take_of_length_le (Nat.le_of_eq Hml.out)] at hn4
  exact ⟨_, _, rfl, hn4, B4⟩
end Go.Proofs.YtkhlmcknbangfaaDoor.Sh
