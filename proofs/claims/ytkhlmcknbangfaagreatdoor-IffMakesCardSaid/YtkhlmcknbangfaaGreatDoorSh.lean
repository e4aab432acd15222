/- The plain mathematics of the digest: words of 32 bits, schedule, rounds, blocks, the padded text. Bytes in memory that read as a list; turned words; a word of four bytes. A whole array that is read out of a block, or stored into one. sha.schedule: a block's words. sha.changeBy: what one block makes of the words. The first words, a word's bytes, the digest's bytes. sha.digest. sha.padding. sha.part, sha.wholeBytes, bytes.Clone, sha.leftOver. A part of two pieces, however they lie; what is left over. sha.blocks: the blocks of two pieces come one by one. A range over a function whose body always goes on, where what a round is handed is told of the world in which it begins. sha.change: what all whole blocks of two pieces make of the words. A Hash in memory: what it has taken; sha.Sum; Hash.changed. Small words on digests. sha.Trunc. Rows of bytes and of words that a call builds by append; bytes.Clone. Small words for the statements' walks; sha.Keyed. Parts of a slice of bytes, as a statement cuts them. Bytes told as a string; the beginning of a block. The document's own digest: its constants, its first words, the padded text. The document's own schedule. A row of eight words that a call builds and then turns in place. The document's own digest. Any bytes told as a string; the statements' own length test; the reference's Keyed. sha.Expand. The reference's Slice, Keyed, Trunc. Hashes, and what a seed is made. -/
import Derived.Laws.BitsAllLaws
import Derived.Test.YtkhlmcknbangfaaGreatDoorProg
import Derived.WalkKit
import Derived.Below
import Derived.Laws.OwnMore
import Derived.Laws.CopyOwn
import Derived.Laws.BitsAll
import Derived.Deep.Draws
import Derived.Deep.QuietTactic
import Derived.BigQuiet
import Derived.Lib.Hide
import Derived.WalkLawsBesides
import Derived.WalkSpells
import Derived.Laws.CopyRow
import Derived.Laws.Rows
import Derived.LoopTactic
import Derived.StillTailTactics
import Derived.Deep.RegionWith
import Derived.OneCell
import Derived.RegionTactic
import Derived.IntWalk
import Derived.Deep.RegionLawGrows
import Derived.RangeFuncNested
import Derived.RangeFuncBound
import Derived.RangeFuncCalls
import Derived.RangeFuncLeaves
import Derived.Shelf.Abstract
import Derived.Shelf.RegionOpen
import Derived.OwnWalkIn
import Derived.TacticsInMore
import Derived.LoopNIn
import Derived.LoopIn
import Derived.RangeFuncFrom
import Derived.OwnWalk
import Derived.Laws.BytesArg
import Derived.BigRegion
namespace Go.Proofs.YtkhlmcknbangfaaGreatDoor.Sh

/-- the words' operations -/
def wx (a b : Nat) : Nat := (bits .xor .u32 (a : Int) (b : Int)).toNat
def wa (a b : Nat) : Nat := (bits .and .u32 (a : Int) (b : Int)).toNat
def wo (a b : Nat) : Nat := (bits .or .u32 (a : Int) (b : Int)).toNat
def wn (a : Nat) : Nat := wx 4294967295 a
def ad (a b : Nat) : Nat := (a + b) % 4294967296
def dn (x n : Nat) : Nat := x / 2 ^ n
def up (x n : Nat) : Nat := x * 2 ^ n % 4294967296
def rt (x n : Nat) : Nat := wo (up x (32 - n)) (dn x n)

theorem wrap_u32_nonneg' (n : Int) : 0 ≤ IntKind.u32.wrap n := by rw [IntKind.wrap_u32']; omega
theorem bits_u32_nonneg (o : BinOp) (h : o = .xor ∨ o = .and ∨ o = .or) (a b : Int) : 0 ≤ bits o .u32 a b := by
  rcases h with rfl | rfl | rfl <;> exact wrap_u32_nonneg' _
theorem bits_u32_lt (o : BinOp) (h : o = .xor ∨ o = .and ∨ o = .or) (a b : Int) : bits o .u32 a b < 4294967296 := by
  have : ∀ n : Int, IntKind.u32.wrap n < 4294967296 := fun n => by rw [IntKind.wrap_u32']; omega
  rcases h with rfl | rfl | rfl <;> exact this _
theorem bits_wx (a b : Nat) : bits .xor .u32 (a : Int) (b : Int) = (wx a b : Int) := by
  have := bits_u32_nonneg .xor (by simp) (a : Int) (b : Int); unfold wx; omega
theorem bits_wa (a b : Nat) : bits .and .u32 (a : Int) (b : Int) = (wa a b : Int) := by
  have := bits_u32_nonneg .and (by simp) (a : Int) (b : Int); unfold wa; omega
theorem bits_wo (a b : Nat) : bits .or .u32 (a : Int) (b : Int) = (wo a b : Int) := by
  have := bits_u32_nonneg .or (by simp) (a : Int) (b : Int); unfold wo; omega
theorem bits_wn (a : Nat) : bits .xor .u32 4294967295 (a : Int) = (wn a : Int) := bits_wx 4294967295 a
theorem bits_wn2 (a : Nat) : bits .xor .u32 (if IntKind.u32.signed = true then -1 else IntKind.u32.max) (a : Int) = (wn a : Int) := bits_wn a
theorem wx_lt (a b : Nat) : wx a b < 4294967296 := by have := bits_u32_lt .xor (by simp) (a : Int) (b : Int); unfold wx; omega
theorem wa_lt (a b : Nat) : wa a b < 4294967296 := by have := bits_u32_lt .and (by simp) (a : Int) (b : Int); unfold wa; omega
theorem wo_lt (a b : Nat) : wo a b < 4294967296 := by have := bits_u32_lt .or (by simp) (a : Int) (b : Int); unfold wo; omega
theorem wn_lt (a : Nat) : wn a < 4294967296 := wx_lt _ _
theorem ad_lt (a b : Nat) : ad a b < 4294967296 := by unfold ad; omega
theorem rt_lt (a b : Nat) : rt a b < 4294967296 := wo_lt _ _
theorem add_ad (a b : Nat) : ((a : Int) + (b : Int)) % 4294967296 = (ad a b : Int) := by unfold ad; omega
theorem wrap_ad (a b : Nat) : IntKind.u32.wrap ((a : Int) + (b : Int)) = (ad a b : Int) := by rw [IntKind.wrap_u32', add_ad]
theorem div_dn (x n : Nat) : (x : Int) / 2 ^ n = (dn x n : Int) := by unfold dn; simp
theorem mul_up (x n : Nat) : (x : Int) * 2 ^ n % 4294967296 = (up x n : Int) := by unfold up; simp
theorem div_8 (x : Nat) : (x : Int) / 8 = (dn x 3 : Int) := div_dn x 3
theorem div_1024 (x : Nat) : (x : Int) / 1024 = (dn x 10 : Int) := div_dn x 10
theorem wo_comm (a b : Nat) : wo a b = wo b a := by
  show (IntKind.u32.wrap (BitVec.toNat (BitVec.ofInt 32 (a : Int) ||| BitVec.ofInt 32 (b : Int)) : Int)).toNat = (IntKind.u32.wrap (BitVec.toNat (BitVec.ofInt 32 (b : Int) ||| BitVec.ofInt 32 (a : Int)) : Int)).toNat
  rw [BitVec.or_comm]
theorem wo_nat {a b : Nat} (ha : a < 4294967296) (hb : b < 4294967296) : wo a b = a ||| b := by
  unfold wo; rw [u32_or_nat a b ha hb]; rfl
theorem or_add {a b n : Nat} (hb : b < 2 ^ n) : a * 2 ^ n ||| b = a * 2 ^ n + b := by
  rw [Nat.mul_comm, ← Nat.two_pow_add_eq_or_of_lt hb]

/-- four bytes as a word -/
def word (a b c d : Nat) : Nat := ((a * 256 + b) * 256 + c) * 256 + d
theorem word_or {a b c d : Nat} (ha : a < 256) (hb : b < 256) (hc : c < 256) (hd : d < 256) :
    wo (wo (wo (up a 24) (up b 16)) (up c 8)) d = word a b c d := by
  have e1 : up a 24 = a * 65536 * 256 := by unfold up; omega
  have e2 : up b 16 = b * 65536 := by unfold up; omega
  have e3 : up c 8 = c * 256 := by unfold up; omega
  rw [e1, e2, e3]
  have h1 : a * 65536 * 256 ||| b * 65536 = (a * 256 + b) * 65536 := by
    have := or_add (a := a) (b := b * 65536) (n := 24) (by omega)
    simp only [show (2 : Nat) ^ 24 = 16777216 from rfl] at this
    rw [show a * 65536 * 256 = a * 16777216 by omega, this]; omega
  have h2 : (a * 256 + b) * 65536 ||| c * 256 = ((a * 256 + b) * 256 + c) * 256 := by
    have := or_add (a := a * 256 + b) (b := c * 256) (n := 16) (by omega)
    simp only [show (2 : Nat) ^ 16 = 65536 from rfl] at this
    rw [this]; omega
  have h3 : ((a * 256 + b) * 256 + c) * 256 ||| d = ((a * 256 + b) * 256 + c) * 256 + d := or_add (n := 8) (by omega)
  rw [wo_nat (a := a * 65536 * 256) (by omega) (by omega), h1, wo_nat (a := (a * 256 + b) * 65536) (by omega) (by omega), h2, wo_nat (by omega) (by omega), h3]
  rfl
theorem word_lt {a b c d : Nat} (ha : a < 256) (hb : b < 256) (hc : c < 256) (hd : d < 256) : word a b c d < 4294967296 := by unfold word; omega

/-- the schedule: the first 16 words, then those that follow -/
def sg0 (x : Nat) : Nat := wx (wx (rt x 7) (rt x 18)) (dn x 3)
def sg1 (x : Nat) : Nat := wx (wx (rt x 17) (rt x 19)) (dn x 10)
def wordAt (p : List Nat) (t : Nat) : Nat := word (p.getD (4 * t) 0) (p.getD (4 * t + 1) 0) (p.getD (4 * t + 2) 0) (p.getD (4 * t + 3) 0)
def sched1 (p : List Nat) : Nat → List Nat
  | 0 => []
  | t + 1 => sched1 p t ++ [wordAt p t]
def nextW (w : List Nat) : Nat := ad (ad (ad (sg1 (w.getD (w.length - 2) 0)) (w.getD (w.length - 7) 0)) (sg0 (w.getD (w.length - 15) 0))) (w.getD (w.length - 16) 0)
def sched2 (w : List Nat) : Nat → List Nat
  | 0 => w
  | t + 1 => sched2 w t ++ [nextW (sched2 w t)]
def sched (p : List Nat) : List Nat := sched2 (sched1 p 16) 48
theorem length_sched1 (p : List Nat) (t : Nat) : (sched1 p t).length = t := by induction t with
  | zero => rfl
  | succ t ih => simp [sched1, ih]
theorem length_sched2 (w : List Nat) (t : Nat) : (sched2 w t).length = w.length + t := by induction t with
  | zero => rfl
  | succ t ih => simp [sched2, ih]; omega
theorem length_sched (p : List Nat) : (sched p).length = 64 := by rw [sched, length_sched2, length_sched1]

/-- eight words, and what a round makes of them -/
structure St where
  a : Nat
  b : Nat
  c : Nat
  d : Nat
  e : Nat
  f : Nat
  g : Nat
  h : Nat
def bs1 (e : Nat) : Nat := wx (wx (rt e 6) (rt e 11)) (rt e 25)
def bs0 (a : Nat) : Nat := wx (wx (rt a 2) (rt a 13)) (rt a 22)
def ch (e f g : Nat) : Nat := wx (wa e f) (wa (wn e) g)
def maj (a b c : Nat) : Nat := wx (wx (wa a b) (wa a c)) (wa b c)
def t1 (s : St) (k w : Nat) : Nat := ad (ad (ad (ad s.h (bs1 s.e)) (ch s.e s.f s.g)) k) w
def t2 (s : St) : Nat := ad (bs0 s.a) (maj s.a s.b s.c)
def rnd (s : St) (k w : Nat) : St := ⟨ad (t1 s k w) (t2 s), s.a, s.b, s.c, ad s.d (t1 s k w), s.e, s.f, s.g⟩
def rnds (ks ws : List Nat) (s : St) : Nat → St
  | 0 => s
  | t + 1 => rnd (rnds ks ws s t) (ks.getD t 0) (ws.getD t 0)
def plus (x y : St) : St := ⟨ad x.a y.a, ad x.b y.b, ad x.c y.c, ad x.d y.d, ad x.e y.e, ad x.f y.f, ad x.g y.g, ad x.h y.h⟩
def kk : List Nat := [
  0x428a2f98, 0x71374491, 0xb5c0fbcf, 0xe9b5dba5, 0x3956c25b, 0x59f111f1, 0x923f82a4, 0xab1c5ed5,
  0xd807aa98, 0x12835b01, 0x243185be, 0x550c7dc3, 0x72be5d74, 0x80deb1fe, 0x9bdc06a7, 0xc19bf174,
  0xe49b69c1, 0xefbe4786, 0x0fc19dc6, 0x240ca1cc, 0x2de92c6f, 0x4a7484aa, 0x5cb0a9dc, 0x76f988da,
  0x983e5152, 0xa831c66d, 0xb00327c8, 0xbf597fc7, 0xc6e00bf3, 0xd5a79147, 0x06ca6351, 0x14292967,
  0x27b70a85, 0x2e1b2138, 0x4d2c6dfc, 0x53380d13, 0x650a7354, 0x766a0abb, 0x81c2c92e, 0x92722c85,
  0xa2bfe8a1, 0xa81a664b, 0xc24b8b70, 0xc76c51a3, 0xd192e819, 0xd6990624, 0xf40e3585, 0x106aa070,
  0x19a4c116, 0x1e376c08, 0x2748774c, 0x34b0bcb5, 0x391c0cb3, 0x4ed8aa4a, 0x5b9cca4f, 0x682e6ff3,
  0x748f82ee, 0x78a5636f, 0x84c87814, 0x8cc70208, 0x90befffa, 0xa4506ceb, 0xbef9a3f7, 0xc67178f2]
def first : St := ⟨0x6a09e667, 0xbb67ae85, 0x3c6ef372, 0xa54ff53a, 0x510e527f, 0x9b05688c, 0x1f83d9ab, 0x5be0cd19⟩
/-- what a block changes -/
def chg (s : St) (p : List Nat) : St := plus s (rnds kk (sched p) s 64)
/-- what the first n blocks of some bytes change -/
def chgN (s : St) (bs : List Nat) : Nat → St
  | 0 => s
  | n + 1 => chg (chgN s bs n) ((bs.drop (64 * n)).take 64)

/-- the digest's bytes -/
def by4 (x : Nat) : List Nat := [x / 16777216 % 256, x / 65536 % 256, x / 256 % 256, x % 256]
def words (s : St) : List Nat := [s.a, s.b, s.c, s.d, s.e, s.f, s.g, s.h]
def dig (s : St) : List Nat := (words s).flatMap by4
/-- eight bytes of a number, the greatest first -/
def by8 (n : Nat) : List Nat := [n / 72057594037927936 % 256, n / 281474976710656 % 256, n / 1099511627776 % 256, n / 4294967296 % 256, n / 16777216 % 256, n / 65536 % 256, n / 256 % 256, n % 256]
/-- what stands behind n bytes in the padded text -/
def pad (n : Nat) : List Nat := 128 :: (List.replicate ((119 - n % 64) % 64) 0 ++ by8 (8 * n))
theorem length_pad (n : Nat) : (pad n).length = 9 + (119 - n % 64) % 64 := by simp [pad, by8]; omega
theorem pad_whole (n : Nat) : (n + (pad n).length) % 64 = 0 := by rw [length_pad]; omega
/-- the digest -/
def sha (b : List Nat) : List Nat := dig (chgN first (b ++ pad b.length) ((b.length + (pad b.length).length) / 64))

theorem chgN_append (s : St) (a b : List Nat) (n : Nat) (h : 64 * n ≤ a.length) : chgN s (a ++ b) n = chgN s a n := by
  induction n with
  | zero => rfl
  | succ n ih =>
    rw [chgN, chgN, ih (by omega)]
    congr 1
    rw [List.drop_append_of_le_length (by omega), List.take_append_of_le_length (by simp; omega)]
theorem chgN_add (s : St) (a : List Nat) (m n : Nat) : chgN s a (m + n) = chgN (chgN s a m) (a.drop (64 * m)) n := by
  induction n with
  | zero => rfl
  | succ n ih =>
    rw [Nat.add_succ, chgN, ih, chgN, List.drop_drop, Nat.mul_add]
/-- taken in two pieces: the words behind the first, what it left over, and the second -/
theorem chgN_two (s : St) (a b : List Nat) : chgN s (a ++ b) ((a.length + b.length) / 64) =
    chgN (chgN s a (a.length / 64)) (a.drop (64 * (a.length / 64)) ++ b) (((a.drop (64 * (a.length / 64))).length + b.length) / 64) := by
  have e : (a.length + b.length) / 64 = a.length / 64 + ((a.drop (64 * (a.length / 64))).length + b.length) / 64 := by
    rw [List.length_drop]; omega
  rw [e, chgN_add, chgN_append _ _ _ _ (by omega), List.drop_append_of_le_length (by omega)]

example : (sha []).take 4 = [0xe3, 0xb0, 0xc4, 0x42] := by decide +kernel
theorem rnds_zero (ks ws : List Nat) (s : St) : rnds ks ws s 0 = s := rfl
theorem rnds_succ (ks ws : List Nat) (s : St) (t : Nat) : rnds ks ws s (t + 1) = rnd (rnds ks ws s t) (ks.getD t 0) (ws.getD t 0) := rfl
theorem chgN_zero (s : St) (b : List Nat) : chgN s b 0 = s := rfl
theorem chgN_succ (s : St) (b : List Nat) (n : Nat) : chgN s b (n + 1) = chg (chgN s b n) ((b.drop (64 * n)).take 64) := rfl
theorem chg_is (s : St) (p : List Nat) : chg s p = plus s (rnds kk (sched p) s 64) := rfl
theorem sha_is (b : List Nat) : sha b = dig (chgN first (b ++ pad b.length) ((b.length + (pad b.length).length) / 64)) := rfl
attribute [irreducible] sched1 sched2 sched rnds chgN chg sha
end Go.Proofs.YtkhlmcknbangfaaGreatDoor.Sh
namespace Go.Proofs.YtkhlmcknbangfaaGreatDoor.Sh
open Go.RowKit
set_option linter.unusedVariables false
attribute [local go_sem] bits_wx bits_wa bits_wo bits_wn add_ad wrap_ad mul_up div_dn

theorem neg_and (k : Nat) (h1 : 1 ≤ k) (h2 : k ≤ 31) : bits BinOp.and IntKind.u64 (IntKind.u64.wrap (-(k : Int))) 31 = ((32 - k : Nat) : Int) := by
  have : ∀ k : Fin 32, 1 ≤ k.val → bits BinOp.and IntKind.u64 (IntKind.u64.wrap (-(k.val : Int))) 31 = ((32 - k.val : Nat) : Int) := by decide +kernel
  exact this ⟨k, by omega⟩ h1
theorem rot_any (x : Nat) (hx : x < 4294967296) (k : Nat) (hk : 1 ≤ k) (hk' : k ≤ 31) (w : World) :
    Calls Tryz.prog 186 #[.int .u32 (x : Int), .int .i64 (-(k : Int))] w fun e w' => e = .returned (.int .u32 (rt x k : Nat)) ∧ w = w' := by
  have h := neg_and k hk hk'
  obtain ⟨m, hm⟩ : ∃ m, 32 - k = m := ⟨_, rfl⟩
  rw [hm] at h
  have h1 : m ≤ 31 := by omega
  have h2 : 1 ≤ m := by omega
  have hs : IntKind.u64.wrap (32 - (m : Int)) = (k : Int) := by rw [IntKind.wrap_u64]; omega
  have Hm : Hid (rt x k = wo (up x m) (dn x k)) := by rw [← hm]; rfl
  clear hm
  go_enter Tryz.func186, Tryz.ntmps186
  go_wp2
  go_ret
  rw [Hm.out]
  exact ⟨rfl, rfl⟩
theorem turned_any (x : Nat) (hx : x < 4294967296) (k : Int) (hk : 1 ≤ k) (hk' : k ≤ 31) (w : World) :
    Calls Tryz.prog 182 #[.int .u32 (x : Int), .int .i64 k] w fun e w' => e = .returned (.int .u32 (rt x k.toNat : Nat)) ∧ w = w' := by
  obtain ⟨k, rfl⟩ := Int.eq_ofNat_of_zero_le (show 0 ≤ k by omega)
  rw [Int.toNat_natCast]
  go_enter Tryz.func182, Tryz.ntmps182
  go_wp2_with (go_at_call 186; refine (rot_any x hx k (by omega) (by omega) _).mono ?_; rintro e w' ⟨rfl, rfl⟩)
  go_ret
  exact ⟨rfl, rfl⟩

/-- the cells of a row of bytes -/
def bs (xs : List Nat) : List Value := xs.map fun x : Nat => .int .u8 (x : Int)
def Lim (n : Nat) (xs : List Nat) : Prop := ∀ x ∈ xs, x < n
theorem Lim.nil (n : Nat) : Lim n [] := fun _ h => by cases h
theorem Lim.append {n : Nat} {xs ys : List Nat} (h : Lim n xs) (k : Lim n ys) : Lim n (xs ++ ys) := fun x hx => (List.mem_append.1 hx).elim (h x) (k x)
theorem Lim.one {n x : Nat} (h : x < n) : Lim n [x] := fun y hy => by simp at hy; omega
theorem Lim.take {n : Nat} {xs : List Nat} (h : Lim n xs) (k : Nat) : Lim n (xs.take k) := fun x hx => h x (List.mem_of_mem_take hx)
theorem Lim.drop {n : Nat} {xs : List Nat} (h : Lim n xs) (k : Nat) : Lim n (xs.drop k) := fun x hx => h x (List.mem_of_mem_drop hx)
theorem Lim.get {n : Nat} {xs : List Nat} (h : Lim n xs) (hn : 0 < n) (k : Nat) : xs.getD k 0 < n := by
  by_cases hk : k < xs.length
  · simpa [List.getD, List.getElem?_eq_getElem hk] using h _ (List.getElem_mem hk)
  · simpa [List.getD, List.getElem?_eq_none (show xs.length ≤ k by omega)] using hn
/-- the slice value '.slice A n c' reads as the bytes xs; it lies below block B -/
structure Nb (w : World) (B : Nat) (A : Option Addr) (n c : Nat) (xs : List Nat) : Prop where
  len : xs.length = n
  cap : n ≤ c
  room : c ≤ 9223372036854775807
  lim : Lim 256 xs
  cell : 0 < n → ∃ b off, A = some ⟨b, off, none⟩ ∧ b < B ∧ ∀ j x : Nat, xs[j]? = some x → w.cell? ⟨b, off + j, none⟩ = some (.int .u8 (x : Int))

theorem Nb.at_ {w : World} {B : Nat} {A : Option Addr} {n c : Nat} {xs : List Nat} (h : Nb w B A n c xs) {k : Nat} (hk : k < n) :
    ∃ b off, A = some ⟨b, off, none⟩ ∧ b < B ∧ w.cell? ⟨b, off + k, none⟩ = some (.int .u8 ((xs.getD k 0 : Nat) : Int)) := by
  obtain ⟨b, off, e, hb, hc⟩ := h.cell (by omega)
  have hl : k < xs.length := by rw [h.len]; exact hk
  refine ⟨b, off, e, hb, ?_⟩
  have := hc k xs[k] (List.getElem?_eq_getElem hl)
  rw [this]
  simp [List.getD, List.getElem?_eq_getElem hl]
theorem Nb.keep {w w' : World} {B : Nat} {A : Option Addr} {n c : Nat} {xs : List Nat} (h : Nb w B A n c xs) (hk : ∀ p : Addr, p.block < B → w'.cell? p = w.cell? p) : Nb w' B A n c xs :=
  ⟨h.len, h.cap, h.room, h.lim, fun hn => by
    obtain ⟨b, off, e, hb, hc⟩ := h.cell hn
    exact ⟨b, off, e, hb, fun j x hx => (hk _ hb).trans (hc j x hx)⟩⟩
theorem Nb.more {w : World} {B B' : Nat} {A : Option Addr} {n c : Nat} {xs : List Nat} (h : Nb w B A n c xs) (hB : B ≤ B') : Nb w B' A n c xs :=
  ⟨h.len, h.cap, h.room, h.lim, fun hn => by
    obtain ⟨b, off, e, hb, hc⟩ := h.cell hn
    exact ⟨b, off, e, by omega, hc⟩⟩
theorem Nb.below {w w' : World} {B : Nat} {A : Option Addr} {n c : Nat} {xs : List Nat} (h : Nb w B A n c xs) (hb : Below B w w') : Nb w' B A n c xs := h.keep fun _ hp => hb.cell hp
theorem Nb.bel {w w' : World} {B : Nat} {A : Option Addr} {n c : Nat} {xs : List Nat} (h : Nb w w.heap.size A n c xs) (hb : Below B w w') (hB : w.heap.size ≤ B) : Nb w' w'.heap.size A n c xs :=
  (h.keep fun _ hp => hb.cell (by omega)).more hb.size
theorem Nb.drewN {w : World} {B : Nat} {A : Option Addr} {n c : Nat} {xs : List Nat} (h : Nb w B A n c xs) (k : Nat) : Nb (w.drewN k) B A n c xs := ⟨h.len, h.cap, h.room, h.lim, h.cell⟩
theorem Nb.nil (w : World) (B c : Nat) (h : c ≤ 9223372036854775807) (A : Option Addr) : Nb w B A 0 c [] := ⟨rfl, Nat.zero_le _, h, Lim.nil _, fun h => absurd h (Nat.lt_irrefl _)⟩

theorem word_bits {a b c d : Nat} (ha : a < 256) (hb : b < 256) (hc : c < 256) (hd : d < 256) :
    bits .or .u32 (bits .or .u32 (bits .or .u32 ((a : Int) * 16777216) ((b : Int) * 65536)) ((c : Int) * 256)) (d : Int) = (word a b c d : Nat) := by
  rw [← word_or ha hb hc hd, ← bits_wo, ← bits_wo, ← bits_wo]
  have e1 : up a 24 = a * 16777216 := by unfold up; omega
  have e2 : up b 16 = b * 65536 := by unfold up; omega
  have e3 : up c 8 = c * 256 := by unfold up; omega
  rw [e1, e2, e3]
  simp
/-- sha.wordOf -/
theorem wordOf_any {w : World} {B c : Nat} {A : Option Addr} {xs : List Nat} (h : Nb w B A 4 c xs) :
    Calls Tryz.prog 185 #[.slice A 4 c] w fun e w' => (∃ q, w' = w.drewN q) ∧ e = .returned (.int .u32 (word (xs.getD 0 0) (xs.getD 1 0) (xs.getD 2 0) (xs.getD 3 0) : Nat)) := by
  have hc := h.cap
  have hr := h.room
  obtain ⟨b, off, rfl, hb, h0⟩ := h.at_ (k := 0) (by omega)
  obtain ⟨b1, off1, e1, hb1, h1⟩ := h.at_ (k := 1) (by omega)
  obtain ⟨b2, off2, e2, hb2, h2⟩ := h.at_ (k := 2) (by omega)
  obtain ⟨b3, off3, e3, hb3, h3⟩ := h.at_ (k := 3) (by omega)
  simp only [Option.some.injEq, Addr.mk.injEq, and_true] at e1 e2 e3
  obtain ⟨rfl, rfl⟩ := e1
  obtain ⟨rfl, rfl⟩ := e2
  obtain ⟨rfl, rfl⟩ := e3
  have l0 := h.lim.get (by omega) 0
  have l1 := h.lim.get (by omega) 1
  have l2 := h.lim.get (by omega) 2
  have l3 := h.lim.get (by omega) 3
  generalize xs.getD 0 0 = x0 at *
  generalize xs.getD 1 0 = x1 at *
  generalize xs.getD 2 0 = x2 at *
  generalize xs.getD 3 0 = x3 at *
  have Hw := Lib.hid (word_bits l0 l1 l2 l3)
  rw [Nat.add_zero] at h0
  go_enter Tryz.func185, Tryz.ntmps185
  go_wp2
  go_quiet (fail)
  go_wp2
  go_ret
  rw [Hw.out]
  exact ⟨⟨_, rfl⟩, rfl⟩
end Go.Proofs.YtkhlmcknbangfaaGreatDoor.Sh
namespace Go.Proofs.YtkhlmcknbangfaaGreatDoor.Sh
open Go.RowKit
set_option linter.unusedVariables false

theorem run_storeVar_row {P : Program} (w : World) (g : Nat) (ty : TypeId) (cs : List Value) (t : TypeId) (cur : Array Value) (hg : w.heap[g]? = some (.cells cur t (0, 0)))
    (h1 : ∀ v ∈ cs, v.oneCell' = true) (hs : cs.length = cur.size) (hi : (P.info? ty).map (·.size) = some cs.length) :
    (storeVar ty ⟨g, 0, none⟩ (.agg cs.toArray)).run P w = .ok () (w.setRow g cs.toArray) := by
  cases hq : P.info? ty with
  | none => simp [hq] at hi
  | some i =>
    have hsz : i.size = cs.length := by simpa [hq] using hi
    have hst := run_storeCells_at (P := P) g 0 t cs 0 cur w hg (by omega) h1
    have e : (List.take (0 + 0) cur.toList ++ cs ++ List.drop (0 + 0 + cs.length) cur.toList).toArray = cs.toArray := by
      rw [List.drop_eq_nil_of_le (by simp; omega)]; simp
    rw [e] at hst
    simp [storeVar, Sem.run_bind, sizeOf, typeInfo, hq, hsz, Value.cells, hst]
theorem wpList_store_row {P : Program} {ops : Array Oper} {rest : List Oper} {o : Oper} {a : Act} {w : World} {Q : Exit → Act → World → Prop} (hgd : o.guard = none) (hd : o.dst = none) (ty : TypeId) (x v : Operand) (ho : o.op = .store ty x v)
    (g : Nat) (hx : a.eval x = .pointer (some ⟨g, 0, none⟩)) (cs : List Value) (hv : a.eval v = .agg cs.toArray) (t : TypeId) (cur : Array Value) (hg : w.heap[g]? = some (.cells cur t (0, 0)))
    (h1 : ∀ v ∈ cs, v.oneCell' = true) (hs : cs.length = cur.size) (hi : (P.info? ty).map (·.size) = some cs.length)
    (h : wpList P ops Q rest a (w.setRow g cs.toArray)) : wpList P ops Q (o :: rest) a w := by
  refine wpList_plain hgd fun K hK => ?_
  unfold Oper.wp execOp
  simp only [ho, hx, hv, Instr.storeAt, Instr.sureAddr, Sem.run_bind, Sem.run_pure, Result.andThen_ok, run_storeVar_row w g ty cs t cur hg h1 hs hi]
  have := hK _ _ h
  simpa [Oper.upon, hd, Act.put] using this
end Go.Proofs.YtkhlmcknbangfaaGreatDoor.Sh
namespace Go.Proofs.YtkhlmcknbangfaaGreatDoor.Sh
open Go.RowKit
set_option linter.unusedVariables false
attribute [local go_sem] bits_wx bits_wa bits_wo bits_wn add_ad wrap_ad mul_up div_dn div_8 div_1024

/-- the values of a row of words -/
def wv (xs : List Nat) : List Value := xs.map fun x : Nat => .int .u32 (x : Int)
theorem length_wv (xs : List Nat) : (wv xs).length = xs.length := by simp [wv]
theorem wv_one (xs : List Nat) : ∀ v ∈ wv xs, v.oneCell' = true := by
  intro v hv
  simp only [wv, List.mem_map] at hv
  obtain ⟨x, _, rfl⟩ := hv
  rfl
/-- block g is just the words xs, of an array type t -/
def Wb (w : World) (g t : Nat) (xs : List Nat) : Prop := w.heap[g]? = some (.cells (wv xs).toArray t (0, 0))
theorem Wb.lt {w : World} {g t : Nat} {xs : List Nat} (h : Wb w g t xs) : g < w.heap.size := by
  rcases Nat.lt_or_ge g w.heap.size with hlt | hge
  · exact hlt
  · unfold Wb at h; rw [Array.getElem?_eq_none hge] at h; cases h
theorem Wb.cell {w : World} {g t : Nat} {xs : List Nat} (h : Wb w g t xs) {j : Nat} (hj : j < xs.length) : w.cell? ⟨g, j, none⟩ = some (.int .u32 ((xs.getD j 0 : Nat) : Int)) := by
  rw [cell_of_row w g j (wv xs).toArray t (0, 0) h]
  simp [wv, List.getD, List.getElem?_eq_getElem hj]
theorem Wb.frozen {w : World} {g t : Nat} {xs : List Nat} (h : Wb w g t xs) (j : Nat) : w.frozen? ⟨g, j, none⟩ = false := by
  unfold Wb at h
  simp [World.frozen?, h]
theorem Wb.set_ {w : World} {g t : Nat} {xs : List Nat} (h : Wb w g t xs) (j x : Nat) : Wb (w.setCell ⟨g, j, none⟩ (.int .u32 (x : Int))) g t (xs.set j x) := by
  unfold Wb at h ⊢
  simp [World.setCell, Array.getElem?_modify, h, wv]
theorem Wb.drewN {w : World} {g t : Nat} {xs : List Nat} (h : Wb w g t xs) (n : Nat) : Wb (w.drewN n) g t xs := h
theorem Wb.drew {w : World} {g t : Nat} {xs : List Nat} (h : Wb w g t xs) : Wb w.drew g t xs := h
theorem Wb.alloc {w : World} {g t : Nat} {xs : List Nat} (h : Wb w g t xs) (o : Obj) : Wb (w.alloc o) g t xs := (Below.heap_alloc w o g h.lt).trans h
theorem Wb.below {w w' : World} {B g t : Nat} {xs : List Nat} (h : Wb w g t xs) (hb : Below B w w') (hg : g < B) : Wb w' g t xs := (hb.block g hg).trans h
theorem Wb.other {w : World} {g t : Nat} {xs : List Nat} (h : Wb w g t xs) {p : Addr} (hp : p.block ≠ g) (v : Value) : Wb (w.setCell p v) g t xs := (Below.heap_setCell w p v g (fun e => hp e.symm)).trans h

theorem below_drewN {B : Nat} {a w : World} (h : Below B a w) (n : Nat) : Below B a (w.drewN n) := ⟨h.os, h.tape, h.output, h.size, h.block⟩
theorem below_drew {B : Nat} {a w : World} (h : Below B a w) : Below B a w.drew := ⟨h.os, h.tape, h.output, h.size, h.block⟩

/-- a part of a row of bytes -/
theorem Nb.part {w : World} {B n c : Nat} {A : Option Addr} {xs : List Nat} (h : Nb w B A n c xs) {b off : Nat} (hA : A = some ⟨b, off, none⟩) (k m c' : Nat) (hk : k + m ≤ n) (hc : m ≤ c') (hc' : c' ≤ 9223372036854775807) :
    Nb w B (some ⟨b, off + k, none⟩) m c' ((xs.drop k).take m) :=
  ⟨by rw [List.length_take, List.length_drop, h.len]; omega, hc, hc', (h.lim.drop k).take m, fun hm => by
    obtain ⟨b', off', e, hb, hcell⟩ := h.cell (by omega)
    subst hA
    simp only [Option.some.injEq, Addr.mk.injEq, and_true] at e
    obtain ⟨rfl, rfl⟩ := e
    refine ⟨b, off + k, rfl, hb, fun j x hj => ?_⟩
    rw [List.getElem?_take] at hj
    split at hj
    · rw [List.getElem?_drop] at hj
      rw [Nat.add_assoc]
      exact hcell _ _ hj
    · cases hj⟩

theorem wordAt_part (xs : List Nat) (t : Nat) : word (((xs.drop (4 * t)).take 4).getD 0 0) (((xs.drop (4 * t)).take 4).getD 1 0) (((xs.drop (4 * t)).take 4).getD 2 0) (((xs.drop (4 * t)).take 4).getD 3 0) = wordAt xs t := by
  unfold wordAt
  simp [List.getD, List.getElem?_drop]

theorem set_at {ws : List Nat} {n j x : Nat} (h : ws.length = j) (hj : j < n) : (ws ++ List.replicate (n - j) 0).set j x = ws ++ [x] ++ List.replicate (n - (j + 1)) 0 := by
  obtain ⟨m, hm⟩ : ∃ m, n - j = m + 1 := ⟨n - j - 1, by omega⟩
  rw [hm, show n - (j + 1) = m by omega, List.replicate_succ]
  subst h
  simp
theorem getD_app {ws zs : List Nat} {k : Nat} (h : k < ws.length) : (ws ++ zs).getD k 0 = ws.getD k 0 := by
  simp [List.getD, List.getElem?_append_left h]

theorem wordAt_lt {p : List Nat} (h : Lim 256 p) (t : Nat) : wordAt p t < 4294967296 := word_lt (h.get (by omega) _) (h.get (by omega) _) (h.get (by omega) _) (h.get (by omega) _)
theorem lim_sched1 {p : List Nat} (h : Lim 256 p) (t : Nat) : Lim 4294967296 (sched1 p t) := by
  induction t with
  | zero => rw [sched1]; exact Lim.nil _
  | succ t ih => rw [sched1]; exact ih.append (Lim.one (wordAt_lt h t))
theorem lim_sched2 {w : List Nat} (h : Lim 4294967296 w) (t : Nat) : Lim 4294967296 (sched2 w t) := by
  induction t with
  | zero => rw [sched2]; exact h
  | succ t ih => rw [sched2]; exact ih.append (Lim.one (ad_lt _ _))
/-- what a schedule hands back -/
def Zeros : Obj := .cells (wv (List.replicate 64 0)).toArray 162 (0, 0)
theorem alloc_wb (w : World) : Wb (w.alloc Zeros) w.heap.size 162 (List.replicate 64 0) := by
  exact heap_alloc_new w _
set_option maxRecDepth 100000
set_option maxHeartbeats 1000000 in
theorem schedule_any {w : World} {c : Nat} {A : Option Addr} {xs : List Nat} (h : Nb w w.heap.size A 64 c xs) :
    Calls Tryz.prog 181 #[.slice A 64 c] w fun e w' => e = .returned (.agg (wv (sched xs)).toArray) ∧ Below w.heap.size w w' := by
  have hc := h.cap
  have hr := h.room
  obtain ⟨b, off, rfl, hb, -⟩ := h.cell (by omega)
  obtain ⟨S, hS⟩ : ∃ S, sched xs = S := ⟨_, rfl⟩
  rw [hS]
  have HS := Lib.hid hS
  clear hS
  have hz := alloc_wb w
  have hb0 : Below w.heap.size w (w.alloc Zeros) := (Below.refl _ _).alloc (Nat.le_refl _) _
  go_enter Tryz.func181, Tryz.ntmps181
  go_wp2
  have hs0 : ((w.alloc Zeros).alloc Zeros).heap.size = w.heap.size + 2 := by simp
  have hz1 : Wb ((w.alloc Zeros).alloc Zeros) (w.heap.size + 1) 162 (List.replicate 64 0) := by have := alloc_wb (w.alloc Zeros); simpa using this
  have hz0 : Wb ((w.alloc Zeros).alloc Zeros) w.heap.size 162 (List.replicate 64 0) := hz.alloc _
  have hb1 : Below w.heap.size w ((w.alloc Zeros).alloc Zeros) := hb0.alloc (by simp) _
  change Code.wp _ _ _ _ ((w.alloc Zeros).alloc Zeros)
  generalize (w.alloc Zeros).alloc Zeros = w1 at *
  go_loopw [8] (fun i wr => ∃ k : Nat, k ≤ 16 ∧ i = .int .i64 k ∧ Wb wr (w.heap.size + 1) 162 (sched1 xs k ++ List.replicate (64 - k) 0) ∧ Wb wr w.heap.size 162 (List.replicate 64 0) ∧ Below w.heap.size w wr) (fun i _ => 16 - (intOf i).toNat)
  case atStart => exact ⟨0, by omega, rfl, by rw [sched1]; exact hz1, hz0, hb1⟩
  case round =>
    obtain ⟨k, hk, rfl, hw1, hw0, hB⟩ := hrel
    by_cases hlt : k < 16
    · have hp := (h.below hB).part rfl (4 * k) 4 (c - 4 * k) (by omega) (by omega) (by omega)
      have Hv := Lib.hid (set_at (n := 64) (x := wordAt xs k) (length_sched1 xs k) (by omega))
      have Hwa := Lib.hid (wordAt_part xs k)
      have hcell := hw1.cell (j := k) (by rw [List.length_append, length_sched1, List.length_replicate]; omega)
      have hfz := hw1.frozen k
      generalize (xs.drop (4 * k)).take 4 = ys at *
      go_wp2_with fail
      refine (wordOf_any hp).mono ?_
      rintro e w2 ⟨⟨q, rfl⟩, rfl⟩
      rw [Hwa.out]
      go_wp2
      go_roundw
      case rel =>
        refine ⟨k + 1, by omega, by go_num, ?_, hw0.other (by simp) _, ?_⟩
        · rw [sched1, ← Hv.out]
          exact hw1.set_ k _
        · exact (below_drewN hB q).setCell (p := ⟨w.heap.size + 1, k, none⟩) (Nat.le_succ _) _
      case measure => simp [intOf]; omega
    · obtain rfl : k = 16 := by omega
      clear hlt
      go_wp2
      have hs16 : (sched1 xs 16).length = 16 := length_sched1 xs 16
      generalize hss : sched1 xs 16 = ss at *
      have Hs := Lib.hid hss
      clear hss
      go_loopw [5] (fun i wr => ∃ k : Nat, k ≤ 48 ∧ i = .int .i64 (k + 16 : Nat) ∧ Wb wr (w.heap.size + 1) 162 (sched2 ss k ++ List.replicate (48 - k) 0) ∧ Wb wr w.heap.size 162 (List.replicate 64 0) ∧ Below w.heap.size w wr) (fun i _ => 64 - (intOf i).toNat)
      case atStart => exact ⟨0, by omega, rfl, by rw [sched2]; exact hw1, hw0, hB⟩
      case round =>
        clear hw1 hw0 hB hz1 hz0 hb1
        obtain ⟨k, hk, rfl, hw1, hw0, hB⟩ := hrel
        have hl : (sched2 ss k).length = k + 16 := by rw [length_sched2, hs16]; omega
        by_cases hlt : k < 48
        · have hll : (sched2 ss k ++ List.replicate (48 - k) 0).length = 64 := by rw [List.length_append, hl, List.length_replicate]; omega
          have c15 := hw1.cell (j := k + 1) (by omega)
          have c2 := hw1.cell (j := k + 14) (by omega)
          have c7 := hw1.cell (j := k + 9) (by omega)
          have c16 := hw1.cell (j := k) (by omega)
          have c0 := hw1.cell (j := k + 16) (by omega)
          have hfz := hw1.frozen (k + 16)
          rw [getD_app (by omega)] at c15 c2 c7 c16
          have Hv := Lib.hid (set_at (n := 64) (x := nextW (sched2 ss k)) hl (by omega))
          have Hn : Hid (nextW (sched2 ss k) = ad (ad (ad (sg1 ((sched2 ss k).getD (k + 14) 0)) ((sched2 ss k).getD (k + 9) 0)) (sg0 ((sched2 ss k).getD (k + 1) 0))) ((sched2 ss k).getD k 0)) := by
            show _ = _
            rw [nextW, hl]; rfl
          have hL := lim_sched2 (lim_sched1 h.lim 16) k
          rw [Hs.out] at hL
          have l2 := hL.get (by omega) (k + 14)
          have l15 := hL.get (by omega) (k + 1)
          clear hL
          generalize (sched2 ss k).getD (k + 14) 0 = x2 at *
          generalize (sched2 ss k).getD (k + 9) 0 = x7 at *
          generalize (sched2 ss k).getD (k + 1) 0 = x15 at *
          generalize (sched2 ss k).getD k 0 = x16 at *
          have Hll := Lib.hid hll
          have Hl := Lib.hid hl
          clear hll hl hs16
          have w2 : IntKind.i64.wrap ((k : Int) + 16 - 2) = (k : Int) + 14 := (IntWalk.i64_in _ (by omega)).trans (by omega)
          go_wp2
          go_quiet ((go_at_call 182; exact Calls.quiet_of_same ((turned_any _ (by omega) _ (by omega) (by omega) _).mono fun _ _ ⟨he, hw⟩ => ⟨he, hw.symm⟩)))
          replace hB := below_drewN hB nq
          replace hw1 := hw1.drewN nq
          replace hw0 := hw0.drewN nq
          replace c2 : (wr.drewN nq).cell? _ = _ := c2
          replace c7 : (wr.drewN nq).cell? _ = _ := c7
          replace c15 : (wr.drewN nq).cell? _ = _ := c15
          replace c16 : (wr.drewN nq).cell? _ = _ := c16
          replace c0 : (wr.drewN nq).cell? _ = _ := c0
          replace hfz : (wr.drewN nq).frozen? _ = _ := hfz
          generalize wr.drewN nq = wq at *
          go_wp2
          go_quiet ((go_at_call 182; exact Calls.quiet_of_same ((turned_any _ (by omega) _ (by omega) (by omega) _).mono fun _ _ ⟨he, hw⟩ => ⟨he, hw.symm⟩)))
          replace hB := below_drewN hB nq
          replace hw1 := hw1.drewN nq
          replace hw0 := hw0.drewN nq
          replace c2 : (wq.drewN nq).cell? _ = _ := c2
          replace c7 : (wq.drewN nq).cell? _ = _ := c7
          replace c15 : (wq.drewN nq).cell? _ = _ := c15
          replace c16 : (wq.drewN nq).cell? _ = _ := c16
          replace c0 : (wq.drewN nq).cell? _ = _ := c0
          replace hfz : (wq.drewN nq).frozen? _ = _ := hfz
          generalize wq.drewN nq = ws at *
          go_wp2
          have w7 : IntKind.i64.wrap ((k : Int) + 16 - 7) = (k : Int) + 9 := (IntWalk.i64_in _ (by omega)).trans (by omega)
          have w16 : IntKind.i64.wrap ((k : Int) + 16 - 16) = (k : Int) := (IntWalk.i64_in _ (by omega)).trans (by omega)
          have w16' : IntKind.i64.wrap (k : Int) = (k : Int) := (IntWalk.i64_in _ (by omega))
          go_region
          all_goals go_wp2
          go_roundw
          case rel =>
            refine ⟨k + 1, by omega, by go_num, ?_, (hw0.other (Nat.succ_ne_self _) _).drew, below_drew (hB.setCell (p := ⟨w.heap.size + 1, k + 16, none⟩) (Nat.le_succ _) _)⟩
            rw [sched2, show 48 - (k + 1) = 64 - (k + 16 + 1) by omega, ← Hv.out, Hn.out]
            have := hw1.set_ (k + 16) (ad (ad (ad (sg1 x2) x7) (sg0 x15)) x16)
            rw [show 48 - k = 64 - (k + 16) by omega] at this
            exact this.drew
          case measure => simp [intOf]; omega
        · have hS : Wb wr (w.heap.size + 1) 162 S := by
            have h48 : k = 48 := by omega
            rw [h48, show 48 - 48 = 0 from rfl, List.replicate_zero, List.append_nil, ← Hs.out] at hw1
            rw [← HS.out, sched]
            exact hw1
          have hge : 48 ≤ k := by omega
          have HSl : Hid (S.length = 64) := by rw [← HS.out]; exact length_sched xs
          have hL : (wv S).length = 64 := by rw [length_wv]; exact HSl.out
          have HL := Lib.hid hL
          clear hlt hw1 hl HS Hs hs16 hL
          go_wp2_with (first
            | (refine wpList_load_row rfl 162 (.tmp 3) rfl (w.heap.size + 1) rfl 162 (wv S).toArray (0, 0) _ hS Tryz.underlying162 rfl (by rw [List.size_toArray, HL.out]; kernel_rfl) ?_)
            | (refine wpList_store_row rfl rfl 162 (.tmp 2) (.tmp 75) rfl w.heap.size rfl (wv S) rfl 162 _ hw0 (wv_one S) (by rw [HL.out]; simp [wv]) (by rw [HL.out]; kernel_rfl) ?_))
          have hr1 := setRow_heap wr w.heap.size (wv (List.replicate 64 0)).toArray (wv S).toArray 162 (0, 0) hw0
          refine bodyPost_ret (v := .agg (wv S).toArray) (results_cell_row rfl _ _ w.heap.size 162 (wv S).toArray (0, 0) _ rfl hr1 Tryz.underlying162 rfl (by rw [List.size_toArray, HL.out]; kernel_rfl)) rfl ⟨rfl, ?_⟩
          exact below_setRow hB (Nat.le_refl _) _
end Go.Proofs.YtkhlmcknbangfaaGreatDoor.Sh
namespace Go.Proofs.YtkhlmcknbangfaaGreatDoor.Sh
open Go.RowKit
set_option linter.unusedVariables false
attribute [local go_sem] bits_wx bits_wa bits_wo bits_wn bits_wn2 add_ad wrap_ad mul_up div_dn div_8 div_1024

/-- the constants lie in memory -/
structure Ks (w : World) : Prop where
  size : 0 < w.heap.size
  cell : ∀ t, t < 64 → w.cell? ⟨0, t, none⟩ = some (.int .u32 ((kk.getD t 0 : Nat) : Int))
theorem Ks.below {w w' : World} {B : Nat} (h : Ks w) (hb : Below B w w') (hB : 0 < B) : Ks w' :=
  ⟨Nat.lt_of_lt_of_le h.size hb.size, fun t ht => (hb.cell (p := ⟨0, t, none⟩) hB).trans (h.cell t ht)⟩
theorem Ks.bel {w w' : World} (h : Ks w) (hb : Below w.heap.size w w') : Ks w' := h.below hb h.size

structure St.Ok (s : St) : Prop where
  a : s.a < 4294967296
  b : s.b < 4294967296
  c : s.c < 4294967296
  d : s.d < 4294967296
  e : s.e < 4294967296
  f : s.f < 4294967296
  g : s.g < 4294967296
  h : s.h < 4294967296
theorem rnd_ok {s : St} (hs : s.Ok) (k w : Nat) : (rnd s k w).Ok := by
  unfold rnd
  exact ⟨ad_lt (t1 s k w) (t2 s), hs.a, hs.b, hs.c, ad_lt s.d (t1 s k w), hs.e, hs.f, hs.g⟩
theorem rnds_ok {s : St} (hs : s.Ok) (ks ws : List Nat) (t : Nat) : (rnds ks ws s t).Ok := by
  induction t with
  | zero =>
    have e := rnds_zero ks ws s
    rw [e]; exact hs
  | succ t ih => rw [rnds_succ]; exact rnd_ok ih _ _
theorem plus_ok (x y : St) : (plus x y).Ok := by
  unfold plus
  exact ⟨ad_lt x.a y.a, ad_lt x.b y.b, ad_lt x.c y.c, ad_lt x.d y.d, ad_lt x.e y.e, ad_lt x.f y.f, ad_lt x.g y.g, ad_lt x.h y.h⟩
theorem chg_ok (s : St) (p : List Nat) : (chg s p).Ok := by rw [chg_is]; exact plus_ok _ _
theorem chgN_ok {s : St} (hs : s.Ok) (p : List Nat) (n : Nat) : (chgN s p n).Ok := by
  cases n with
  | zero => rw [chgN_zero]; exact hs
  | succ n => rw [chgN_succ]; exact chg_ok _ _

/-- a new block of words -/
def Ob (t : TypeId) (xs : List Nat) : Obj := .cells (wv xs).toArray t (0, 0)
/-- the words as a value -/
def sv (s : St) : Value := .agg #[.int .u32 (s.a : Int), .int .u32 (s.b : Int), .int .u32 (s.c : Int), .int .u32 (s.d : Int), .int .u32 (s.e : Int), .int .u32 (s.f : Int), .int .u32 (s.g : Int), .int .u32 (s.h : Int)]

theorem kk_lt (t : Nat) : kk.getD t 0 < 4294967296 := by
  have h : kk.all (fun x => decide (x < 4294967296)) = true := by decide +kernel
  exact Lim.get (n := 4294967296) (fun x hx => of_decide_eq_true (List.all_eq_true.1 h x hx)) (by omega) t
theorem sched_lim {p : List Nat} (h : Lim 256 p) : Lim 4294967296 (sched p) := by rw [sched]; exact lim_sched2 (lim_sched1 h 16) 48

set_option maxRecDepth 100000
set_option maxHeartbeats 2000000 in
theorem changeBy_any {w : World} {c : Nat} {A : Option Addr} {xs : List Nat} (hk : Ks w) (h : Nb w w.heap.size A 64 c xs) (s : St) (hs : s.Ok) :
    Calls Tryz.prog 164 #[sv s, .slice A 64 c] w fun e w' => e = .returned (sv (chg s xs)) ∧ Below w.heap.size w w' := by
  obtain ⟨R, hR⟩ : ∃ R, chg s xs = R := ⟨_, rfl⟩
  rw [hR]
  have hL := sched_lim h.lim
  have hl := length_sched xs
  have hr := h.room
  have hc := h.cap
  have hsz := hk.size
  obtain ⟨W, hW⟩ : ∃ W, sched xs = W := ⟨_, rfl⟩
  rw [chg_is, hW] at hR
  rw [hW] at hL hl
  have HR := Lib.hid hR
  have Hl := Lib.hid hl
  clear hR hl
  unfold sv
  obtain ⟨a, b, cc, d, ee, f, g, hh⟩ := s
  obtain ⟨h0, h1, h2, h3, h4, h5, h6, h7⟩ := hs
  dsimp only at h0 h1 h2 h3 h4 h5 h6 h7 ⊢
  go_enter Tryz.func164, Tryz.ntmps164
  go_wp2_with fail
  have hb1 : Below w.heap.size w ((w.alloc (Ob 81 [a, b, cc, d, ee, f, g, hh])).alloc (Ob 81 (List.replicate 8 0))) := ((Below.refl _ _).alloc (Nat.le_refl _) _).alloc (by simp) _
  have hx1 : Wb ((w.alloc (Ob 81 [a, b, cc, d, ee, f, g, hh])).alloc (Ob 81 (List.replicate 8 0))) w.heap.size 81 [a, b, cc, d, ee, f, g, hh] := Wb.alloc (heap_alloc_new w _) _
  have hy1 : Wb ((w.alloc (Ob 81 [a, b, cc, d, ee, f, g, hh])).alloc (Ob 81 (List.replicate 8 0))) (w.heap.size + 1) 81 (List.replicate 8 0) := by
    have := heap_alloc_new (w.alloc (Ob 81 [a, b, cc, d, ee, f, g, hh])) (Ob 81 (List.replicate 8 0))
    rwa [World.size_alloc] at this
  have hz1 : ((w.alloc (Ob 81 [a, b, cc, d, ee, f, g, hh])).alloc (Ob 81 (List.replicate 8 0))).heap.size = w.heap.size + 2 := by simp
  change Calls _ _ _ ((w.alloc (Ob 81 [a, b, cc, d, ee, f, g, hh])).alloc (Ob 81 (List.replicate 8 0))) _
  generalize (w.alloc (Ob 81 [a, b, cc, d, ee, f, g, hh])).alloc (Ob 81 (List.replicate 8 0)) = w1 at *
  refine (schedule_any ((h.below hb1).more hb1.size)).mono ?_
  rintro e w2 ⟨rfl, hB⟩
  rw [hW]
  have hx2 := hx1.below hB hx1.lt
  have hy2 := hy1.below hB hy1.lt
  have hb2 : Below w.heap.size w w2 := hb1.trans (hB.mono hb1.size)
  have hs2 := hB.size
  have Hz1 := Lib.hid hz1
  have hz2 : w.heap.size + 2 ≤ w2.heap.size := by omega
  clear hz1 hx1 hy1 hb1 hB h
  have HL : Hid ((wv W).length = 64) := by rw [length_wv]; exact Hl.out
  have hw3 : Wb (w2.alloc Zeros) w2.heap.size 162 (List.replicate 64 0) := alloc_wb w2
  have hx3 := hx2.alloc Zeros
  have hy3 := hy2.alloc Zeros
  have hb3 := hb2.alloc hb2.size Zeros
  go_wp2_with (change wpList _ _ _ _ _ (w2.alloc Zeros); refine wpList_store_row rfl rfl 162 (.tmp 5) (.tmp 20) rfl w2.heap.size rfl (wv W) rfl 162 _ hw3 (wv_one W) (by rw [HL.out]; simp [wv]) (by rw [HL.out]; kernel_rfl) ?_)
  have hw4 : Wb ((w2.alloc Zeros).setRow w2.heap.size (wv W).toArray) w2.heap.size 162 W := setRow_heap _ _ _ _ _ _ hw3
  have hx4 : Wb ((w2.alloc Zeros).setRow w2.heap.size (wv W).toArray) w.heap.size 81 [a, b, cc, d, ee, f, g, hh] := (setRow_other _ _ _ _ (by omega)).trans hx3
  have hy4 : Wb ((w2.alloc Zeros).setRow w2.heap.size (wv W).toArray) (w.heap.size + 1) 81 (List.replicate 8 0) := (setRow_other _ _ _ _ (by omega)).trans hy3
  have hb4 : Below w.heap.size w ((w2.alloc Zeros).setRow w2.heap.size (wv W).toArray) := below_setRow hb3 hb2.size _
  generalize (w2.alloc Zeros).setRow w2.heap.size (wv W).toArray = w4 at *
  generalize w2.heap.size = gw at *
  clear hw3 hx3 hy3 hb3 hx2 hy2 hb2
  have c0 : w4.cell? ⟨w.heap.size, 0, none⟩ = some (.int .u32 (a : Int)) := hx4.cell (j := 0) (by simp)
  have c1 : w4.cell? ⟨w.heap.size, 1, none⟩ = some (.int .u32 (b : Int)) := hx4.cell (j := 1) (by simp)
  have c2 : w4.cell? ⟨w.heap.size, 2, none⟩ = some (.int .u32 (cc : Int)) := hx4.cell (j := 2) (by simp)
  have c3 : w4.cell? ⟨w.heap.size, 3, none⟩ = some (.int .u32 (d : Int)) := hx4.cell (j := 3) (by simp)
  have c4 : w4.cell? ⟨w.heap.size, 4, none⟩ = some (.int .u32 (ee : Int)) := hx4.cell (j := 4) (by simp)
  have c5 : w4.cell? ⟨w.heap.size, 5, none⟩ = some (.int .u32 (f : Int)) := hx4.cell (j := 5) (by simp)
  have c6 : w4.cell? ⟨w.heap.size, 6, none⟩ = some (.int .u32 (g : Int)) := hx4.cell (j := 6) (by simp)
  have c7 : w4.cell? ⟨w.heap.size, 7, none⟩ = some (.int .u32 (hh : Int)) := hx4.cell (j := 7) (by simp)
  go_quiet (fail)
  have hw5 := hw4.drewN nq
  have hx5 := hx4.drewN nq
  have hy5 := hy4.drewN nq
  have hb5 := below_drewN hb4 nq
  clear c0 c1 c2 c3 c4 c5 c6 c7 hw4 hx4 hy4 hb4
  generalize w4.drewN nq = w5 at *
  have c0 : w5.cell? ⟨w.heap.size, 0, none⟩ = some (.int .u32 (a : Int)) := hx5.cell (j := 0) (by simp)
  have c1 : w5.cell? ⟨w.heap.size, 1, none⟩ = some (.int .u32 (b : Int)) := hx5.cell (j := 1) (by simp)
  have c2 : w5.cell? ⟨w.heap.size, 2, none⟩ = some (.int .u32 (cc : Int)) := hx5.cell (j := 2) (by simp)
  have c3 : w5.cell? ⟨w.heap.size, 3, none⟩ = some (.int .u32 (d : Int)) := hx5.cell (j := 3) (by simp)
  have c4 : w5.cell? ⟨w.heap.size, 4, none⟩ = some (.int .u32 (ee : Int)) := hx5.cell (j := 4) (by simp)
  have c5 : w5.cell? ⟨w.heap.size, 5, none⟩ = some (.int .u32 (f : Int)) := hx5.cell (j := 5) (by simp)
  have c6 : w5.cell? ⟨w.heap.size, 6, none⟩ = some (.int .u32 (g : Int)) := hx5.cell (j := 6) (by simp)
  have c7 : w5.cell? ⟨w.heap.size, 7, none⟩ = some (.int .u32 (hh : Int)) := hx5.cell (j := 7) (by simp)
  go_wp2
  go_quiet (fail)
  have hw6 := hw5.drewN nq
  have hx6 := hx5.drewN nq
  have hy6 := hy5.drewN nq
  have hb6 := below_drewN hb5 nq
  clear c0 c1 c2 c3 c4 c5 c6 c7 hw5 hx5 hy5 hb5
  generalize w5.drewN nq = w6 at *
  go_wp2
  obtain ⟨s0, hs0⟩ : ∃ s0 : St, s0 = ⟨a, b, cc, d, ee, f, g, hh⟩ := ⟨_, rfl⟩
  rw [← hs0] at HR
  have Hs0 := Lib.hid hs0
  have ok0 : s0.Ok := by rw [hs0]; exact ⟨h0, h1, h2, h3, h4, h5, h6, h7⟩
  clear hs0
  have hst : Hid (rnds kk W s0 0 = s0) := rnds_zero _ _ _
  go_loopw [6, 7, 8, 9, 10, 11, 12, 13, 37] (fun v6 v7 v8 v9 v10 v11 v12 v13 i wr => ∃ (k : Nat) (s : St), k ≤ 64 ∧ i = .int .i64 k ∧ v6 = .int .u32 (s.a : Int) ∧ v7 = .int .u32 (s.b : Int) ∧ v8 = .int .u32 (s.c : Int) ∧ v9 = .int .u32 (s.d : Int) ∧
      v10 = .int .u32 (s.e : Int) ∧ v11 = .int .u32 (s.f : Int) ∧ v12 = .int .u32 (s.g : Int) ∧ v13 = .int .u32 (s.h : Int) ∧ Hid (rnds kk W s0 k = s) ∧ s.Ok ∧ Wb wr gw 162 W ∧ Wb wr w.heap.size 81 [a, b, cc, d, ee, f, g, hh] ∧ Wb wr (w.heap.size + 1) 81 (List.replicate 8 0) ∧ Below w.heap.size w wr)
    (fun _ _ _ _ _ _ _ _ i _ => 64 - (intOf i).toNat)
  case atStart => exact ⟨0, ⟨a, b, cc, d, ee, f, g, hh⟩, by omega, rfl, rfl, rfl, rfl, rfl, rfl, rfl, rfl, rfl, by rw [← Hs0.out]; exact hst, ⟨h0, h1, h2, h3, h4, h5, h6, h7⟩, hw6, hx6, hy6, hb6⟩
  case round =>
    clear hw6 hx6 hy6 hb6 hst
    obtain ⟨k, ⟨sa, sb, sc, sd, se, sf, sg, sh⟩, hk64, rfl, rfl, rfl, rfl, rfl, rfl, rfl, rfl, rfl, Hs, ⟨k0, k1, k2, k3, k4, k5, k6, k7⟩, hw7, hx7, hy7, hb7⟩ := hrel
    dsimp only at k0 k1 k2 k3 k4 k5 k6 k7
    by_cases hlt : k < 64
    · have ck := (hk.below hb7 hsz).cell k hlt
      have cw := hw7.cell (j := k) (by rw [Hl.out]; exact hlt)
      have Hn : Hid (rnds kk W s0 (k + 1) = rnd ⟨sa, sb, sc, sd, se, sf, sg, sh⟩ (kk.getD k 0) (W.getD k 0)) := by show _ = _; rw [rnds_succ, Hs.out]
      have lk := kk_lt k
      have lw := hL.get (by omega) k
      generalize kk.getD k 0 = kv at *
      generalize W.getD k 0 = wk at *
      clear Hs
      go_wp2_with (go_at_call 182; refine (turned_any _ (by omega) _ (by omega) (by omega) _).mono ?_; rintro e w' ⟨rfl, rfl⟩)
      go_quiet (fail)
      have hw8 := hw7.drewN nq
      have hx8 := hx7.drewN nq
      have hy8 := hy7.drewN nq
      have hb8 := below_drewN hb7 nq
      clear ck cw hw7 hx7 hy7 hb7
      generalize wr.drewN nq = w8 at *
      go_wp2_with (go_at_call 182; refine (turned_any _ (by omega) _ (by omega) (by omega) _).mono ?_; rintro e w' ⟨rfl, rfl⟩)
      go_roundw
      case rel => exact ⟨k + 1, rnd ⟨sa, sb, sc, sd, se, sf, sg, sh⟩ kv wk, by omega, by go_num, rfl, rfl, rfl, rfl, rfl, rfl, rfl, rfl, Hn, rnd_ok ⟨k0, k1, k2, k3, k4, k5, k6, k7⟩ _ _, hw8, hx8, hy8, hb8⟩
      case measure => simp [intOf]; omega
    · have Hf : Hid (plus ⟨a, b, cc, d, ee, f, g, hh⟩ ⟨sa, sb, sc, sd, se, sf, sg, sh⟩ = R) := by
        have h64 : k = 64 := by omega
        have e := Hs.out
        rw [h64] at e
        show _ = _
        rw [← HR.out, e, Hs0.out]
      have hge : 64 ≤ k := by omega
      clear hlt Hs HR Hs0 ok0
      have c0 : wr.cell? ⟨w.heap.size, 0, none⟩ = some (.int .u32 (a : Int)) := hx7.cell (j := 0) (by simp)
      have c1 : wr.cell? ⟨w.heap.size, 1, none⟩ = some (.int .u32 (b : Int)) := hx7.cell (j := 1) (by simp)
      have c2 : wr.cell? ⟨w.heap.size, 2, none⟩ = some (.int .u32 (cc : Int)) := hx7.cell (j := 2) (by simp)
      have c3 : wr.cell? ⟨w.heap.size, 3, none⟩ = some (.int .u32 (d : Int)) := hx7.cell (j := 3) (by simp)
      have c4 : wr.cell? ⟨w.heap.size, 4, none⟩ = some (.int .u32 (ee : Int)) := hx7.cell (j := 4) (by simp)
      have c5 : wr.cell? ⟨w.heap.size, 5, none⟩ = some (.int .u32 (f : Int)) := hx7.cell (j := 5) (by simp)
      have c6 : wr.cell? ⟨w.heap.size, 6, none⟩ = some (.int .u32 (g : Int)) := hx7.cell (j := 6) (by simp)
      have c7 : wr.cell? ⟨w.heap.size, 7, none⟩ = some (.int .u32 (hh : Int)) := hx7.cell (j := 7) (by simp)
      go_wp2_with (refine wpList_store_row rfl rfl 81 (.tmp 4) (.tmp 134) rfl (w.heap.size + 1) rfl (wv (words (plus ⟨a, b, cc, d, ee, f, g, hh⟩ ⟨sa, sb, sc, sd, se, sf, sg, sh⟩))) rfl 81 _ hy7 (wv_one _) (by simp [wv, words]) (by kernel_rfl) ?_)
      have hr1 := setRow_heap wr (w.heap.size + 1) (wv (List.replicate 8 0)).toArray (wv (words (plus ⟨a, b, cc, d, ee, f, g, hh⟩ ⟨sa, sb, sc, sd, se, sf, sg, sh⟩))).toArray 81 (0, 0) hy7
      refine bodyPost_ret (v := .agg (wv (words (plus ⟨a, b, cc, d, ee, f, g, hh⟩ ⟨sa, sb, sc, sd, se, sf, sg, sh⟩))).toArray) (results_cell_row rfl _ _ (w.heap.size + 1) 81 _ (0, 0) _ rfl hr1 Tryz.underlying81 rfl (by kernel_rfl)) rfl ⟨?_, ?_⟩
      · rw [← Hf.out]; rfl
      · exact below_setRow hb7 (Nat.le_succ _) _
end Go.Proofs.YtkhlmcknbangfaaGreatDoor.Sh
namespace Go.Proofs.YtkhlmcknbangfaaGreatDoor.Sh
open Go.RowKit
set_option linter.unusedVariables false
set_option maxRecDepth 100000

theorem bs_one (xs : List Nat) : ∀ v ∈ bs xs, v.oneCell' = true := by
  intro v hv
  simp only [bs, List.mem_map] at hv
  obtain ⟨x, _, rfl⟩ := hv
  rfl
theorem length_bs (xs : List Nat) : (bs xs).length = xs.length := by simp [bs]
/-- block g is just the bytes xs, of a type t -/
def Bb (w : World) (g t : Nat) (xs : List Nat) : Prop := w.heap[g]? = some (.cells (bs xs).toArray t (0, 0))
theorem Bb.lt {w : World} {g t : Nat} {xs : List Nat} (h : Bb w g t xs) : g < w.heap.size := by
  rcases Nat.lt_or_ge g w.heap.size with hlt | hge
  · exact hlt
  · unfold Bb at h; rw [Array.getElem?_eq_none hge] at h; cases h
theorem Bb.cell {w : World} {g t : Nat} {xs : List Nat} (h : Bb w g t xs) {j x : Nat} (hx : xs[j]? = some x) : w.cell? ⟨g, j, none⟩ = some (.int .u8 (x : Int)) := by
  rw [cell_of_row w g j (bs xs).toArray t (0, 0) h]
  simp [bs, hx]
theorem Bb.cellD {w : World} {g t : Nat} {xs : List Nat} (h : Bb w g t xs) {j : Nat} (hj : j < xs.length) : w.cell? ⟨g, j, none⟩ = some (.int .u8 ((xs.getD j 0 : Nat) : Int)) := by
  refine h.cell ?_
  simp [List.getD, List.getElem?_eq_getElem hj]
theorem Bb.frozen {w : World} {g t : Nat} {xs : List Nat} (h : Bb w g t xs) (j : Nat) : w.frozen? ⟨g, j, none⟩ = false := by
  unfold Bb at h
  simp [World.frozen?, h]
theorem Bb.set_ {w : World} {g t : Nat} {xs : List Nat} (h : Bb w g t xs) (j x : Nat) : Bb (w.setCell ⟨g, j, none⟩ (.int .u8 (x : Int))) g t (xs.set j x) := by
  unfold Bb at h ⊢
  simp [World.setCell, Array.getElem?_modify, h, bs]
theorem Bb.drewN {w : World} {g t : Nat} {xs : List Nat} (h : Bb w g t xs) (n : Nat) : Bb (w.drewN n) g t xs := h
theorem Bb.drew {w : World} {g t : Nat} {xs : List Nat} (h : Bb w g t xs) : Bb w.drew g t xs := h
theorem Bb.alloc {w : World} {g t : Nat} {xs : List Nat} (h : Bb w g t xs) (o : Obj) : Bb (w.alloc o) g t xs := (Below.heap_alloc w o g h.lt).trans h
theorem Bb.below {w w' : World} {B g t : Nat} {xs : List Nat} (h : Bb w g t xs) (hb : Below B w w') (hg : g < B) : Bb w' g t xs := (hb.block g hg).trans h
theorem Bb.nb {w : World} {g t : Nat} {xs : List Nat} (h : Bb w g t xs) (off n c : Nat) (hn : off + n ≤ xs.length) (hc : n ≤ c) (hc' : c ≤ 9223372036854775807) (hL : Lim 256 xs) :
    Nb w w.heap.size (some ⟨g, off, none⟩) n c ((xs.drop off).take n) :=
  ⟨by rw [List.length_take, List.length_drop]; omega, hc, hc', (hL.drop off).take n, fun _ => ⟨g, off, rfl, h.lt, fun j x hj => by
    rw [List.getElem?_take] at hj
    split at hj
    · rw [List.getElem?_drop] at hj
      exact h.cell hj
    · cases hj⟩⟩
def Yb (t : TypeId) (xs : List Nat) : Obj := .cells (bs xs).toArray t (0, 0)
theorem alloc_bb (w : World) (t : TypeId) (xs : List Nat) : Bb (w.alloc (Yb t xs)) w.heap.size t xs := heap_alloc_new w _
theorem alloc_ob (w : World) (t : TypeId) (xs : List Nat) : Wb (w.alloc (Ob t xs)) w.heap.size t xs := heap_alloc_new w _

theorem first_ok : first.Ok := by constructor <;> decide
theorem firstWords_any (w : World) : Calls Tryz.prog 127 #[] w fun e w' => e = .returned (sv first) ∧ Below w.heap.size w w' := by
  have h1 : Wb (w.alloc (Ob 81 (List.replicate 8 0))) w.heap.size 81 (List.replicate 8 0) := alloc_ob w _ _
  have hb1 : Below w.heap.size w (w.alloc (Ob 81 (List.replicate 8 0))) := (Below.refl _ _).alloc (Nat.le_refl _) _
  go_enter Tryz.func127, Tryz.ntmps127
  go_wp2_with (change wpList _ _ _ _ _ (w.alloc (Ob 81 (List.replicate 8 0))); refine wpList_store_row rfl rfl 81 (.tmp 0) (.tmp 1) rfl w.heap.size rfl (wv (words first)) rfl 81 _ h1 (wv_one _) (by simp [wv, words]) (by kernel_rfl) ?_)
  have hr1 := setRow_heap _ w.heap.size _ (wv (words first)).toArray 81 (0, 0) h1
  exact bodyPost_ret (v := sv first) (results_cell_row rfl _ _ w.heap.size 81 _ (0, 0) _ rfl hr1 Tryz.underlying81 rfl (by kernel_rfl)) rfl ⟨rfl, below_setRow hb1 (Nat.le_refl _) _⟩

theorem bytesOf_any (x : Nat) (hx : x < 4294967296) (w : World) : Calls Tryz.prog 73 #[.int .u32 (x : Int)] w fun e w' => e = .returned (.agg (bs (by4 x)).toArray) ∧ Below w.heap.size w w' := by
  have h1 : Bb (w.alloc (Yb 84 (List.replicate 4 0))) w.heap.size 84 (List.replicate 4 0) := alloc_bb w _ _
  have hb1 : Below w.heap.size w (w.alloc (Yb 84 (List.replicate 4 0))) := (Below.refl _ _).alloc (Nat.le_refl _) _
  have e0 : (x : Int) / 16777216 = ((x / 16777216 % 256 : Nat) : Int) := by omega
  have e1 : (x : Int) / 65536 % 256 = ((x / 65536 % 256 : Nat) : Int) := by omega
  have e2 : (x : Int) / 256 % 256 = ((x / 256 % 256 : Nat) : Int) := by omega
  have e3 : (x : Int) % 256 = ((x % 256 : Nat) : Int) := by omega
  have E0 := Lib.hid e0
  have E1 := Lib.hid e1
  have E2 := Lib.hid e2
  have E3 := Lib.hid e3
  clear e0 e1 e2 e3
  go_enter Tryz.func73, Tryz.ntmps73
  go_wp2_with (change wpList _ _ _ _ _ (w.alloc (Yb 84 (List.replicate 4 0))); refine wpList_store_row rfl rfl 84 (.tmp 2) (.tmp 14) rfl w.heap.size rfl (bs (by4 x)) ?_ 84 _ h1 (bs_one _) (by simp [bs, by4]) (by kernel_rfl) ?_)
  · show Value.agg #[Value.int IntKind.u8 ((x : Int) / 16777216), Value.int IntKind.u8 ((x : Int) / 65536 % 256), Value.int IntKind.u8 ((x : Int) / 256 % 256), Value.int IntKind.u8 ((x : Int) % 256)] = _
    rw [E0.out, E1.out, E2.out, E3.out]
    rfl
  have hr1 := setRow_heap _ w.heap.size _ (bs (by4 x)).toArray 84 (0, 0) h1
  exact bodyPost_ret (v := .agg (bs (by4 x)).toArray) (results_cell_row rfl _ _ w.heap.size 84 _ (0, 0) _ rfl hr1 Tryz.underlying84 rfl (by kernel_rfl)) rfl ⟨rfl, below_setRow hb1 (Nat.le_refl _) _⟩

theorem idx_words (s : St) (k : Nat) (hk : k < 8) (W : World) : (Instr.index 81 (.agg (wv (words s)).toArray) (.int .i64 (k : Int))).run Tryz.prog W = .ok (.int .u32 (((words s).getD k 0 : Nat) : Int)) W := by
  have hh : k = 0 ∨ k = 1 ∨ k = 2 ∨ k = 3 ∨ k = 4 ∨ k = 5 ∨ k = 6 ∨ k = 7 := by omega
  rcases hh with rfl | rfl | rfl | rfl | rfl | rfl | rfl | rfl <;> rfl
end Go.Proofs.YtkhlmcknbangfaaGreatDoor.Sh
namespace Go.Proofs.YtkhlmcknbangfaaGreatDoor.Sh
open Go.RowKit
set_option linter.unusedVariables false
set_option maxRecDepth 100000

def digN (s : St) (k : Nat) : List Nat := ((words s).take k).flatMap by4
theorem digN_zero (s : St) : digN s 0 = [] := rfl
theorem digN_all (s : St) : digN s 8 = dig s := rfl
theorem digN_succ (s : St) (k : Nat) (hk : k < 8) : digN s (k + 1) = digN s k ++ by4 ((words s).getD k 0) := by
  have hl : k < (words s).length := hk
  unfold digN
  rw [List.take_succ_eq_append_getElem hl, List.flatMap_append]
  simp [List.getD, List.getElem?_eq_getElem hl]
theorem length_digN (s : St) (k : Nat) (hk : k ≤ 8) : (digN s k).length = 4 * k := by
  induction k with
  | zero => rfl
  | succ k ih => rw [digN_succ s k (by omega), List.length_append, ih (by omega)]; simp [by4]; omega
theorem dig_step (s : St) (k : Nat) (hk : k < 8) : splice (bs (digN s k ++ List.replicate (32 - 4 * k) 0)) (4 * k) (bs (by4 ((words s).getD k 0))) = bs (digN s (k + 1) ++ List.replicate (32 - 4 * (k + 1)) 0) := by
  have hl := length_digN s k (by omega)
  have hb : (bs (by4 ((words s).getD k 0))).length = 4 := rfl
  unfold splice
  rw [hb, digN_succ s k hk]
  simp only [bs, List.map_append]
  rw [List.take_append_of_le_length (by simp [hl]), List.take_of_length_le (by simp [hl]), List.drop_append, List.drop_eq_nil_of_le (by simp [hl]), List.append_assoc]
  congr 1
  congr 1
  simp only [List.map_replicate, List.drop_replicate, List.length_map, hl, List.nil_append]
  congr 1
  omega
theorem words_lt {s : St} (h : s.Ok) (k : Nat) : (words s).getD k 0 < 4294967296 := Lim.get (n := 4294967296) (by
  intro x hx
  simp only [words, List.mem_cons, List.not_mem_nil, or_false] at hx
  obtain ⟨h0, h1, h2, h3, h4, h5, h6, h7⟩ := h
  omega) (by omega) k

theorem slice_at (g k : Nat) (hk : k < 8) (W : World) : (Instr.sliceAt 75 (.pointer (some ⟨g, 0, none⟩)) (some (.int .i64 (4 * (k : Int)))) none none).run Tryz.prog W = .ok (.slice (some ⟨g, 4 * k, none⟩) (32 - 4 * k) (32 - 4 * k)) W := by
  have hh : k = 0 ∨ k = 1 ∨ k = 2 ∨ k = 3 ∨ k = 4 ∨ k = 5 ∨ k = 6 ∨ k = 7 := by omega
  rcases hh with rfl | rfl | rfl | rfl | rfl | rfl | rfl | rfl <;> rfl
set_option maxHeartbeats 1000000 in
theorem digest_any (s : St) (hs : s.Ok) (w : World) : Calls Tryz.prog 125 #[sv s] w fun e w' => e = .returned (.agg (bs (dig s)).toArray) ∧ Below w.heap.size w w' := by
  have hsv : sv s = .agg (wv (words s)).toArray := rfl
  have hL := fun k => words_lt hs k
  have HL := Lib.hid hL
  have HI := Lib.hid (idx_words s)
  have HS := Lib.hid (dig_step s)
  rw [hsv]
  clear hsv hL
  obtain ⟨D, hD⟩ : ∃ D, dig s = D := ⟨_, rfl⟩
  rw [hD]
  have HD := Lib.hid hD
  clear hD
  generalize hws : wv (words s) = V at *
  have HV := Lib.hid hws
  have hVl : V.length = 8 := by rw [← hws]; rfl
  have HVl := Lib.hid hVl
  have hV1 : ∀ v ∈ V, v.oneCell' = true := by rw [← hws]; exact wv_one _
  have HV1 := Lib.hid hV1
  clear hws hVl hV1
  obtain ⟨w0, hw0⟩ : ∃ w0, w0 = ((w.alloc (.cells V.toArray 81)).alloc (Yb 75 (List.replicate 32 0))).alloc (Yb 75 (List.replicate 32 0)) := ⟨_, rfl⟩
  have b0 : Below w.heap.size w w0 := by rw [hw0]; exact (((Below.refl _ _).alloc (Nat.le_refl _) _).alloc (by simp) _).alloc (by simp; omega) _
  have x0 : w0.heap[w.heap.size]? = some (.cells V.toArray 81 (0, 0)) := by
    rw [hw0]
    exact (Below.heap_alloc _ _ _ (by simp; omega)).trans ((Below.heap_alloc _ _ _ (by simp)).trans (heap_alloc_new w _))
  have o0 : Bb w0 (w.heap.size + 1) 75 (List.replicate 32 0) := by
    rw [hw0]
    have := alloc_bb (w.alloc (.cells V.toArray 81)) 75 (List.replicate 32 0)
    rw [World.size_alloc] at this
    exact this.alloc _
  have l0 : Bb w0 (w.heap.size + 2) 75 (List.replicate 32 0) := by
    rw [hw0]
    have := alloc_bb ((w.alloc (.cells V.toArray 81)).alloc (Yb 75 (List.replicate 32 0))) 75 (List.replicate 32 0)
    rwa [World.size_alloc, World.size_alloc] at this
  have HW := Lib.hid hw0
  clear hw0
  go_enter Tryz.func125, Tryz.ntmps125
  go_wp2_with (change wpList _ _ _ _ _ (((w.alloc (.cells V.toArray 81)).alloc (Yb 75 (List.replicate 32 0))).alloc (Yb 75 (List.replicate 32 0))); rw [← HW.out]; refine wpList_load_row rfl 81 (.tmp 1) rfl w.heap.size rfl 81 V.toArray (0, 0) _ x0 Tryz.underlying81 rfl (by rw [List.size_toArray, HVl.out]; kernel_rfl) ?_)
  clear HW
  go_loopw [8] (fun i wr => ∃ k : Nat, k ≤ 8 ∧ i = .int .i64 k ∧ Bb wr (w.heap.size + 2) 75 (digN s k ++ List.replicate (32 - 4 * k) 0) ∧ Bb wr (w.heap.size + 1) 75 (List.replicate 32 0) ∧ Below w.heap.size w wr) (fun i _ => 8 - (intOf i).toNat)
  case atStart => exact ⟨0, by omega, rfl, l0, o0, b0⟩
  case round =>
    clear x0 o0 l0 b0
    obtain ⟨k, hk, rfl, hl, ho, hB⟩ := hrel
    by_cases hlt : k < 8
    · have hI := HI.out k hlt
      have hwl := HL.out k
      have Hst := Lib.hid (HS.out k hlt)
      have hcl : (bs (digN s k ++ List.replicate (32 - 4 * k) 0)).length = 32 := by
        rw [length_bs, List.length_append, length_digN s k hk, List.length_replicate]; omega
      have Hcl := Lib.hid hcl
      clear hcl
      generalize (words s).getD k 0 = x at *
      go_wp2_with fail
      refine (bytesOf_any x hwl _).mono ?_
      rintro e w1 ⟨rfl, hb1⟩
      have hl1 := hl.below hb1 hl.lt
      have ho1 := ho.below hb1 ho.lt
      have hB1 : Below w.heap.size w w1 := hB.trans (hb1.mono hB.size)
      have hs1 : w.heap.size + 3 ≤ w1.heap.size := by have := hb1.size; have := hl.lt; omega
      clear hl ho hB hb1
      have hf : Bb (w1.alloc (Yb 84 (List.replicate 4 0))) w1.heap.size 84 (List.replicate 4 0) := alloc_bb w1 _ _
      have hl2 := hl1.alloc (Yb 84 (List.replicate 4 0))
      have ho2 := ho1.alloc (Yb 84 (List.replicate 4 0))
      have hB2 := hB1.alloc hB1.size (Yb 84 (List.replicate 4 0))
      go_wp2_with (change wpList _ _ _ _ _ (w1.alloc (Yb 84 (List.replicate 4 0))); refine wpList_store_row rfl rfl 84 (.tmp 6) (.tmp 13) rfl w1.heap.size rfl (bs (by4 x)) rfl 84 _ hf (bs_one _) (by simp [bs, by4]) (by kernel_rfl) ?_)
      have hf3 : Bb ((w1.alloc (Yb 84 (List.replicate 4 0))).setRow w1.heap.size (bs (by4 x)).toArray) w1.heap.size 84 (by4 x) := setRow_heap _ _ _ _ _ _ hf
      have hl3 : Bb ((w1.alloc (Yb 84 (List.replicate 4 0))).setRow w1.heap.size (bs (by4 x)).toArray) (w.heap.size + 2) 75 _ := (setRow_other _ _ _ _ (by omega)).trans hl2
      have ho3 : Bb ((w1.alloc (Yb 84 (List.replicate 4 0))).setRow w1.heap.size (bs (by4 x)).toArray) (w.heap.size + 1) 75 _ := (setRow_other _ _ _ _ (by omega)).trans ho2
      have hB3 : Below w.heap.size w ((w1.alloc (Yb 84 (List.replicate 4 0))).setRow w1.heap.size (bs (by4 x)).toArray) := below_setRow hB2 hB1.size _
      generalize (w1.alloc (Yb 84 (List.replicate 4 0))).setRow w1.heap.size (bs (by4 x)).toArray = w3 at *
      generalize w1.heap.size = g1 at *
      clear hf hl2 ho2 hB2 hl1 ho1 hB1
      have hg3 := hf3.lt
      have Hl3 : Hid (w3.drew.heap[w.heap.size + 1 + 1]? = some (.cells (bs (digN s k ++ List.replicate (32 - 4 * k) 0)).toArray 75 (0, 0))) := hl3
      have Hn : Hid ((bs (by4 x)).length = Nat.min 4 (32 - 4 * k)) := by
        show 4 = Nat.min 4 (32 - 4 * k)
        simp only [Nat.min_def]; split <;> omega
      have Hpos : Hid (0 < (bs (by4 x)).length → some (⟨w.heap.size + 1 + 1, 4 * k, none⟩ : Addr) = some ⟨w.heap.size + 1 + 1, 4 * k, none⟩ ∧ ∃ ad, some (⟨g1, 0, none⟩ : Addr) = some ad ∧ ∀ j v, (bs (by4 x))[j]? = some v → w3.drew.cell? (ad.add j) = some v) := fun _ => ⟨rfl, _, rfl, fun j v hj => by
        simp only [bs, List.getElem?_map, Option.map_eq_some_iff] at hj
        obtain ⟨y, hy, rfl⟩ := hj
        have := hf3.drew.cell hy
        by_cases hj0 : j = 0
        · subst hj0; simpa [Addr.add] using this
        · simpa [Addr.add, hj0] using this⟩
      have Hfit : Hid (4 * k + (bs (by4 x)).length ≤ (bs (digN s k ++ List.replicate (32 - 4 * k) 0)).length) := by
        show 4 * k + 4 ≤ _
        rw [Hcl.out]; omega
      generalize hcur : bs (digN s k ++ List.replicate (32 - 4 * k) 0) = cur at *
      have Hcur := Lib.hid hcur
      clear hcur
      generalize hby : bs (by4 x) = Y at *
      have HY1 : Hid (∀ v ∈ Y, v.oneCell' = true) := by show ∀ v ∈ Y, _; rw [← hby]; exact bs_one _
      clear hby hf3
      have hsl := fun W => slice_at (w.heap.size + 1 + 1) k hlt W
      have h4 : IntKind.i64.wrap (4 * (k : Int)) = 4 * (k : Int) := IntWalk.i64_in _ (by omega)
      go_region_law (refine step_copy_splice rfl (.tmp 16) (.tmp 17) 32 32 rfl 5 Tryz.underlying32 (by kernel_rfl) (some ⟨w.heap.size + 1 + 1, 4 * k, none⟩) (some ⟨g1, 0, none⟩) (32 - 4 * k) (32 - 4 * k) 4 4 rfl rfl (w.heap.size + 1 + 1) (4 * k) cur 75 Hl3.out Y Hn.out Hpos.out Hfit.out HY1.out (w.heap.size + 1 + 1) w3.drew (Below.refl _ _) (Nat.le_refl _) ?_; intro w4 hw4 hb4)
      all_goals go_wp2
      go_roundw
      case rel =>
        refine ⟨k + 1, by omega, by go_num, ?_, ho3.drew.below hb4 (by omega), (below_drew hB3).trans (hb4.mono (by omega))⟩
        have := hw4.out
        rw [Hst.out] at this
        exact this
      case measure => simp [intOf]; omega
    · have hfin : Bb wr (w.heap.size + 2) 75 D := by
        have h8 : k = 8 := by omega
        rw [h8, digN_all, HD.out] at hl
        simpa using hl
      have hDl : (bs D).length = 32 := by rw [← HD.out]; rfl
      have HDl := Lib.hid hDl
      have hge : 8 ≤ k := by omega
      clear hlt hl HS HL HI hDl
      go_wp2_with (first
        | (refine wpList_load_row rfl 75 (.tmp 3) rfl (w.heap.size + 1 + 1) rfl 75 (bs D).toArray (0, 0) _ hfin Tryz.underlying75 rfl (by rw [List.size_toArray, HDl.out]; kernel_rfl) ?_)
        | (refine wpList_store_row rfl rfl 75 (.tmp 2) (.tmp 20) rfl (w.heap.size + 1) rfl (bs D) rfl 75 _ ho (bs_one _) (by rw [HDl.out]; simp [bs]) (by rw [HDl.out]; kernel_rfl) ?_))
      have hr1 := setRow_heap wr (w.heap.size + 1) _ (bs D).toArray 75 (0, 0) ho
      exact bodyPost_ret (v := .agg (bs D).toArray) (results_cell_row rfl _ _ (w.heap.size + 1) 75 _ (0, 0) _ rfl hr1 Tryz.underlying75 rfl (by rw [List.size_toArray, HDl.out]; kernel_rfl)) rfl ⟨rfl, below_setRow hB (Nat.le_succ _) _⟩
end Go.Proofs.YtkhlmcknbangfaaGreatDoor.Sh
namespace Go.Proofs.YtkhlmcknbangfaaGreatDoor.Sh
open Go.RowKit
set_option linter.unusedVariables false
set_option maxRecDepth 100000

theorem Tryz.info5 : (Tryz.prog.info? 5).map (fun i => (i.zero, i.size, i.bytes)) = some (some (.int .u8 0), 1, 1) := by kernel_rfl
theorem bs_replicate (n : Nat) : bs (List.replicate n 0) = List.replicate n (.int .u8 0) := by simp [bs]
theorem run_make_bs (n : Nat) (hn : n ≤ 70368744177664) (w : World) : (Instr.makeSlice 32 (.int .i64 (n : Int)) (.int .i64 (n : Int))).run Tryz.prog w =
    .ok (.slice (some ⟨w.heap.size, 0, none⟩) n n) (w.alloc (Yb 5 (List.replicate n 0))) := by
  obtain ⟨i0, hi, hz0, hz1, hz2⟩ := info_parts Tryz.info5
  have hr := run_make (P := Tryz.prog) w 32 5 i0 (.int .u8 0) Tryz.underlying32 hi hz0 .i64 .i64 n n (by omega) (Int.le_refl _) (by rw [hz2]; omega) (by omega)
  simp only [Int.toNat_natCast] at hr
  rw [hr, hz1, Nat.mul_one]
  have : (madeCells (Value.int .u8 0).cells n) = (bs (List.replicate n 0)).toArray := by
    rw [bs_replicate]
    apply Array.ext'
    exact toList_madeCells_one _ _
  rw [this]
  rfl
theorem wpList_make_bs (w : World) {ops : Array Oper} {rest : List Oper} {o : Oper} {a : Act} {Q : Exit → Act → World → Prop}
    (hg : o.guard = none) (l c : Operand) (hop : o.op = Op.makeSlice 32 l c) (L C : Int) (n : Nat) (hl : a.eval l = .int .i64 L) (hc : a.eval c = .int .i64 C) (hL : L = (n : Int)) (hC : C = (n : Int)) (hn : n ≤ 70368744177664)
    (hK : ∀ w', Bb w' w.heap.size 5 (List.replicate n 0) → Below w.heap.size w w' → wpList Tryz.prog ops Q rest (a.put o.dst (.slice (some ⟨w.heap.size, 0, none⟩) n n)) w') :
    wpList Tryz.prog ops Q (o :: rest) a w := by
  refine wpList_plain hg fun K hK' => ?_
  have hrun := run_make_bs n hn w
  subst hL
  subst hC
  unfold Oper.wp
  simp [execOp, hop, hl, hc, hrun, Result.andThen]
  exact hK' _ _ (hK _ (alloc_bb _ _ _) ((Below.refl _ _).alloc (Nat.le_refl _) _))

/-- the padding, as far as k of the last eight bytes are laid from behind -/
def padN (n k : Nat) : List Nat := 128 :: (List.replicate ((119 - n % 64) % 64) 0 ++ (List.replicate (8 - k) 0 ++ (by8 (8 * n)).drop (8 - k)))
theorem padN_all (n : Nat) : padN n 8 = pad n := rfl
theorem padN_zero (n : Nat) : padN n 0 = (List.replicate (9 + (119 - n % 64) % 64) 0).set 0 128 := by
  unfold padN
  rw [show 9 + (119 - n % 64) % 64 = ((119 - n % 64) % 64 + 8) + 1 by omega, List.replicate_succ (n := (119 - n % 64) % 64 + 8), List.set_cons_zero, List.replicate_append_replicate.symm]
  rfl
theorem length_padN (n k : Nat) (hk : k ≤ 8) : (padN n k).length = 9 + (119 - n % 64) % 64 := by
  simp [padN, by8]; omega
theorem padN_succ (n k : Nat) (hk : k < 8) : (padN n k).set (8 + (119 - n % 64) % 64 - k) ((by8 (8 * n)).getD (7 - k) 0) = padN n (k + 1) := by
  unfold padN
  obtain ⟨z, hz⟩ : ∃ z, (119 - n % 64) % 64 = z := ⟨_, rfl⟩
  rw [hz, show 8 + z - k = (z + (7 - k)) + 1 by omega, List.set_cons_succ, List.set_append, if_neg (by simp), List.length_replicate, show z + (7 - k) - z = 7 - k by omega]
  have hh : k = 0 ∨ k = 1 ∨ k = 2 ∨ k = 3 ∨ k = 4 ∨ k = 5 ∨ k = 6 ∨ k = 7 := by omega
  rcases hh with rfl | rfl | rfl | rfl | rfl | rfl | rfl | rfl <;> rfl
theorem by8_get (N k : Nat) (hk : k < 8) : (N : Int) / 2 ^ (8 * k) % 256 = (((by8 N).getD (7 - k) 0 : Nat) : Int) := by
  have hh : k = 0 ∨ k = 1 ∨ k = 2 ∨ k = 3 ∨ k = 4 ∨ k = 5 ∨ k = 6 ∨ k = 7 := by omega
  rcases hh with rfl | rfl | rfl | rfl | rfl | rfl | rfl | rfl <;> simp [by8]
theorem pad_lim (n : Nat) : Lim 256 (pad n) := by
  intro x hx
  unfold pad at hx
  simp only [List.mem_cons, List.mem_append, List.mem_replicate, by8, List.not_mem_nil, or_false] at hx
  omega

theorem padding_any (n : Nat) (hn : n ≤ 1099511627776) (w : World) : Calls Tryz.prog 128 #[.int .i64 (n : Int)] w fun e w' => ∃ g, e = .returned (.slice (some ⟨g, 0, none⟩) (9 + (119 - n % 64) % 64) (9 + (119 - n % 64) % 64)) ∧ w.heap.size ≤ g ∧ Bb w' g 5 (pad n) ∧ Below w.heap.size w w' := by
  obtain ⟨z, hz⟩ : ∃ z, (119 - n % 64) % 64 = z := ⟨_, rfl⟩
  rw [hz]
  have ez : (119 - (n : Int) % 64) % 64 = (z : Int) := by omega
  have hz64 : z < 64 := by omega
  have Hz := Lib.hid hz
  clear hz
  go_enter Tryz.func128, Tryz.ntmps128
  go_wp2_with (refine wpList_make_bs _ rfl (.tmp 13) (.tmp 13) rfl _ _ (9 + z) rfl rfl (by omega) (by omega) (by omega) ?_; intro w1 hm hb1; have hc0 := hm.cell (j := 0) (x := 0) (by rw [List.getElem?_replicate, if_pos (by omega)]); have hf0 := hm.frozen 0)
  have hm2 := hm.set_ 0 128
  have hB2 := hb1.setCell (p := ⟨w.heap.size, 0, none⟩) (Nat.le_refl _) (.int .u8 (128 : Nat))
  rw [← Hz.out, ← padN_zero] at hm2
  change Bb (w1.setCell ⟨w.heap.size, 0, none⟩ (.int .u8 128)) _ _ _ at hm2
  change Below _ _ (w1.setCell ⟨w.heap.size, 0, none⟩ (.int .u8 128)) at hB2
  generalize w1.setCell ⟨w.heap.size, 0, none⟩ (.int .u8 128) = w2 at *
  clear hm hb1 hc0 hf0
  go_loopw [20] (fun i wr => ∃ k : Nat, k ≤ 8 ∧ i = .int .i64 k ∧ Bb wr w.heap.size 5 (padN n k) ∧ Below w.heap.size w wr) (fun i _ => 8 - (intOf i).toNat)
  case atStart => exact ⟨0, by omega, rfl, hm2, hB2⟩
  case round =>
    clear hm2 hB2
    obtain ⟨k, hk, rfl, hm, hB⟩ := hrel
    by_cases hlt : k < 8
    · have hl := length_padN n k hk
      rw [Hz.out] at hl
      have hc := hm.cellD (j := 8 + z - k) (by omega)
      have hf := hm.frozen (8 + z - k)
      have Hs := Lib.hid (padN_succ n k hlt)
      have Hg := Lib.hid (by8_get (8 * n) k hlt)
      have h8 : (8 * (k : Int)).toNat = 8 * k := by omega
      have h9 : (↑9 + ↑z - 1 - (k : Int)).toNat = 8 + z - k := by omega
      clear hl
      go_wp2
      go_roundw
      case rel =>
        refine ⟨k + 1, by omega, by go_num, ?_, hB.setCell (p := ⟨w.heap.size, 8 + z - k, none⟩) (Nat.le_refl _) _⟩
        have e : (n : Int) * 8 = ((8 * n : Nat) : Int) := by omega
        rw [e, Hg.out, ← Hs.out, Hz.out]
        exact hm.set_ _ _
      case measure => simp [intOf]; omega
    · have hf : Bb wr w.heap.size 5 (pad n) := by
        rw [show k = 8 by omega, padN_all] at hm
        exact hm
      have hge : 8 ≤ k := by omega
      clear hlt hm
      go_wp2
      go_ret
      exact ⟨w.heap.size, rfl, Nat.le_refl _, hf, hB⟩
end Go.Proofs.YtkhlmcknbangfaaGreatDoor.Sh
namespace Go.Proofs.YtkhlmcknbangfaaGreatDoor.Sh
open Go.RowKit
set_option linter.unusedVariables false
set_option maxRecDepth 100000

theorem whole_any (A A2 : Option Addr) (n c m c2 : Nat) (hn : n ≤ 140737488351232) (hm : m ≤ 140737488351232) (w : World) :
    Calls Tryz.prog 167 #[.slice A n c, .slice A2 m c2] w fun e w' => e = .returned (.int .i64 ((64 * ((n + m) / 64) : Nat) : Int)) ∧ w = w' := by
  have e : ((n : Int) + (m : Int)) / 64 * 64 = ((64 * ((n + m) / 64) : Nat) : Int) := by omega
  have E := Lib.hid e
  clear e
  go_enter Tryz.func167, Tryz.ntmps167
  go_wp2
  go_ret
  rw [E.out]
  exact ⟨rfl, rfl⟩

/-- what a part is -/
def PartIs (zs : List Nat) (f k : Nat) (w : World) (e : Ending) (w' : World) : Prop := ∃ A' c', e = .returned (.slice A' k c') ∧ Nb w' w'.heap.size A' k c' ((zs.drop f).take k) ∧ Below w.heap.size w w'

theorem nb_zero (w : World) (B : Nat) (A : Option Addr) (zs : List Nat) : Nb w B A 0 0 (zs.take 0) := by rw [List.take_zero]; exact Nb.nil w B 0 (by omega) A
theorem part1 {w : World} {A A2 : Option Addr} {n c m c2 : Nat} {xs : List Nat} (h : Nb w w.heap.size A n c xs) (hm : m ≤ 140737488351232) (ys : List Nat) (f k : Nat) (hk : f + k ≤ n) :
    Calls Tryz.prog 166 #[.slice A n c, .slice A2 m c2, .int .i64 (f : Int), .int .i64 ((f + k : Nat) : Int)] w (PartIs (xs ++ ys) f k w) := by
  have hc := h.cap
  have hr := h.room
  have e : ((xs ++ ys).drop f).take k = (xs.drop f).take k := by
    rw [List.drop_append_of_le_length (by rw [h.len]; omega), List.take_append_of_le_length (by rw [List.length_drop, h.len]; omega)]
  have E := Lib.hid e
  clear e
  by_cases h0 : k = 0
  · subst h0
    go_enter Tryz.func166, Tryz.ntmps166
    go_wp2
    go_ret
    exact ⟨_, _, rfl, nb_zero _ _ _ _, Below.refl _ _⟩
  · obtain ⟨b, off, rfl, hb, -⟩ := h.cell (by omega)
    have hne : ¬ f + k = f := by omega
    go_enter Tryz.func166, Tryz.ntmps166
    go_wp2
    go_ret
    refine ⟨some ⟨b, off + f, none⟩, k, ?_, ?_, Below.refl _ _⟩
    · show Ending.returned (Value.slice _ (f + k - f) (f + k - f)) = _
      rw [show f + k - f = k by omega]
    · rw [E.out]
      exact h.part rfl f k k (by omega) (Nat.le_refl _) (by omega)
theorem part2 {w : World} {A A2 : Option Addr} {n c m c2 : Nat} {xs ys : List Nat} (hl : xs.length = n) (hn : n ≤ 1099511627776) (h : Nb w w.heap.size A2 m c2 ys) (f k : Nat) (h0 : 0 < k) (hk : f + k ≤ m) :
    Calls Tryz.prog 166 #[.slice A n c, .slice A2 m c2, .int .i64 ((n + f : Nat) : Int), .int .i64 ((n + f + k : Nat) : Int)] w (PartIs (xs ++ ys) (n + f) k w) := by
  have hc := h.cap
  have hr := h.room
  have e : ((xs ++ ys).drop (n + f)).take k = (ys.drop f).take k := by
    rw [← hl, List.drop_append, List.drop_eq_nil_of_le (by omega), List.nil_append, Nat.add_sub_cancel_left]
  have E := Lib.hid e
  clear e hl
  obtain ⟨b, off, rfl, hb, -⟩ := h.cell (by omega)
  have hne : ¬ f + k = f := by omega
  have e1 : IntKind.i64.wrap ((n : Int) + (f : Int) - (n : Int)) = (f : Int) := (IntWalk.i64_in _ (by omega)).trans (by omega)
  have e2 : IntKind.i64.wrap ((n : Int) + (f : Int) + (k : Int) - (n : Int)) = (f : Int) + (k : Int) := (IntWalk.i64_in _ (by omega)).trans (by omega)
  go_enter Tryz.func166, Tryz.ntmps166
  go_wp2
  go_ret
  refine ⟨some ⟨b, off + f, none⟩, k, ?_, ?_, Below.refl _ _⟩
  · show Ending.returned (Value.slice _ (f + k - f) (f + k - f)) = _
    rw [show f + k - f = k by omega]
  · rw [E.out]
    exact h.part rfl f k k (by omega) (Nat.le_refl _) (by omega)
theorem ownsRow_nb {w : World} {base n : Nat} {v : Value} {xs : List Nat} (hl : xs.length = n) (hL : Lim 256 xs) (h : w.ownsRow base 5 1 v n (bs xs)) : ∃ A c, v = .slice A n c ∧ Nb w w.heap.size A n c xs := by
  rcases h.2 with ⟨rfl, he⟩ | ⟨g, cap, cur, rfl, hg, hheap, hnc, hcm, hcs, hx⟩
  · subst he
    exact ⟨_, _, rfl, hl, Nat.zero_le _, Nat.zero_le _, hL, fun h => absurd h (Nat.lt_irrefl _)⟩
  · refine ⟨_, _, rfl, hl, hnc, hcm, hL, fun h0 => ⟨g, 0, rfl, ?_, fun j x hj => ?_⟩⟩
    · rcases Nat.lt_or_ge g w.heap.size with hlt | hge
      · exact hlt
      · rw [Array.getElem?_eq_none hge] at hheap; cases hheap
    · rw [cell_of_row w g _ cur 5 (0, 0) hheap, Nat.zero_add]
      have : (List.take (n * 1) cur.toList)[j]? = some (.int .u8 (x : Int)) := by rw [hx]; simp [bs, hj]
      rw [List.getElem?_take] at this
      split at this
      · simpa using this
      · cases this
theorem Nb.olds {w : World} {B n c : Nat} {ad : Addr} {xs : List Nat} (h : Nb w B (some ad) n c xs) : ∀ j u, (bs xs)[j]? = some u → w.cell? (ad.add j) = some u := by
  intro j u hj
  simp only [bs, List.getElem?_map, Option.map_eq_some_iff] at hj
  obtain ⟨y, hy, rfl⟩ := hj
  have hjn : j < n := by
    rw [← h.len]
    rcases Nat.lt_or_ge j xs.length with h' | h'
    · exact h'
    · rw [List.getElem?_eq_none h'] at hy; cases hy
  obtain ⟨b, off, e, _, hc⟩ := h.cell (by omega)
  cases e
  by_cases hj0 : j = 0
  · subst hj0; simpa [Addr.add] using hc 0 y hy
  · simpa [Addr.add, hj0] using hc j y hy
theorem grown_below {B : Nat} {w w' : World} (h : w.grownBy w' none) : Below w.heap.size w w' := ⟨h.os, h.tape, h.output, h.size, fun i hi => h.block i hi (by simp)⟩
set_option maxHeartbeats 1000000 in
theorem part3 {w : World} {A A2 : Option Addr} {n c m c2 : Nat} {xs ys : List Nat} (h : Nb w w.heap.size A n c xs) (h2 : Nb w w.heap.size A2 m c2 ys) (f k k2 : Nat) (hf : f < n) (h0 : 0 < k2) (hk : k2 ≤ m) (hs : n + m ≤ 1099511627776) :
    Calls Tryz.prog 166 #[.slice A n c, .slice A2 m c2, .int .i64 (f : Int), .int .i64 ((n + k2 : Nat) : Int)] w (PartIs (xs ++ ys) f (n + k2 - f) w) := by
  have hc := h.cap
  have hr := h.room
  have hc2 := h2.cap
  have hr2 := h2.room
  have hl := Lib.hid h.len
  obtain ⟨b, off, rfl, hb, -⟩ := h.cell (by omega)
  obtain ⟨b2, off2, rfl, hb2, -⟩ := h2.cell (by omega)
  have e2 : IntKind.i64.wrap ((n : Int) + (k2 : Int) - (n : Int)) = (k2 : Int) := (IntWalk.i64_in _ (by omega)).trans (by omega)
  have hn : ¬ n = f := by omega
  have h1 : Nb w w.heap.size (some ⟨b, off + f, none⟩) (n - f) (n - f) (xs.drop f) := by
    have := h.part rfl f (n - f) (n - f) (by omega) (Nat.le_refl _) (by omega)
    rwa [List.take_of_length_le (by rw [List.length_drop, h.len]; omega)] at this
  go_enter Tryz.func166, Tryz.ntmps166
  go_wp2
  have ho : ∀ b', some (⟨b, off + f, none⟩ : Addr) = some b' → ∀ j u, (bs (xs.drop f))[j]? = some u → w.drew.cell? (b'.add j) = some u := by
    intro b' e; cases e; exact h1.olds
  have hs2 : ∀ j u, (bs (ys.take k2))[j]? = some u → w.drew.cell? ((⟨b2, off2, none⟩ : Addr).add j) = some u := by
    have h3 : Nb w w.heap.size (some ⟨b2, off2, none⟩) k2 c2 (ys.take k2) := by
      have := h2.part rfl 0 k2 c2 (by omega) (by omega) hr2
      simpa using this
    exact h3.olds
  have hlo : (bs (xs.drop f)).length = (n - f) * 1 := by rw [length_bs, h1.len, Nat.mul_one]
  have hln : (bs (ys.take k2)).length = k2 * 1 := by rw [length_bs, List.length_take, h2.len, Nat.mul_one]; omega
  have hfin : ∀ v' w', w'.ownsRow w.drew.heap.size 5 1 v' (n - f + k2) (bs (xs.drop f) ++ bs (ys.take k2)) → w.drew.grownBy w' none → PartIs (xs ++ ys) f (n + k2 - f) w (.returned v') w' := by
    intro v' w' hown hgrow
    rw [show bs (xs.drop f) ++ bs (ys.take k2) = bs (xs.drop f ++ ys.take k2) by simp [bs]] at hown
    obtain ⟨A', c', rfl, hnb⟩ := ownsRow_nb (by simpa [bs] using (show (xs.drop f ++ ys.take k2).length = n - f + k2 by rw [List.length_append, h1.len, ← length_bs (ys.take k2), hln, Nat.mul_one])) ((h.lim.drop f).append (h2.lim.take k2)) hown
    have ek : n + k2 - f = n - f + k2 := by omega
    refine ⟨A', c', by rw [ek], ?_, ?_⟩
    · have e : ((xs ++ ys).drop f).take (n + k2 - f) = xs.drop f ++ ys.take k2 := by
        rw [List.drop_append_of_le_length (by rw [hl.out]; omega), List.take_append, List.take_of_length_le (by rw [h1.len]; omega), h1.len, show n + k2 - f - (n - f) = k2 by omega]
      rw [e, ek]; exact hnb
    · exact ⟨hgrow.os, hgrow.tape, hgrow.output, hgrow.size, fun i hi => hgrow.block i hi (by simp)⟩
  have Ho := Lib.hid ho
  have Hs2 := Lib.hid hs2
  have Hlo := Lib.hid hlo
  have Hln := Lib.hid hln
  have Hfin := Lib.hid hfin
  clear ho hs2 hlo hln hfin h1 h h2 hl
  generalize bs (xs.drop f) = O at *
  have HN1 := Lib.hid (bs_one (ys.take k2))
  generalize bs (ys.take k2) = N at *
  obtain ⟨i0, hi, hz0, hz1, hz2⟩ := info_parts Tryz.info5
  have q1 : f ≤ n := by omega
  have q2 : k2 ≤ c2 := by omega
  go_region_law (refine step_append_grows rfl (.tmp 38) (.tmp 43) 32 rfl 5 i0 (.int .u8 0) 1 1 Tryz.underlying32 hi hz0 hz1 hz2 rfl (by decide) (some ⟨b, off + f, none⟩) (n - f) (n - f) O (by simp [Act.eval, Act.put]) (fun e => by cases e) Hlo.out Ho.out ⟨b2, off2, none⟩ k2 c2 N (by simp [Act.eval, Act.put]) Hln.out Hs2.out HN1.out (by omega) (by unfold maxLen; omega) (by omega) ?_; intro v' w' hown hgrow)
  all_goals go_wp2
  go_ret
  exact Hfin.out _ _ hown hgrow
end Go.Proofs.YtkhlmcknbangfaaGreatDoor.Sh
namespace Go.Proofs.YtkhlmcknbangfaaGreatDoor.Sh
open Go.RowKit
set_option linter.unusedVariables false
set_option maxRecDepth 100000

theorem part2z {w : World} {A A2 : Option Addr} {n c m c2 : Nat} (zs : List Nat) (hn : n ≤ 1099511627776) (hm : m ≤ 1099511627776) (hc2 : m ≤ c2) (hr2 : c2 ≤ 9223372036854775807) (f : Nat) (hf : n < f) (hk : f ≤ n + m) :
    Calls Tryz.prog 166 #[.slice A n c, .slice A2 m c2, .int .i64 (f : Int), .int .i64 (f : Int)] w (PartIs zs f 0 w) := by
  obtain ⟨d, rfl⟩ : ∃ d, f = n + d := ⟨f - n, by omega⟩
  have e1 : IntKind.i64.wrap ((n : Int) + (d : Int) - (n : Int)) = (d : Int) := (IntWalk.i64_in _ (by omega)).trans (by omega)
  have h0 : 0 < d := by omega
  clear hf
  go_enter Tryz.func166, Tryz.ntmps166
  go_wp2
  go_ret
  refine ⟨A2, 0, ?_, nb_zero _ _ _ _, Below.refl _ _⟩
  simp
theorem part_any {w : World} {A A2 : Option Addr} {n c m c2 : Nat} {xs ys : List Nat} (h : Nb w w.heap.size A n c xs) (h2 : Nb w w.heap.size A2 m c2 ys) (hs : n + m ≤ 1099511627776) (f T : Nat) (hf : f ≤ T) (hT : T ≤ n + m) :
    Calls Tryz.prog 166 #[.slice A n c, .slice A2 m c2, .int .i64 (f : Int), .int .i64 (T : Int)] w (PartIs (xs ++ ys) f (T - f) w) := by
  by_cases h1 : T ≤ n
  · obtain ⟨k, rfl⟩ : ∃ k, T = f + k := ⟨T - f, by omega⟩
    rw [Nat.add_sub_cancel_left]
    exact part1 h (by omega) ys f k h1
  · by_cases h3 : n ≤ f
    · by_cases h4 : T = f
      · subst h4
        rw [Nat.sub_self]
        exact part2z _ (by omega) (by omega) h2.cap h2.room T (by omega) hT
      · obtain ⟨f', rfl⟩ : ∃ f', f = n + f' := ⟨f - n, by omega⟩
        obtain ⟨k, rfl⟩ : ∃ k, T = n + f' + k := ⟨T - (n + f'), by omega⟩
        rw [Nat.add_sub_cancel_left]
        exact part2 h.len (by omega) h2 f' k (by omega) (by omega)
    · obtain ⟨k2, rfl⟩ : ∃ k2, T = n + k2 := ⟨T - n, by omega⟩
      exact part3 h h2 f 0 k2 (by omega) (by omega) (by omega) hs

end Go.Proofs.YtkhlmcknbangfaaGreatDoor.Sh
namespace Go.Proofs.YtkhlmcknbangfaaGreatDoor.Sh
open Go.RowKit Go.Shelf
set_option linter.unusedVariables false
set_option maxRecDepth 100000
attribute [local go_sem] Oper.semAt_some

theorem below_grown {W W' : World} (h : Below W.heap.size W W') : W.grownBy W' none := ⟨h.os, h.tape, h.output, h.size, fun i hi _ => h.block i hi⟩

/-- what a round keeps: all below a block, and two blocks more -/
structure Keeps (n0 B1 B2 : Nat) (W W' : World) : Prop where
  low : Below n0 W W'
  one : W'.heap[B1]? = W.heap[B1]?
  two : W'.heap[B2]? = W.heap[B2]?
theorem Keeps.refl (n0 B1 B2 : Nat) (W : World) : Keeps n0 B1 B2 W W := ⟨Below.refl _ _, rfl, rfl⟩
theorem Keeps.trans {n0 B1 B2 : Nat} {A B C : World} (h : Keeps n0 B1 B2 A B) (k : Keeps n0 B1 B2 B C) : Keeps n0 B1 B2 A C := ⟨h.low.trans k.low, k.one.trans h.one, k.two.trans h.two⟩
theorem Keeps.of {n0 B1 B2 : Nat} {W W' : World} (h : Below W.heap.size W W') (h0 : n0 ≤ W.heap.size) (h1 : B1 < W.heap.size) (h2 : B2 < W.heap.size) : Keeps n0 B1 B2 W W' := ⟨h.mono h0, h.block _ h1, h.block _ h2⟩
theorem cell_of_block {W W' : World} {b j : Nat} (h : W'.heap[b]? = W.heap[b]?) : W'.cell? ⟨b, j, none⟩ = W.cell? ⟨b, j, none⟩ := by unfold World.cell?; rw [h]
set_option maxHeartbeats 2000000 in
theorem blocks1_in (l B1 B2 n0 : Nat) {A1 A2 : Option Addr} {n c m c2 : Nat} {xs ys : List Nat} (hs : n + m ≤ 1099511627776) (J : Nat → World → Prop) (hJ : ∀ k A B, J k A → A.grownBy B none → J k B)
    (hY : ∀ k A' c' W, J k W → k < (n + m) / 64 → Nb W W.heap.size A' 64 c' (((xs ++ ys).drop (64 * k)).take 64) → YieldAt Fence.wide 7 Tryz.prog l #[.slice A' 64 c'] W fun e W' => e = .returned (.bool true) ∧ J (k + 1) W' ∧ Keeps n0 B1 B2 W W')
    (W : World) (hn0 : n0 ≤ W.heap.size) (hB1 : B1 < W.heap.size) (hB2 : B2 < W.heap.size) (hc1 : W.cell? ⟨B1, 0, none⟩ = some (.slice A1 n c)) (hc2 : W.cell? ⟨B2, 0, none⟩ = some (.slice A2 m c2)) (hx : Nb W n0 A1 n c xs) (hy : Nb W n0 A2 m c2 ys) (h0 : J 0 W) :
    CallsIn Fence.wide 8 Tryz.prog 180 #[.func (.yield l) #[] #[], .pointer (some ⟨B1, 0, none⟩), .pointer (some ⟨B2, 0, none⟩)] W fun e W' => (∃ v, e = .returned v) ∧ J ((n + m) / 64) W' := by
  obtain ⟨N, hN⟩ : ∃ N, (n + m) / 64 = N := ⟨_, rfl⟩
  rw [hN] at hY ⊢
  have hNb : 64 * N ≤ n + m := by omega
  have HN := Lib.hid hN
  have hW := whole_any A1 A2 n c m c2 (by omega) (by omega) W
  rw [hN] at hW
  have HW := Lib.hid hW
  have HY := Lib.hid hY
  have HJ := Lib.hid hJ
  clear hN hW hY hJ
  refine callsIn_of_wp Tryz.func180 rfl trivial ?_ rfl
  simp only [Tryz.ntmps180, List.size_toArray, List.length_cons, List.length_nil, Nat.reduceAdd, Nat.reduceSub, Array.replicate_succ, Array.replicate_zero, List.push_toArray, List.append_toArray, List.nil_append, List.cons_append]
  gi_wp2_with fail
  refine ⟨trivial, (callsIn_wide.2 HW.out).mono ?_⟩
  rintro e w1 ⟨rfl, rfl⟩
  gi_wp2
  gi_loopw [5] (fun i wr => ∃ k : Nat, k ≤ N ∧ i = .int .i64 ((64 * k : Nat) : Int) ∧ J k wr ∧ Keeps n0 B1 B2 W wr) (fun i _ => 64 * N - (intOf i).toNat)
  case atStart => exact ⟨0, Nat.zero_le _, rfl, h0, Keeps.refl _ _ _ _⟩
  case round =>
    obtain ⟨k, hk, rfl, hJk, hB⟩ := hrel
    by_cases hlt : k < N
    · have hb1 : wr.cell? ⟨B1, 0, none⟩ = some (.slice A1 n c) := (cell_of_block hB.one).trans hc1
      have hb2 : wr.cell? ⟨B2, 0, none⟩ = some (.slice A2 m c2) := (cell_of_block hB.two).trans hc2
      have hsz := hB.low.size
      have hpart := part_any ((hx.below hB.low).more (Nat.le_trans hn0 hsz)) ((hy.below hB.low).more (Nat.le_trans hn0 hsz)) hs (64 * k) (64 * k + 64) (by omega) (by omega)
      rw [show 64 * k + 64 - 64 * k = 64 by omega, show ((64 * k : Nat) : Int) = 64 * (k : Int) by omega, show ((64 * k + 64 : Nat) : Int) = 64 * (k : Int) + 64 by omega] at hpart
      have Hp := Lib.hid hpart
      have q1 : 64 * (k : Int) < 64 * (N : Int) := by omega
      clear hpart hc1 hc2
      gi_wp2_with fail
      refine ⟨trivial, (callsIn_wide.2 Hp.out).mono ?_⟩
      rintro e w1 ⟨A', c', rfl, hn', hb'⟩
      obtain ⟨fn, tmps, assign, body, hy', hR⟩ := HY.out k A' c' w1 (HJ.out k _ _ hJk (below_grown hb')) hlt hn'
      gi_wp2
      refine hR.mono ?_
      rintro e w2 ⟨rfl, hJ2, hB2'⟩
      have hBall : Keeps n0 B1 B2 W w2 := (hB.trans (Keeps.of hb' (Nat.le_trans hn0 hsz) (Nat.lt_of_lt_of_le hB1 hsz) (Nat.lt_of_lt_of_le hB2 hsz))).trans hB2'
      gi_wp2
      go_roundw
      case rel => exact ⟨k + 1, by omega, by congr 1, hJ2, hBall⟩
      case measure => simp [intOf]; omega
    · have q1 : 64 * (N : Int) ≤ 64 * (k : Int) := by omega
      have hf : J N wr := by rw [show N = k by omega]; exact hJk
      clear hlt
      gi_wp2
      go_end0
      exact ⟨⟨_, rfl⟩, hf⟩
end Go.Proofs.YtkhlmcknbangfaaGreatDoor.Sh
namespace Go.Proofs.YtkhlmcknbangfaaGreatDoor.Sh
open Go.RowKit Go.Shelf
set_option linter.unusedVariables false
set_option maxRecDepth 100000

/-- the iterator's word: N rounds, each handed a value of which R holds -/
def Yields (F : Fence) (n : Nat) (P : Program) (gf : FuncId) (lb : Array Value) (B0 N : Nat) (R : Nat → Value → World → Prop) (Kp : World → World → Prop) (w : World) : Prop :=
  ∀ (l : Nat) (J : Nat → World → Prop) (W : World), Below B0 w W → (∀ k A B, J k A → A.grownBy B none → J k B) →
    (∀ k v W1, J k W1 → k < N → R k v W1 → YieldAt F (n - 1) P l #[v] W1 fun e W' => e = .returned (.bool true) ∧ J (k + 1) W' ∧ Kp W1 W') →
    J 0 W → CallsIn F n P gf (#[.func (.yield l) #[] #[]] ++ lb) W fun e W' => (∃ v, e = .returned v) ∧ J N W'

theorem range_all {P : Program} {F : Fence} {n : Nat} {g : Operand} {p : Tmp} {assign body : Code} {Q : Exit → Act → World → Prop} {a : Act} {w : World}
    (hro : F.round = none) (h1 : 1 ≤ n) {gf : FuncId} {lb : Array Value} (hg : a.eval g = .func (.func gf) #[] lb) (hFg : F.fn gf) (eg : ∀ args w, (callFunc gf args).run P w = .ok (.enter gf args) w)
    {N : Nat} {R : Nat → Value → World → Prop} {Kp : World → World → Prop} (hseq : Yields F (n - 1) P gf lb w.heap.size N R Kp w)
    (hKt : ∀ A B C, Kp A B → Kp B C → Kp A C) (hKb : ∀ (A : World) (l : Nat) (o o' : Obj), w.heap.size ≤ l → A.heap[l]? = some o → o.isCells = false → Kp A (A.putObj l o'))
    (hR : ∀ k v A l o o', R k v A → w.heap.size ≤ l → A.heap[l]? = some o → o.isCells = false → R k v (A.putObj l o'))
    (J : Nat → World → Prop) (hJ : OwnFrom w.heap.size J) (h0 : J 0 w) (a₁ : Value → Act)
    (hassign : ∀ (l : Nat) (v : Value) (W : World) (K : Act → World → Prop), K (a₁ v) W →
      assign.wpIn (F.inRound l) (n - 1 - 1) P (Exit.then K (fun _ _ _ => False)) { tmps := a.tmps.setIfInBounds p v, defers := [] } W)
    (hbody : ∀ (l k : Nat) (v : Value) (W : World), J k W → k < N → R k v W →
      body.wpIn (F.inRound l) (n - 1 - 1) P (fun e _ W' => e = .normal ∧ KeepsOthers W W' ∧ Kp W W' ∧ J (k + 1) W') (a₁ v) W)
    (hdone : ∀ (D : Nat) (W : World), w.heap.size ≤ D → J N W → W.heap[D]? = some (.deferred (some [])) → Q .normal { a with defers := { target := .collected D, args := #[] } :: a.defers } W) :
    (Code.rangeFunc g #[p] assign body).wpIn F n P Q a w := by
  refine wpIn_rangeFunc fun fn hfn => ?_
  rw [hro]
  obtain ⟨rec, hrec⟩ : ∃ rec : LoopState → Loop, ∀ st, rec st = { state := st, pending := none, fn, tmps := a.tmps, params := #[p], assign, body, defers := w.heap.size } := ⟨_, fun _ => rfl⟩
  have hsize : ((w.alloc (.deferred (some []))).alloc (.loop (rec .ready))).heap.size = w.heap.size + 2 := by simp
  have hbel : Below w.heap.size w ((w.alloc (.deferred (some []))).alloc (.loop (rec .ready))) := ((Below.refl _ w).alloc (Nat.le_refl _) _).alloc (by simp) _
  have hloop : ((w.alloc (.deferred (some []))).alloc (.loop (rec .ready))).heap[w.heap.size + 1]? = some (.loop (rec .ready)) := by
    have := World.alloc_heap_new (w.alloc (.deferred (some []))) (.loop (rec .ready))
    rwa [World.size_alloc] at this
  have hdef : ((w.alloc (.deferred (some []))).alloc (.loop (rec .ready))).heap[w.heap.size]? = some (.deferred (some [])) := (Below.heap_alloc _ _ _ (by simp)).trans (World.alloc_heap_new w _)
  have hj1 : J 0 ((w.alloc (.deferred (some []))).alloc (.loop (rec .ready))) := hJ.alloc _ (hJ.alloc _ h0)
  have henter := run_enterLoop_outer (P := P) (w := w) fn a.tmps #[p] assign body
  rw [← hrec] at henter
  generalize (w.alloc (.deferred (some []))).alloc (.loop (rec .ready)) = w1 at *
  refine ⟨w.heap.size + 1, [{ target := .collected w.heap.size, args := #[] }], w1, { target := .fn (.func gf) lb, args := #[.func (.yield (w.heap.size + 1)) #[] #[]] }, w1, gf,
    #[.func (.yield (w.heap.size + 1)) #[] #[]] ++ lb, w1, henter, ?_, ?_, ?_, fun _ => h1, ?_⟩
  · simp only [resolve, hg]; simp [go_sem]
  · intro f' hf'; simp [Target.leads] at hf'; subst hf'; exact hFg
  · simp [invoke, go_sem, eg]
  -- what the caller keeps, with the loop's own two objects
  let J2 : Nat → World → Prop := fun k W => J k W ∧ W.heap[w.heap.size + 1]? = some (.loop (rec .ready)) ∧ W.heap[w.heap.size]? = some (.deferred (some []))
  have hj2 : J2 0 w1 := ⟨hj1, hloop, hdef⟩
  refine (hseq (w.heap.size + 1) J2 w1 hbel ?_ ?_ hj2).mono ?_
  · intro k A B h hg
    exact ⟨hJ k A B none h.1 hg (fun _ e => by cases e), (hg.block _ (Array.getElem?_eq_some_iff.1 h.2.1).1 (by simp)).trans h.2.1, (hg.block _ (Array.getElem?_eq_some_iff.1 h.2.2).1 (by simp)).trans h.2.2⟩
  · rintro k v W ⟨hj, hl, hd⟩ hk hr
    have hlt : w.heap.size + 1 < W.heap.size := (Array.getElem?_eq_some_iff.1 hl).1
    have hy := run_yield (P := P) (args := #[v]) hl (by rw [hrec]; rfl)
    rw [hrec] at hy
    refine ⟨fn, _, assign, body, hy, roundIn_of_wpIn hfn ?_⟩
    rw [show (Array.foldl (fun (t : Array Value) (x : Tmp × Value) => t.setIfInBounds x.1 x.2) a.tmps (#[p].zip #[v])) = a.tmps.setIfInBounds p v by simp]
    refine hassign (w.heap.size + 1) v W _ ?_
    refine ⟨_, run_beginRound hl (by rw [hrec]), ?_⟩
    have hb : ({ rec .ready with state := .busy } : Loop) = rec .busy := by rw [hrec, hrec]
    rw [hb]
    have hl2 : (W.putObj (w.heap.size + 1) (.loop (rec .busy))).heap[w.heap.size + 1]? = some (.loop (rec .busy)) := World.putObj_heap_same hlt
    have hd2 : (W.putObj (w.heap.size + 1) (.loop (rec .busy))).heap[w.heap.size]? = some (.deferred (some [])) := (World.putObj_heap_other (by omega)).trans hd
    refine wpIn_mono (hbody _ k v _ (hJ.putObj _ hj (by omega) hl rfl) hk (hR _ _ _ _ _ _ hr (by omega) hl rfl)) ?_
    rintro e a3 W3 ⟨rfl, hko, hbl, hj3⟩
    have hl3 := hko.same _ _ hl2 rfl
    have he := run_endRound (P := P) none hl3
    have hb3 : ({ rec .busy with state := (if (none : Option Code).isNone then .ready else .done), pending := none } : Loop) = rec .ready := by rw [hrec, hrec]; rfl
    rw [hb3] at he
    exact ⟨_, _, he, rfl, ⟨hJ.putObj _ hj3 (by omega) hl3 rfl, World.putObj_heap_same (Array.getElem?_eq_some_iff.1 hl3).1, (World.putObj_heap_other (by omega)).trans (hko.same _ _ hd2 rfl)⟩,
      hKt _ _ _ (hKt _ _ _ (hKb W _ _ _ (by omega) hl rfl) hbl) (hKb W3 _ _ _ (by omega) hl3 rfl)⟩
  · rintro e W2 ⟨⟨v, rfl⟩, hj, hl, hd⟩
    have he := run_endLoop (P := P) hl (by rw [hrec]; simp)
    rw [show (rec .ready).pending = none by rw [hrec]] at he
    refine ⟨none, _, he, ?_⟩
    exact hdone _ _ (Nat.le_refl _) (hJ.putObj _ hj (by omega) hl rfl) ((World.putObj_heap_other (by omega)).trans hd)
end Go.Proofs.YtkhlmcknbangfaaGreatDoor.Sh
namespace Go.Proofs.YtkhlmcknbangfaaGreatDoor.Sh
open Go.RowKit Go.Shelf
set_option linter.unusedVariables false
set_option maxRecDepth 100000
theorem cell_new (w : World) (v : Value) (t : TypeId) : (w.alloc (.cells #[v] t)).cell? ⟨w.heap.size, 0, none⟩ = some v := by
  rw [cell_of_row _ _ 0 #[v] t (0, 0) (heap_alloc_new w _)]; rfl

attribute [local go_sem] Oper.semAt_some

theorem wpListIn_load_row {F : Fence} {n : Nat} {P : Program} {ops : Array Oper} {rest : List Oper} {o : Oper} {a : Act} {w : World} {Q : Exit → Act → World → Prop} (hgd : o.guard = none) (ty : TypeId) (x : Operand) (ho : o.op = .load ty x)
    (g : Nat) (hx : a.eval x = .pointer (some ⟨g, 0, none⟩)) (t : TypeId) (cs : Array Value) (fr : Nat × Nat) (d : TypeDesc) (hg : w.heap[g]? = some (.cells cs t fr))
    (hu : P.underlying ty = some d) (hd : (match d with | .struct _ | .array _ _ => true | _ => false) = true) (hi : (P.info? ty).map (·.size) = some cs.size)
    (h : wpListIn F n P ops Q rest (a.put o.dst (.agg cs)) w) : wpListIn F n P ops Q (o :: rest) a w := by
  refine wpListIn_plain hgd fun K hK => ?_
  unfold Oper.wpIn
  refine ⟨?_, ?_⟩
  · simp [Oper.about, ho]
  · rw [Oper.semAt_plain F _ _ (by rw [ho]; intro c hc'; cases hc')]
    unfold execOp
    simp only [ho, hx, Instr.loadAt, Instr.sureAddr, Sem.run_bind, Sem.run_pure, Result.andThen_ok, run_loadVar_row w g t ty cs fr d hg hu hd hi]
    exact hK _ _ h
theorem wpListIn_store_row {F : Fence} {n : Nat} {P : Program} {ops : Array Oper} {rest : List Oper} {o : Oper} {a : Act} {w : World} {Q : Exit → Act → World → Prop} (hgd : o.guard = none) (hd : o.dst = none) (ty : TypeId) (x v : Operand) (ho : o.op = .store ty x v)
    (g : Nat) (hx : a.eval x = .pointer (some ⟨g, 0, none⟩)) (cs : List Value) (hv : a.eval v = .agg cs.toArray) (t : TypeId) (cur : Array Value) (hg : w.heap[g]? = some (.cells cur t (0, 0)))
    (h1 : ∀ v ∈ cs, v.oneCell' = true) (hs : cs.length = cur.size) (hi : (P.info? ty).map (·.size) = some cs.length)
    (h : wpListIn F n P ops Q rest a (w.setRow g cs.toArray)) : wpListIn F n P ops Q (o :: rest) a w := by
  refine wpListIn_plain hgd fun K hK => ?_
  unfold Oper.wpIn
  refine ⟨?_, ?_⟩
  · simp [Oper.about, ho]
  · rw [Oper.semAt_plain F _ _ (by rw [ho]; intro c hc'; cases hc')]
    unfold execOp
    simp only [ho, hx, hv, Instr.storeAt, Instr.sureAddr, Sem.run_bind, Sem.run_pure, Result.andThen_ok, run_storeVar_row w g ty cs t cur hg h1 hs hi]
    have := hK _ _ h
    simpa [Oper.uponIn, hd, Act.put] using this

theorem blocks_any (A1 A2 : Option Addr) (n c m c2 : Nat) (w : World) : Calls Tryz.prog 163 #[.slice A1 n c, .slice A2 m c2] w fun e w' =>
    e = .returned (.func (.func 180) #[] #[.pointer (some ⟨w.heap.size, 0, none⟩), .pointer (some ⟨w.heap.size + 1, 0, none⟩)]) ∧ w' = (w.alloc (.cells #[.slice A1 n c] 32)).alloc (.cells #[.slice A2 m c2] 32) := by
  go_enter Tryz.func163, Tryz.ntmps163
  go_wp2
  go_ret
  exact ⟨rfl, rfl⟩

theorem grown_setRow (w : World) (g : Nat) (cs : Array Value) : w.grownBy (w.setRow g cs) (some g) := ⟨rfl, rfl, rfl, by simp [World.setRow], fun k hk hne => setRow_other w g k _ (by intro e; subst e; exact hne rfl)⟩
theorem keeps_setRow {w : World} {g : Nat} (cs : Array Value) {cur : Array Value} {t : TypeId} {fr : Nat × Nat} (h : w.heap[g]? = some (.cells cur t fr)) : KeepsOthers w (w.setRow g cs) :=
  KeepsOthers.of_grownBy (grown_setRow w g cs) (fun j o e hj => by cases e; rw [h] at hj; cases hj; rfl)
/-- what a round is handed -/
def BlockIs (zs : List Nat) (k : Nat) (v : Value) (W : World) : Prop := ∃ A c, v = .slice A 64 c ∧ Nb W W.heap.size A 64 c ((zs.drop (64 * k)).take 64)
theorem BlockIs.put {zs : List Nat} {k : Nat} {v : Value} {A : World} {l : Nat} {o o' : Obj} (h : BlockIs zs k v A) (hl : A.heap[l]? = some o) (ho : o.isCells = false) : BlockIs zs k v (A.putObj l o') := by
  obtain ⟨ad, c, rfl, hn⟩ := h
  refine ⟨ad, c, rfl, hn.len, hn.cap, hn.room, hn.lim, fun h0 => ?_⟩
  obtain ⟨b, off, e, hb, hc⟩ := hn.cell h0
  exact ⟨b, off, e, by simpa using hb, fun j x hx => cell_kept (hc j x hx) (grownBy_putObj' _ l o') (fun r e => by cases e; exact ⟨o, hl, ho⟩)⟩

theorem blocks_yields {n c m c2 : Nat} {A1 A2 : Option Addr} {xs ys : List Nat} (hs : n + m ≤ 1099511627776) (n0 B1 B2 : Nat) (w : World) (hn0 : n0 ≤ w.heap.size) (hB1 : B1 < w.heap.size) (hB2 : B2 < w.heap.size)
    (hc1 : w.cell? ⟨B1, 0, none⟩ = some (.slice A1 n c)) (hc2 : w.cell? ⟨B2, 0, none⟩ = some (.slice A2 m c2)) (hx : Nb w n0 A1 n c xs) (hy : Nb w n0 A2 m c2 ys) :
    Yields Fence.wide 8 Tryz.prog 180 #[.pointer (some ⟨B1, 0, none⟩), .pointer (some ⟨B2, 0, none⟩)] w.heap.size ((n + m) / 64) (BlockIs (xs ++ ys)) (Keeps n0 B1 B2) w := by
  intro l J W hb hJ hY h0
  have hs' := hb.size
  exact blocks1_in l B1 B2 n0 hs J hJ (fun k A' c' W1 hj hk hn => hY k _ W1 hj hk ⟨A', c', rfl, hn⟩) W (by omega) (by omega) (by omega) ((hb.cell (p := ⟨B1, 0, none⟩) hB1).trans hc1) ((hb.cell (p := ⟨B2, 0, none⟩) hB2).trans hc2) (hx.below (hb.mono hn0)) (hy.below (hb.mono hn0)) h0

theorem changeBy_row {w : World} {c : Nat} {A : Option Addr} {xs : List Nat} (hk : Ks w) (h : Nb w w.heap.size A 64 c xs) (s : St) (hs : s.Ok) :
    Calls Tryz.prog 164 #[.agg (wv (words s)).toArray, .slice A 64 c] w fun e w' => e = .returned (.agg (wv (words (chg s xs))).toArray) ∧ Below w.heap.size w w' := changeBy_any hk h s hs

set_option maxHeartbeats 2000000 in
theorem change_any {w : World} (hk : Ks w) (s : St) (hs : s.Ok) {n c m c2 : Nat} {A1 A2 : Option Addr} {xs ys : List Nat} (hx : Nb w w.heap.size A1 n c xs) (hy : Nb w w.heap.size A2 m c2 ys) (hnm : n + m ≤ 1099511627776) :
    Calls Tryz.prog 126 #[.agg (wv (words s)).toArray, .slice A1 n c, .slice A2 m c2] w fun e w' => e = .returned (.agg (wv (words (chgN s (xs ++ ys) ((n + m) / 64)))).toArray) ∧ Below w.heap.size w w' := by
  have hsz := hk.size
  have hb1 : Below w.heap.size w (w.alloc (Ob 81 (words s))) := (Below.refl _ _).alloc (Nat.le_refl _) _
  have hb2 : Below w.heap.size w ((w.alloc (Ob 81 (words s))).alloc (Ob 81 (List.replicate 8 0))) := hb1.alloc (by simp) _
  have hx2 : Wb ((w.alloc (Ob 81 (words s))).alloc (Ob 81 (List.replicate 8 0))) w.heap.size 81 (words s) := Wb.alloc (alloc_ob _ _ _) _
  have hy2 : Wb ((w.alloc (Ob 81 (words s))).alloc (Ob 81 (List.replicate 8 0))) (w.heap.size + 1) 81 (List.replicate 8 0) := by
    have := alloc_ob (w.alloc (Ob 81 (words s))) 81 (List.replicate 8 0)
    rwa [World.size_alloc] at this
  have hz2 : ((w.alloc (Ob 81 (words s))).alloc (Ob 81 (List.replicate 8 0))).heap.size = w.heap.size + 2 := by simp
  obtain ⟨w2, hw2⟩ : ∃ w2, w2 = (w.alloc (Ob 81 (words s))).alloc (Ob 81 (List.replicate 8 0)) := ⟨_, rfl⟩
  rw [← hw2] at hb2 hx2 hy2 hz2
  have HW2 := Lib.hid hw2
  clear hw2 hb1
  refine (callsIn_wide (n := 9)).1 ?_
  refine callsIn_of_wp_marks Tryz.func126 rfl trivial ?_ rfl
  simp only [Tryz.ntmps126, List.size_toArray, List.length_cons, List.length_nil, Nat.reduceAdd, Nat.reduceSub, Array.replicate_succ, Array.replicate_zero, List.push_toArray, List.append_toArray, List.nil_append, List.cons_append]
  gi_wp2_with fail
  refine ⟨trivial, ?_⟩
  change CallsIn _ _ _ _ _ ((w.alloc (Ob 81 (words s))).alloc (Ob 81 (List.replicate 8 0))) _
  rw [← HW2.out]
  refine (callsIn_wide.2 (blocks_any A1 A2 n c m c2 w2)).mono ?_
  rintro e w3 ⟨rfl, hw3⟩
  have hb3 : Below w2.heap.size w2 w3 := by rw [hw3]; exact ((Below.refl _ _).alloc (Nat.le_refl _) _).alloc (by simp) _
  have hs3 : w3.heap.size = w2.heap.size + 2 := by rw [hw3]; simp
  have hc1 : w3.cell? ⟨w2.heap.size, 0, none⟩ = some (.slice A1 n c) := by
    rw [hw3]
    have h1 := cell_new w2 (.slice A1 n c) 32
    exact (((Below.refl (w2.heap.size + 1) (w2.alloc (.cells #[.slice A1 n c] 32))).alloc (by simp) _).cell (p := ⟨w2.heap.size, 0, none⟩) (Nat.lt_succ_self _)).trans h1
  have hc2 : w3.cell? ⟨w2.heap.size + 1, 0, none⟩ = some (.slice A2 m c2) := by
    rw [hw3]
    have h1 := cell_new (w2.alloc (.cells #[.slice A1 n c] 32)) (.slice A2 m c2) 32
    rwa [World.size_alloc] at h1
  have hx3 := hx2.below hb3 hx2.lt
  have hy3 := hy2.below hb3 hy2.lt
  have hB3 : Below w.heap.size w w3 := hb2.trans (hb3.mono (by omega))
  have hsz3 : w.heap.size + 4 = w3.heap.size := by omega
  have hyl := blocks_yields hnm w.heap.size w2.heap.size (w2.heap.size + 1) w3 hB3.size (by omega) (by omega) hc1 hc2 (hx.below hB3) (hy.below hB3)
  have Hyl := Lib.hid hyl
  clear hw3 hc1 hc2 hx2 hy2 hb2 hb3 hyl HW2 hx hy
  generalize w2.heap.size = g2 at *
  have hg2 : g2 = w.heap.size + 2 := hz2
  subst hg2
  clear hs3 hz2
  gi_wp2_with fail
  generalize hzs : xs ++ ys = zs at *
  have Hzs := Lib.hid hzs
  clear hzs
  refine range_all (J := fun k W => (Wb W w.heap.size 81 (words (chgN s zs k)) ∧ Wb W (w.heap.size + 1) 81 (List.replicate 8 0)) ∧ Below w.heap.size w W ∧ w.heap.size + 4 ≤ W.heap.size) rfl (by omega) (gf := 180) (lb := #[.pointer (some ⟨w.heap.size + 2, 0, none⟩), .pointer (some ⟨w.heap.size + 2 + 1, 0, none⟩)]) rfl trivial (enters_of Tryz.func180 (by kernel_rfl) rfl) Hyl.out
    (fun A B C h k => h.trans k) (fun A l o o' hl h ho => ⟨(Below.refl _ A).grown (grownBy_putObj' A l o') (by have := (Array.getElem?_eq_some_iff.1 h).1; omega) (fun k e => by cases e; omega), World.putObj_heap_other (by omega), World.putObj_heap_other (by omega)⟩)
    (fun k v A l o o' h _ hl ho => h.put hl ho) ?hJ ⟨⟨by rw [chgN_zero]; exact hx3, hy3⟩, hB3, by omega⟩
    (fun v => { tmps := #[.agg (wv (words s)).toArray, .slice A1 n c, .slice A2 m c2, .pointer (some ⟨w.heap.size, 0, none⟩), undef, undef, .pointer (some ⟨w.heap.size + 1, 0, none⟩), v, .slice A1 n c, .slice A2 m c2, .func (.func 180) #[] #[.pointer (some ⟨w.heap.size + 2, 0, none⟩), .pointer (some ⟨w.heap.size + 2 + 1, 0, none⟩)], v, undef, undef, undef, undef], defers := [] }) ?assign ?body ?done
  case hJ =>
    rintro k A B row ⟨⟨j1, j2⟩, j3, j4⟩ hg hr
    have hne : ∀ i, i < w3.heap.size → some i ≠ row := by
      intro i hi e
      have := (hr i e.symm).1
      omega
    have hA := j3.size
    exact ⟨⟨(hg.block _ j1.lt (hne _ (by omega))).trans j1, (hg.block _ j2.lt (hne _ (by omega))).trans j2⟩, j3.trans ⟨hg.os, hg.tape, hg.output, hg.size, fun i hi => hg.block i (by omega) (hne i (by omega))⟩, Nat.le_trans j4 hg.size⟩
  case assign =>
    intro l v W K hK
    gi_wp2
    exact hK
  case body =>
    rintro l k v W ⟨⟨j1, j2⟩, j3, q1⟩ hkN ⟨A, c', rfl, hn⟩
    have ok := chgN_ok hs zs k
    have hcb := changeBy_row (hk.below j3 hsz) hn (chgN s zs k) ok
    rw [← chgN_succ] at hcb
    have Hcb := Lib.hid hcb
    clear hcb hn ok
    gi_wp2_with (refine wpListIn_load_row rfl 81 (.tmp 3) rfl w.heap.size rfl 81 (wv (words (chgN s zs k))).toArray (0, 0) _ j1 Tryz.underlying81 rfl (by kernel_rfl) ?_)
    refine ⟨trivial, ?_⟩
    refine (CallsIn.inRound l (callsIn_wide.2 Hcb.out)).mono ?_
    rintro e w4 ⟨rfl, hb4⟩
    have i1 := j1.below hb4 j1.lt
    have i2 := j2.below hb4 j2.lt
    have i3 := j3.trans (hb4.mono (by omega))
    have i4 := hb4.size
    gi_wp2_with (refine wpListIn_store_row rfl rfl 81 (.tmp 3) (.tmp 14) rfl w.heap.size rfl (wv (words (chgN s zs (k + 1)))) rfl 81 _ i1 (wv_one _) (by simp [wv, words]) (by kernel_rfl) ?_)
    have r1 := setRow_heap w4 w.heap.size _ (wv (words (chgN s zs (k + 1)))).toArray 81 (0, 0) i1
    refine ⟨(KeepsOthers.of_grownBy (below_grown hb4) (fun j o e => by cases e)).trans (keeps_setRow _ i1), ⟨(hb4.mono (by omega)).trans (below_setRow (Below.refl _ _) (Nat.le_refl _) _), (setRow_other _ _ _ _ (by omega)).trans (hb4.block _ (by omega)), (setRow_other _ _ _ _ (by omega)).trans (hb4.block _ (by omega))⟩, ⟨r1, (setRow_other _ _ _ _ (by omega)).trans i2⟩, below_setRow i3 (Nat.le_refl _) _, by omega⟩
  case done =>
    rintro D W hD ⟨⟨j1, j2⟩, j3, q1⟩ hK
    gi_wp2_with (first
      | (refine wpListIn_load_row rfl 81 (.tmp 3) rfl w.heap.size rfl 81 (wv (words (chgN s zs ((n + m) / 64)))).toArray (0, 0) _ j1 Tryz.underlying81 rfl (by kernel_rfl) ?_)
      | (refine wpListIn_store_row rfl rfl 81 (.tmp 6) (.tmp 15) rfl (w.heap.size + 1) rfl (wv (words (chgN s zs ((n + m) / 64)))) rfl 81 _ j2 (wv_one _) (by simp [wv, words]) (by kernel_rfl) ?_))
    have hK2 : (W.setRow (w.heap.size + 1) (wv (words (chgN s zs ((n + m) / 64)))).toArray).heap[D]? = some (.deferred (some [])) := (setRow_other _ _ _ _ (by omega)).trans hK
    have r1 := setRow_heap W (w.heap.size + 1) _ (wv (words (chgN s zs ((n + m) / 64)))).toArray 81 (0, 0) j2
    have r2 : ((W.setRow (w.heap.size + 1) (wv (words (chgN s zs ((n + m) / 64)))).toArray).putObj D (.deferred none)).heap[w.heap.size + 1]? = _ := (World.putObj_heap_other (by omega)).trans r1
    refine ⟨by simp, .inl ⟨_, _, rfl, run_takeDeferred hK2, ?_⟩⟩
    exact ⟨_, results_cell_row rfl _ _ (w.heap.size + 1) 81 _ (0, 0) _ rfl r2 Tryz.underlying81 rfl (by kernel_rfl), by rw [Hzs.out], (below_setRow j3 (Nat.le_succ _) _).trans (belowK_b (w := w) (Nat.le_refl _) _ D _ _ (by omega) hK2 rfl rfl)⟩
end Go.Proofs.YtkhlmcknbangfaaGreatDoor.Sh
namespace Go.Proofs.YtkhlmcknbangfaaGreatDoor.Sh
open Go.RowKit
set_option linter.unusedVariables false
set_option maxRecDepth 100000

theorem run_storeVar_part {P : Program} (w : World) (g o : Nat) (ty : TypeId) (cs : List Value) (t : TypeId) (cur : List Value) (hg : w.heap[g]? = some (.cells cur.toArray t (0, 0)))
    (h1 : ∀ v ∈ cs, v.oneCell' = true) (hs : o + cs.length ≤ cur.length) (hi : (P.info? ty).map (·.size) = some cs.length) :
    (storeVar ty ⟨g, o, none⟩ (.agg cs.toArray)).run P w = .ok () (w.setRow g (cur.take o ++ cs ++ cur.drop (o + cs.length)).toArray) := by
  cases hq : P.info? ty with
  | none => simp [hq] at hi
  | some i =>
    have hsz : i.size = cs.length := by simpa [hq] using hi
    have hst := run_storeCells_at (P := P) g o t cs 0 cur.toArray w hg (by simpa using hs) h1
    simp only [Nat.add_zero] at hst
    simp [storeVar, Sem.run_bind, sizeOf, typeInfo, hq, hsz, Value.cells, hst]
theorem wpList_store_part {P : Program} {ops : Array Oper} {rest : List Oper} {o : Oper} {a : Act} {w : World} {Q : Exit → Act → World → Prop} (hgd : o.guard = none) (hd : o.dst = none) (ty : TypeId) (x v : Operand) (ho : o.op = .store ty x v)
    (g off : Nat) (hx : a.eval x = .pointer (some ⟨g, off, none⟩)) (cs : List Value) (hv : a.eval v = .agg cs.toArray) (t : TypeId) (cur : List Value) (hg : w.heap[g]? = some (.cells cur.toArray t (0, 0)))
    (h1 : ∀ v ∈ cs, v.oneCell' = true) (hs : off + cs.length ≤ cur.length) (hi : (P.info? ty).map (·.size) = some cs.length)
    (h : wpList P ops Q rest a (w.setRow g (cur.take off ++ cs ++ cur.drop (off + cs.length)).toArray)) : wpList P ops Q (o :: rest) a w := by
  refine wpList_plain hgd fun K hK => ?_
  unfold Oper.wp execOp
  simp only [ho, hx, hv, Instr.storeAt, Instr.sureAddr, Sem.run_bind, Sem.run_pure, Result.andThen_ok, run_storeVar_part w g off ty cs t cur hg h1 hs hi]
  have := hK _ _ h
  simpa [Oper.upon, hd, Act.put] using this

/-- sha.Sum -/
theorem sum_any {w : World} (hk : Ks w) {A : Option Addr} {n c : Nat} {xs : List Nat} (hx : Nb w w.heap.size A n c xs) (hn : n ≤ 1000000000) :
    Calls Tryz.prog 70 #[.slice A n c] w fun e w' => e = .returned (.agg (bs (sha xs)).toArray) ∧ Below w.heap.size w w' := by
  have hl := hx.len
  have hsz := hk.size
  obtain ⟨z, hz⟩ : ∃ z, 9 + (119 - n % 64) % 64 = z := ⟨_, rfl⟩
  have hzl : (pad n).length = z := by rw [length_pad, hz]
  have hz2 : z ≤ 72 := by omega
  obtain ⟨S, hS⟩ : ∃ S, chgN first (xs ++ pad n) ((n + z) / 64) = S := ⟨_, rfl⟩
  have hSo : S.Ok := by rw [← hS]; exact chgN_ok first_ok _ _
  have hsha : sha xs = dig S := by rw [sha_is, hl, hzl, hS]
  rw [hsha]
  have Hz := Lib.hid hz
  have HS := Lib.hid hS
  have Hzl := Lib.hid hzl
  have h0 : Bb (w.alloc (Yb 75 (List.replicate 32 0))) w.heap.size 75 (List.replicate 32 0) := alloc_bb w _ _
  have b0 : Below w.heap.size w (w.alloc (Yb 75 (List.replicate 32 0))) := (Below.refl _ _).alloc (Nat.le_refl _) _
  clear hz hS hsha hl hzl
  go_enter Tryz.func70, Tryz.ntmps70
  go_wp2_with fail
  change Calls _ _ _ (w.alloc (Yb 75 (List.replicate 32 0))) _
  generalize w.alloc (Yb 75 (List.replicate 32 0)) = w0 at *
  refine (firstWords_any w0).mono ?_
  rintro e w1 ⟨rfl, b1⟩
  have h1 := h0.below b1 h0.lt
  have B1 : Below w.heap.size w w1 := b0.trans (b1.mono b0.size)
  go_wp2_with fail
  refine (padding_any n (by omega) w1).mono ?_
  rintro e w2 ⟨g, rfl, hg, hp, b2⟩
  rw [Hz.out]
  have h2 := h1.below b2 h1.lt
  have B2 : Below w.heap.size w w2 := B1.trans (b2.mono B1.size)
  have hpn := hp.nb 0 z z (by rw [Hzl.out]; omega) (Nat.le_refl _) (by omega) (pad_lim n)
  rw [List.drop_zero, List.take_of_length_le (by rw [Hzl.out]; omega)] at hpn
  go_wp2_with fail
  have hch := change_any (hk.below B2 hsz) first first_ok ((hx.below B2).more B2.size) hpn (by omega)
  rw [HS.out] at hch
  refine hch.mono ?_
  rintro e w3 ⟨rfl, b3⟩
  have h3 := h2.below b3 h2.lt
  have B3 : Below w.heap.size w w3 := B2.trans (b3.mono B2.size)
  go_wp2_with fail
  refine (digest_any S hSo w3).mono ?_
  rintro e w4 ⟨rfl, b4⟩
  have h4 := h3.below b4 h3.lt
  have B4 : Below w.heap.size w w4 := B3.trans (b4.mono B3.size)
  have hDl : (bs (dig S)).length = 32 := by rfl
  have HD := Lib.hid hDl
  clear hDl
  generalize hDe : dig S = D at *
  have HDe := Lib.hid hDe
  clear hDe
  go_wp2_with (refine wpList_store_row rfl rfl 75 (.tmp 2) (.tmp 9) rfl w.heap.size rfl (bs D) rfl 75 _ h4 (bs_one _) (by rw [HD.out]; simp [bs]) (by rw [HD.out]; kernel_rfl) ?_)
  have hr1 := setRow_heap w4 w.heap.size _ (bs D).toArray 75 (0, 0) h4
  exact bodyPost_ret (v := .agg (bs D).toArray) (results_cell_row rfl _ _ w.heap.size 75 _ (0, 0) _ rfl hr1 Tryz.underlying75 rfl (by rw [List.size_toArray, HD.out]; kernel_rfl)) rfl ⟨by rw [HDe.out], below_setRow B4 (Nat.le_refl _) _⟩

end Go.Proofs.YtkhlmcknbangfaaGreatDoor.Sh
namespace Go.Proofs.YtkhlmcknbangfaaGreatDoor.Sh
open Go.RowKit
set_option linter.unusedVariables false
set_option maxRecDepth 100000

theorem dig_lim {s : St} : Lim 256 (dig s) := by
  intro x hx
  simp only [dig, List.mem_flatMap, by4, List.mem_cons, List.not_mem_nil, or_false] at hx
  obtain ⟨a, _, h⟩ := hx
  omega
theorem sha_lim (b : List Nat) : Lim 256 (sha b) := by rw [sha_is]; exact dig_lim
theorem length_sha (b : List Nat) : (sha b).length = 32 := by rw [sha_is]; rfl
theorem slice_sum (g : Nat) (W : World) : (Instr.sliceAt 75 (.pointer (some ⟨g, 0, none⟩)) none none none).run Tryz.prog W = .ok (.slice (some ⟨g, 0, none⟩) 32 32) W := by rfl
theorem Ks.drew {w : World} (h : Ks w) : Ks w.drew := ⟨h.size, h.cell⟩
end Go.Proofs.YtkhlmcknbangfaaGreatDoor.Sh
namespace Go.Proofs.YtkhlmcknbangfaaGreatDoor.Sh
open Go.RowKit
set_option linter.unusedVariables false
set_option maxRecDepth 100000

theorem splice_all (D : List Nat) (m : Nat) (h : (D.take m).length = m) : splice (bs (List.replicate m 0)) 0 (bs (D.take m)) = bs (D.take m) := by
  unfold splice
  rw [length_bs, h, List.take_zero, List.nil_append, List.drop_eq_nil_of_le (by rw [length_bs, List.length_replicate]; omega), List.append_nil]
set_option maxHeartbeats 1000000 in
theorem trunc_in {w : World} (hk : Ks w) {A : Option Addr} {n c : Nat} {xs : List Nat} (hx : Nb w w.heap.size A n c xs) (hn : n ≤ 1000000) (m : Nat) (hm : m ≤ 32) :
    Calls Tryz.prog 136 #[.slice A n c, .int .i64 (m : Int)] w fun e w' => ∃ A' c', e = .returned (.tuple #[.slice A' m c', .int .i64 0]) ∧ Nb w' w'.heap.size A' m c' ((sha xs).take m) ∧ Below w.heap.size w w' := by
  have hr := hx.room
  have hl := length_sha xs
  have hL := sha_lim xs
  have H := Lib.hid (sum_any hk hx (by omega))
  obtain ⟨D, hD⟩ : ∃ D, sha xs = D := ⟨_, rfl⟩
  rw [hD] at hl hL H ⊢
  have HDl : Hid ((bs D).length = 32) := Lib.hid (by rw [length_bs, hl])
  have hml : (D.take m).length = m := by rw [List.length_take, hl]; omega
  have Hml := Lib.hid hml
  have Hspl := Lib.hid (splice_all D m hml)
  clear hD hml
  go_enter Tryz.func136, Tryz.ntmps136
  go_wp2_with fail
  refine H.out.mono ?_
  rintro e w1 ⟨rfl, b1⟩
  have t0 : Bb (w1.alloc (Yb 75 (List.replicate 32 0))) w1.heap.size 75 (List.replicate 32 0) := alloc_bb _ _ _
  have B2 : Below w.heap.size w ((w1.alloc (Yb 75 (List.replicate 32 0))).setRow w1.heap.size (bs D).toArray) := below_setRow (b1.alloc b1.size _) b1.size _
  have t1 : Bb ((w1.alloc (Yb 75 (List.replicate 32 0))).setRow w1.heap.size (bs D).toArray) w1.heap.size 75 D := setRow_heap _ _ _ _ _ _ t0
  obtain ⟨w2, hw2⟩ : ∃ w2, (w1.alloc (Yb 75 (List.replicate 32 0))).setRow w1.heap.size (bs D).toArray = w2 := ⟨_, rfl⟩
  rw [hw2] at B2 t1
  have Hw2 := Lib.hid hw2
  clear hw2
  have hs2 := B2.size
  have hsl := fun W => slice_sum w1.heap.size W
  have Ht0 := Lib.hid t0
  have Ht1 := Lib.hid t1
  clear t0 t1
  go_wp2_with (first
    | (change wpList _ _ _ _ _ (w1.alloc (Yb 75 (List.replicate 32 0))); refine wpList_store_row rfl rfl 75 (.tmp 6) (.tmp 15) rfl w1.heap.size rfl (bs D) rfl 75 _ Ht0.out (bs_one _) (by rw [HDl.out]; simp [bs]) (by rw [HDl.out]; kernel_rfl) ?_; rw [Hw2.out])
    | (refine wpList_make_bs _ rfl (.tmp 16) (.tmp 16) rfl _ _ m rfl rfl rfl rfl (by omega) ?_; intro w3 hm3 hb3; have B3 := B2.trans (hb3.mono hs2); have t3 := Lib.hid (Ht1.out.below hb3 Ht1.out.lt); have Hm3 := Lib.hid hm3; have hm3l := hm3.lt)
    | (refine wpList_copy_splice rfl (.tmp 18) (.tmp 19) 32 32 rfl 5 Tryz.underlying32 (by kernel_rfl) (some ⟨w2.heap.size, 0, none⟩) (some ⟨w1.heap.size, 0, none⟩) m m 32 32 rfl rfl w2.heap.size 0 (bs (List.replicate m 0)) 5 Hm3.out (bs (D.take m)) (by rw [length_bs, Hml.out]; simp only [Nat.min_def]; split <;> omega) (fun _ => ⟨rfl, _, rfl, fun j v hj => by
          simp only [bs, List.getElem?_map, Option.map_eq_some_iff] at hj
          obtain ⟨y, hy, rfl⟩ := hj
          have hy2 : D[j]? = some y := by
            rw [List.getElem?_take] at hy
            split at hy
            · exact hy
            · cases hy
          have := t3.out.cell hy2
          by_cases hj0 : j = 0
          · subst hj0; simpa [Addr.add] using this
          · simpa [Addr.add, hj0] using this⟩) (by rw [length_bs, length_bs, Hml.out, List.length_replicate]; omega) (bs_one _) w.heap.size w B3 hs2 ?_; intro w4 hw4 B4))
  go_ret2
  have hb4 : Bb w4 w2.heap.size 5 (D.take m) := by
    have := hw4.out
    rw [Hspl.out] at this
    exact this
  have hn4 := hb4.nb 0 m m (by rw [Hml.out]; omega) (Nat.le_refl _) (by omega) (hL.take m)
  rw [List.drop_zero, List.take_of_length_le (Nat.le_of_eq Hml.out)] at hn4
  exact ⟨_, _, rfl, hn4, B4⟩
end Go.Proofs.YtkhlmcknbangfaaGreatDoor.Sh
namespace Go.Proofs.YtkhlmcknbangfaaGreatDoor.Sh
open Go.RowKit
set_option linter.unusedVariables false
set_option maxRecDepth 100000

theorem own_shape {w : World} {base e n : Nat} {v : Value} {xs : List Value} (h : w.ownsRow base e 1 v n xs) : ∃ A c, v = .slice A n c := by
  rcases h.2 with ⟨rfl, rfl⟩ | ⟨g, cap, cur, rfl, _⟩
  · exact ⟨_, _, rfl⟩
  · exact ⟨_, _, rfl⟩
theorem run_app_nil {P : Program} (w : World) (base : Nat) (t ty e : TypeId) (i : TypeInfo) (size : Nat) (ht : P.underlying t = some (.slice e)) (hi : P.info? e = some i)
    (v : Value) (n : Nat) (xs : List Value) (hown : w.ownsRow base e size v n xs) (c : Nat) : (Builtin.append_ #[t, t] ty #[v, .slice none 0 c]).run P w = .ok v w := by
  rcases hown.2 with ⟨rfl, rfl⟩ | ⟨g, cap, cur, rfl, _, _, hnc, _⟩
  · simp [Builtin.append_, run_underlying ht, sizeOf, typeInfo, hi, Builtin.lenOf, Builtin.firstCells]
  · simp [Builtin.append_, run_underlying ht, sizeOf, typeInfo, hi, Builtin.lenOf, Builtin.firstCells, hnc, storeCells]
/-- the slice value '.slice A n c' reads as the words xs -/
structure Nw (w : World) (B : Nat) (A : Option Addr) (n c : Nat) (xs : List Nat) : Prop where
  len : xs.length = n
  cap : n ≤ c
  room : c ≤ 9223372036854775807
  lim : Lim 4294967296 xs
  cell : 0 < n → ∃ b off, A = some ⟨b, off, none⟩ ∧ b < B ∧ ∀ j x : Nat, xs[j]? = some x → w.cell? ⟨b, off + j, none⟩ = some (.int .u32 (x : Int))
theorem Nw.at_ {w : World} {B : Nat} {A : Option Addr} {n c : Nat} {xs : List Nat} (h : Nw w B A n c xs) {k : Nat} (hk : k < n) :
    ∃ b off, A = some ⟨b, off, none⟩ ∧ b < B ∧ w.cell? ⟨b, off + k, none⟩ = some (.int .u32 ((xs.getD k 0 : Nat) : Int)) := by
  obtain ⟨b, off, e, hb, hc⟩ := h.cell (by omega)
  have hl : k < xs.length := by rw [h.len]; exact hk
  refine ⟨b, off, e, hb, ?_⟩
  have := hc k xs[k] (List.getElem?_eq_getElem hl)
  rw [this]
  simp [List.getD, List.getElem?_eq_getElem hl]
theorem Nw.keep {w w' : World} {B : Nat} {A : Option Addr} {n c : Nat} {xs : List Nat} (h : Nw w B A n c xs) (hk : ∀ p : Addr, p.block < B → w'.cell? p = w.cell? p) : Nw w' B A n c xs :=
  ⟨h.len, h.cap, h.room, h.lim, fun hn => by
    obtain ⟨b, off, e, hb, hc⟩ := h.cell hn
    exact ⟨b, off, e, hb, fun j x hx => (hk _ hb).trans (hc j x hx)⟩⟩
theorem Nw.more {w : World} {B B' : Nat} {A : Option Addr} {n c : Nat} {xs : List Nat} (h : Nw w B A n c xs) (hB : B ≤ B') : Nw w B' A n c xs :=
  ⟨h.len, h.cap, h.room, h.lim, fun hn => by
    obtain ⟨b, off, e, hb, hc⟩ := h.cell hn
    exact ⟨b, off, e, by omega, hc⟩⟩
theorem Nw.below {w w' : World} {B : Nat} {A : Option Addr} {n c : Nat} {xs : List Nat} (h : Nw w B A n c xs) (hb : Below B w w') : Nw w' B A n c xs := h.keep fun _ hp => hb.cell hp
theorem Nw.olds {w : World} {B n c : Nat} {ad : Addr} {xs : List Nat} (h : Nw w B (some ad) n c xs) : ∀ j u, (wv xs)[j]? = some u → w.cell? (ad.add j) = some u := by
  intro j u hj
  simp only [wv, List.getElem?_map, Option.map_eq_some_iff] at hj
  obtain ⟨y, hy, rfl⟩ := hj
  have hjn : j < n := by
    rw [← h.len]
    rcases Nat.lt_or_ge j xs.length with h' | h'
    · exact h'
    · rw [List.getElem?_eq_none h'] at hy; cases hy
  obtain ⟨b, off, e, _, hc⟩ := h.cell (by omega)
  cases e
  by_cases hj0 : j = 0
  · subst hj0; simpa [Addr.add] using hc 0 y hy
  · simpa [Addr.add, hj0] using hc j y hy
theorem ownsRow_nw {w : World} {base n : Nat} {v : Value} {xs : List Nat} (hl : xs.length = n) (hL : Lim 4294967296 xs) (h : w.ownsRow base 80 1 v n (wv xs)) : ∃ A c, v = .slice A n c ∧ Nw w w.heap.size A n c xs := by
  rcases h.2 with ⟨rfl, he⟩ | ⟨g, cap, cur, rfl, hg, hheap, hnc, hcm, hcs, hx⟩
  · subst he
    exact ⟨_, _, rfl, hl, Nat.zero_le _, Nat.zero_le _, hL, fun h => absurd h (Nat.lt_irrefl _)⟩
  · refine ⟨_, _, rfl, hl, hnc, hcm, hL, fun h0 => ⟨g, 0, rfl, ?_, fun j x hj => ?_⟩⟩
    · rcases Nat.lt_or_ge g w.heap.size with hlt | hge
      · exact hlt
      · rw [Array.getElem?_eq_none hge] at hheap; cases hheap
    · rw [cell_of_row w g _ cur 80 (0, 0) hheap, Nat.zero_add]
      have : (List.take (n * 1) cur.toList)[j]? = some (.int .u32 (x : Int)) := by rw [hx]; simp [wv, hj]
      rw [List.getElem?_take] at this
      split at this
      · simpa using this
      · cases this
theorem Tryz.info5' : (Tryz.prog.info? 5).map (fun i => (i.zero, i.size, i.bytes)) = some (some (.int .u8 0), 1, 1) := by kernel_rfl
/-- a row of the call's own, blocks from base on -/
def Gb (w : World) (base : Nat) (A : Option Addr) (n c : Nat) (xs : List Nat) : Prop := xs.length = n ∧ w.ownsRow base 5 1 (.slice A n c) n (bs xs)
theorem Gb.nil (w : World) (base : Nat) : Gb w base none 0 0 [] := ⟨rfl, World.ownsRow_nil w base 5 1⟩
theorem bs_append (xs ys : List Nat) : bs (xs ++ ys) = bs xs ++ bs ys := by simp [bs]
theorem wpList_app_b (w : World) {ops : Array Oper} {rest : List Oper} {o : Oper} {a : Act} {Q : Exit → Act → World → Prop} (hgd : o.guard = none) (s x : Operand)
    (ho : o.op = .call { callee := .builtin .append, args := #[s, x], argTypes := #[32, 32] }) {base n c g y : Nat} {A : Option Addr} {xs : List Nat} {w0 : World}
    (hs : a.eval s = .slice A n c) (hown : Gb w base A n c xs) (hx : a.eval x = .slice (some ⟨g, 0, none⟩) 1 1) (hc : w.cell? ⟨g, 0, none⟩ = some (.int .u8 (y : Int)))
    (hn : n ≤ 1099511627776) (hb : Below base w0 w) (hbase : base ≤ w.heap.size)
    (h : ∀ A' c' w', Gb w' base A' (n + 1) c' (xs ++ [y]) → Below base w0 w' → wpList Tryz.prog ops Q rest (a.put o.dst (.slice A' (n + 1) c')) w') : wpList Tryz.prog ops Q (o :: rest) a w := by
  obtain ⟨i0, hi, hz0, hz1, hz2⟩ := info_parts Tryz.info5'
  refine wpList_append_own w hgd s x 32 ho base 5 i0 (.int .u8 0) 1 1 Tryz.underlying32 hi hz0 hz1 hz2 rfl (by decide) _ n (bs xs) hs hown.2 ⟨g, 0, none⟩ 1 1 [.int .u8 (y : Int)] hx rfl ?_ ?_ (by unfold maxLen; omega) (by omega) hbase ?_
  · intro j u hj
    match j, hj with
    | 0, hj => simp at hj; subst hj; simpa [Addr.add] using hc
  · intro u hu; simp at hu; subst hu; rfl
  · intro v' w' hown' hgrow _
    obtain ⟨A', c', rfl⟩ := own_shape hown'
    refine h A' c' w' ⟨by simp [hown.1], by rw [bs_append]; exact hown'⟩ (hb.grown hgrow hbase fun k hk => (hown.2.lt k hk).1)
/-- a row behind it -/
theorem wpList_app_row_b (w : World) {ops : Array Oper} {rest : List Oper} {o : Oper} {a : Act} {Q : Exit → Act → World → Prop} (hgd : o.guard = none) (s x : Operand)
    (ho : o.op = .call { callee := .builtin .append, args := #[s, x], argTypes := #[32, 32] }) {base n c B m c2 : Nat} {A A2 : Option Addr} {xs ys : List Nat} {w0 : World}
    (hs : a.eval s = .slice A n c) (hown : Gb w base A n c xs) (hx : a.eval x = .slice A2 m c2) (hr : Nb w B A2 m c2 ys)
    (hn : n + m ≤ 1099511627776) (hb : Below base w0 w) (hbase : base ≤ w.heap.size)
    (h : ∀ A' c' w', Gb w' base A' (n + m) c' (xs ++ ys) → Below base w0 w' → wpList Tryz.prog ops Q rest (a.put o.dst (.slice A' (n + m) c')) w') : wpList Tryz.prog ops Q (o :: rest) a w := by
  obtain ⟨i0, hi, hz0, hz1, hz2⟩ := info_parts Tryz.info5'
  rcases A2 with _ | ad
  · have hm : m = 0 := by
      rcases Nat.eq_zero_or_pos m with h0 | h0
      · exact h0
      · obtain ⟨b, off, e, _⟩ := hr.cell h0
        cases e
    subst hm
    have hy : ys = [] := List.eq_nil_of_length_eq_zero hr.len
    subst hy
    refine wpList_plain hgd fun K hK => ?_
    have hrun := run_app_nil (P := Tryz.prog) w base 32 o.type 5 i0 1 Tryz.underlying32 hi (.slice A n c) n (bs xs) hown.2 c2
    unfold Oper.wp
    simp [execOp, ho, resolve, invoke, builtin, hs, hx, hrun, Result.andThen]
    exact hK _ _ (h A c w (by simpa using hown) hb)
  · refine wpList_append_own w hgd s x 32 ho base 5 i0 (.int .u8 0) 1 1 Tryz.underlying32 hi hz0 hz1 hz2 rfl (by decide) _ n (bs xs) hs hown.2 ad m c2 (bs ys) hx (by simp [bs, hr.len]) ?_ (bs_one ys) (by unfold maxLen; omega) (by omega) hbase ?_
    · exact Nb.olds hr
    · intro v' w' hown' hgrow _
      obtain ⟨A', c', rfl⟩ := own_shape hown'
      refine h A' c' w' ⟨by simp [hown.1, hr.len], by rw [bs_append]; exact hown'⟩ (hb.grown hgrow hbase fun k hk => (hown.2.lt k hk).1)
theorem Gb.alloc {w : World} {base : Nat} {A : Option Addr} {n c : Nat} {xs : List Nat} (h : Gb w base A n c xs) (o : Obj) : Gb (w.alloc o) base A n c xs := ⟨h.1, h.2.alloc o⟩

theorem Tryz.info80' : (Tryz.prog.info? 80).map (fun i => (i.zero, i.size, i.bytes)) = some (some (.int .u32 0), 1, 4) := by kernel_rfl
/-- a row of the call's own, blocks from base on -/
def Gw (w : World) (base : Nat) (A : Option Addr) (n c : Nat) (xs : List Nat) : Prop := xs.length = n ∧ w.ownsRow base 80 1 (.slice A n c) n (wv xs)
theorem Gw.nil (w : World) (base : Nat) : Gw w base none 0 0 [] := ⟨rfl, World.ownsRow_nil w base 80 1⟩
theorem wv_append (xs ys : List Nat) : wv (xs ++ ys) = wv xs ++ wv ys := by simp [wv]


theorem Gw.alloc {w : World} {base : Nat} {A : Option Addr} {n c : Nat} {xs : List Nat} (h : Gw w base A n c xs) (o : Obj) : Gw (w.alloc o) base A n c xs := ⟨h.1, h.2.alloc o⟩

theorem Gb.nb {w : World} {base n c : Nat} {A : Option Addr} {xs : List Nat} (h : Gb w base A n c xs) (hL : Lim 256 xs) : Nb w w.heap.size A n c xs := by
  obtain ⟨A', c', e, h'⟩ := ownsRow_nb h.1 hL h.2
  cases e
  exact h'
theorem Gb.new {w : World} {base n c : Nat} {A : Option Addr} {xs : List Nat} (h : Gb w base A n c xs) (h0 : 0 < n) : ∃ g off, A = some ⟨g, off, none⟩ ∧ base ≤ g := by
  rcases h.2.2 with ⟨_, he⟩ | ⟨g, cap, cur, e, hg, _⟩
  · omega
  · cases e; exact ⟨g, 0, rfl, hg⟩
theorem Gw.nw {w : World} {base n c : Nat} {A : Option Addr} {xs : List Nat} (h : Gw w base A n c xs) (hL : Lim 4294967296 xs) : Nw w w.heap.size A n c xs := by
  obtain ⟨A', c', e, h'⟩ := ownsRow_nw h.1 hL h.2
  cases e
  exact h'

/-- a copy in new memory -/
def CopyIs (xs : List Nat) (n : Nat) (w : World) (e : Ending) (w' : World) : Prop := ∃ A' c', e = .returned (.slice A' n c') ∧ Nb w' w'.heap.size A' n c' xs ∧ (0 < n → ∃ g off, A' = some ⟨g, off, none⟩ ∧ w.heap.size ≤ g) ∧ Below w.heap.size w w'
set_option maxHeartbeats 1000000 in
theorem clone_any {w : World} {A : Option Addr} {n c : Nat} {xs : List Nat} (h : Nb w w.heap.size A n c xs) (hn : n ≤ 1099511627776) : Calls Tryz.prog 165 #[.slice A n c] w (CopyIs xs n w) := by
  have hr := h.room
  have hc := h.cap
  have q22 : ∀ (w : World) (a : Option Addr) (n c n' c' : Nat), (binOp .eql 32 (.slice a n c) (.slice none n' c')).run Tryz.prog w = .ok (.bool a.isNone) w := fun w a n c n' c' => Lib.run_eql_slice_nil w _ _ a n c n' c' Tryz.underlying32
  rcases A with _ | ad
  · have hm : n = 0 := by
      rcases Nat.eq_zero_or_pos n with h0 | h0
      · exact h0
      · obtain ⟨b, off, e, _⟩ := h.cell h0
        cases e
    subst hm
    go_enter Tryz.func165, Tryz.ntmps165
    go_wp2
    go_ret
    exact ⟨_, _, rfl, ⟨h.len, Nat.le_refl _, Nat.zero_le _, h.lim, fun h0 => absurd h0 (Nat.lt_irrefl _)⟩, fun h0 => absurd h0 (Nat.lt_irrefl _), Below.refl _ _⟩
  · have hown : Gb (w.alloc (Yb 5 [])) w.heap.size (some ⟨w.heap.size, 0, none⟩) 0 0 [] := ⟨rfl, World.ownsRow_made w _ 0 (Nat.le_refl _) (Nat.zero_le _) rfl⟩
    have hb1 : Below w.heap.size w (w.alloc (Yb 5 [])) := (Below.refl _ _).alloc (Nat.le_refl _) _
    go_enter Tryz.func165, Tryz.ntmps165
    go_wp2_with (change wpList _ _ _ _ _ (w.alloc (Yb 5 [])); refine wpList_app_row_b _ rfl (.tmp 5) (.tmp 6) rfl rfl hown rfl (h.below hb1) (by omega) hb1 (by simp) ?_; intro A3 c3 w3 hG3 hB3)
    go_ret
    rw [Nat.zero_add] at *
    rw [List.nil_append] at hG3
    exact ⟨_, _, rfl, hG3.nb h.lim, fun h0 => hG3.new h0, hB3⟩
end Go.Proofs.YtkhlmcknbangfaaGreatDoor.Sh
namespace Go.Proofs.YtkhlmcknbangfaaGreatDoor.Sh
open Go.RowKit
set_option linter.unusedVariables false
set_option maxRecDepth 100000

theorem below_write {n0 : Nat} {W0 w w' : World} {g : Nat} (B : Below n0 W0 w) (q : w.grownBy w' (some g)) (hg : n0 ≤ g) (hn : n0 ≤ W0.heap.size) : Below n0 W0 w' :=
  B.trans ⟨q.os, q.tape, q.output, q.size, fun i hi => q.block i (by have := B.size; omega) (by simp; omega)⟩
theorem Nb.far {W w : World} {A : Option Addr} {n c : Nat} {xs : List Nat} (h : Nb W W.heap.size A n c xs) (B : Below W.heap.size W w) : Nb w w.heap.size A n c xs := (h.below B).more B.size
theorem grown_setCell (w : World) (p : Addr) (v : Value) : w.grownBy (w.setCell p v) (some p.block) :=
  ⟨rfl, rfl, rfl, by simp [World.setCell], fun i hi hne => Below.heap_setCell w p v i (by rintro rfl; exact hne rfl)⟩
theorem Nb.kept {w w' : World} {B n c : Nat} {A : Option Addr} {xs : List Nat} {q : Nat} (h : Nb w B A n c xs) (hB : B ≤ w.heap.size) (hne : 0 < n → ∃ r off, A = some ⟨r, off, none⟩ ∧ r ≠ q) (hg : w.grownBy w' (some q)) : Nb w' B A n c xs :=
  ⟨h.len, h.cap, h.room, h.lim, fun h0 => by
    obtain ⟨b, o, e, hb, hc⟩ := h.cell h0
    obtain ⟨r, off, e', hr⟩ := hne h0
    subst e
    cases e'
    exact ⟨b, o, rfl, hb, fun j x hx => (cell_of_block (hg.block b (by omega) (by simpa using hr))).trans (hc j x hx)⟩⟩
theorem then_ {W w w' : World} (B : Below W.heap.size W w) (b : Below w.heap.size w w') : Below W.heap.size W w' := B.trans (b.mono B.size)

end Go.Proofs.YtkhlmcknbangfaaGreatDoor.Sh
namespace Go.Proofs.YtkhlmcknbangfaaGreatDoor.Sh
open Go.RowKit
set_option linter.unusedVariables false
set_option maxRecDepth 100000

theorem elem22 : Tryz.prog.elem 32 = 5 := by kernel_rfl
theorem und22 : Tryz.prog.underlying 32 = some (.slice (Tryz.prog.elem 32)) := by rw [elem22]; exact Tryz.underlying32
theorem size5 (W : World) : (sizeOf (Tryz.prog.elem 32)).run Tryz.prog W = .ok 1 W := by rw [elem22]; kernel_rfl
theorem cut_nb {w : World} {B n c : Nat} {A : Option Addr} {xs : List Nat} (h : Nb w B A n c xs) (i k : Nat) (hik : i ≤ k) (hkn : k ≤ n) :
    Nb w B (if c = i then A else A.map (·.add (i * 1))) (k - i) (c - i) ((xs.drop i).take (k - i)) := by
  have hc := h.cap
  have hr := h.room
  by_cases h0 : k - i = 0
  · rw [h0, List.take_zero]
    exact Nb.nil w B (c - i) (by omega) _
  · obtain ⟨b, off, rfl, hb, -⟩ := h.cell (by omega)
    have := h.part rfl i (k - i) (c - i) (by omega) (by omega) (by omega)
    rw [if_neg (by omega)]
    by_cases hi : i = 0
    · subst hi; simpa [Addr.add] using this
    · simpa [Addr.add, hi] using this
theorem cut_lh {w : World} {B n c : Nat} {A : Option Addr} {xs : List Nat} (h : Nb w B A n c xs) (i k : Nat) (hik : i ≤ k) (hkn : k ≤ n) :
    ∃ A' c', (∀ W, (Instr.sliceAt 32 (.slice A n c) (some (.int .i64 (i : Int))) (some (.int .i64 (k : Int))) none).run Tryz.prog W = .ok (.slice A' (k - i) c') W) ∧ Nb w B A' (k - i) c' ((xs.drop i).take (k - i)) := by
  have hc := h.cap
  refine ⟨_, _, fun W => ?_, cut_nb h i k hik hkn⟩
  rw [run_sliceAt_slice W 32 _ _ _ _ und22, run_slice_lh W 32 A n c und22 .i64 .i64 i k (by omega) (by omega) (by omega), size5]
  simp [Result.andThen, sliced]
theorem cut_h {w : World} {B n c : Nat} {A : Option Addr} {xs : List Nat} (h : Nb w B A n c xs) (k : Nat) (hkn : k ≤ n) :
    ∃ A' c', (∀ W, (Instr.sliceAt 32 (.slice A n c) none (some (.int .i64 (k : Int))) none).run Tryz.prog W = .ok (.slice A' k c') W) ∧ Nb w B A' k c' (xs.take k) := by
  have hc := h.cap
  have hn := cut_nb h 0 k (by omega) hkn
  rw [Nat.sub_zero, List.drop_zero, Nat.sub_zero] at hn
  refine ⟨_, _, fun W => ?_, hn⟩
  rw [run_sliceAt_slice W 32 _ _ _ _ und22, run_slice_h W 32 A n c und22 .i64 k (by omega) (by omega), size5]
  simp [Result.andThen, sliced]
theorem cut_l {w : World} {B n c : Nat} {A : Option Addr} {xs : List Nat} (h : Nb w B A n c xs) (i : Nat) (hin : i ≤ n) :
    ∃ A' c', (∀ W, (Instr.sliceAt 32 (.slice A n c) (some (.int .i64 (i : Int))) none none).run Tryz.prog W = .ok (.slice A' (n - i) c') W) ∧ Nb w B A' (n - i) c' (xs.drop i) := by
  have hc := h.cap
  have hn := cut_nb h i n hin (Nat.le_refl _)
  rw [List.take_of_length_le (by rw [List.length_drop, h.len]; omega)] at hn
  refine ⟨_, _, fun W => ?_, hn⟩
  rw [run_sliceAt_slice W 32 _ _ _ _ und22, run_slice_l W 32 A n c und22 .i64 i (by omega) (by omega), size5]
  simp [Result.andThen, sliced]
end Go.Proofs.YtkhlmcknbangfaaGreatDoor.Sh
namespace Go.Proofs.YtkhlmcknbangfaaGreatDoor.Sh
open Go.RowKit
set_option linter.unusedVariables false
set_option maxRecDepth 100000

/-- the text of some bytes -/
def bstr (xs : List Nat) : ByteArray := strOfNums (xs.map fun x : Nat => (x : Int))
theorem conv_bb {w : World} {g : Nat} {xs : List Nat} (h : Bb w g 5 xs) (n c : Nat) (hn : n ≤ xs.length) : (convert 32 9 (.slice (some ⟨g, 0, none⟩) n c)).run Tryz.prog w = .ok (.string (bstr (xs.take n))) w := by
  have h9 : Tryz.prog.underlying 9 = some .string := by kernel_rfl
  refine run_convert_bytes_arg w 32 5 Tryz.underlying32 Tryz.underlying5 g 0 n c ((xs.take n).map fun x : Nat => (x : Int)) (by simp; omega) (fun i hi => ?_) 9 h9
  have hc := h.cellD (j := i) (by omega)
  have hl : i < xs.length := by omega
  rw [Nat.zero_add, hc]
  simp [List.getD, hi, List.getElem?_eq_getElem hl]
theorem conv_nb {w : World} {B n c b off : Nat} {xs : List Nat} (h : Nb w B (some ⟨b, off, none⟩) n c xs) : (convert 32 9 (.slice (some ⟨b, off, none⟩) n c)).run Tryz.prog w = .ok (.string (bstr xs)) w := by
  have h9 : Tryz.prog.underlying 9 = some .string := by kernel_rfl
  refine run_convert_bytes_arg w 32 5 Tryz.underlying32 Tryz.underlying5 b off n c (xs.map fun x : Nat => (x : Int)) (by simp [h.len]) (fun i hi => ?_) 9 h9
  obtain ⟨b', off', e, _, hc⟩ := h.at_ hi
  cases e
  rw [hc]
  have : i < xs.length := by rw [h.len]; exact hi
  simp [List.getD, List.getElem?_eq_getElem this]
end Go.Proofs.YtkhlmcknbangfaaGreatDoor.Sh
namespace Go.Proofs.YtkhlmcknbangfaaGreatDoor.Sh
open Go.RowKit
set_option linter.unusedVariables false
set_option maxRecDepth 100000

theorem Wb.nw {w : World} {g : Nat} {xs : List Nat} (h : Wb w g 80 xs) (n : Nat) (hn : xs.length = n) (hm : n ≤ 1000) (hL : Lim 4294967296 xs) : Nw w w.heap.size (some ⟨g, 0, none⟩) n n xs :=
  ⟨hn, Nat.le_refl _, by omega, hL, fun h0 => ⟨g, 0, rfl, h.lt, fun j x hj => by
    have hl : j < xs.length := by
      rcases Nat.lt_or_ge j xs.length with h' | h'
      · exact h'
      · rw [List.getElem?_eq_none h'] at hj; cases hj
    have := h.cell (j := j) hl
    rw [Nat.zero_add, this]
    simp [List.getD, hj]⟩⟩


/-- the padded text, as far as it is laid -/
theorem sub_z (n z : Nat) (hz : (119 - n % 64) % 64 = z) (k : Nat) (hk : k ≤ z) : ((n + 1 + k : Nat) : Int) % 64 = 56 ↔ k = z := by omega
theorem by8_at (N k : Nat) (hk : k < 8) : (by8 N).take (k + 1) = (by8 N).take k ++ [(by8 N).getD k 0] := by
  have hl : k < (by8 N).length := hk
  rw [List.take_succ_eq_append_getElem hl]
  simp [List.getD, List.getElem?_eq_getElem hl]
theorem by8_int (N k : Nat) (hk : k < 8) (hN : N < 9223372036854775808) : ((N : Int) / 2 ^ (8 * (7 - k))) % 256 = (((by8 N).getD k 0 : Nat) : Int) := by
  have := by8_get N (7 - k) (by omega)
  rw [this]
  congr 2
  omega

end Go.Proofs.YtkhlmcknbangfaaGreatDoor.Sh
namespace Go.Proofs.YtkhlmcknbangfaaGreatDoor.Sh
open Go.RowKit
set_option linter.unusedVariables false
set_option maxRecDepth 100000
attribute [local go_sem] bits_wx bits_wa bits_wo bits_wn add_ad wrap_ad div_8 div_1024

section
variable {P : Program} {ops : Array Oper} {Q : Exit → Act → World → Prop} {md : Region.Mode}
theorem take_op {i d : Nat} {o : Oper} {v : Value} {fuel : Nat} {listed : Array Bool} {a a' : Act} {w : World} (hi : ops[i]? = some o)
    (hs : Region.noSelect ops = true) (hf : Region.free md ops listed i = true) (hr : (Region.ready md ops listed).contains i = true)
    (hQ : ∀ c a w, Q (.panic c) (a.put (some d) v) w → Q (.panic c) a w) (hdst : o.dst = some d)
    (hw : Region.wanted o (yielded ops a.tmps) = true) (hy : ∀ w, (execOp a.eval o).run P w = .ok (.value v) w) (hd : a.put (some d) v = a')
    (g : wpAny P md ops Q fuel (listed.setIfInBounds i true) a' w) : wpAny P md ops Q (fuel + 1) listed a w :=
  wpAny_take hi hs hf hr (by rw [hdst]; exact hQ) (Or.inl ⟨hw, hy⟩) (by rw [hdst, hd]; exact g)
end


/-- a word, as far as its bytes are read -/
def acc (a b c d : Nat) : Nat → Nat
  | 0 => 0
  | 1 => a
  | 2 => a * 256 + b
  | 3 => (a * 256 + b) * 256 + c
  | _ => word a b c d
theorem sched1_succ (p : List Nat) (t : Nat) : sched1 p (t + 1) = sched1 p t ++ [wordAt p t] := by rw [sched1]
theorem gw_drew {w : World} {base n c : Nat} {A : Option Addr} {xs : List Nat} (h : Gw w base A n c xs) : Gw w.drew base A n c xs := h
theorem gw_drewN {w : World} {base n c : Nat} {A : Option Addr} {xs : List Nat} (h : Gw w base A n c xs) (q : Nat) : Gw (w.drewN q) base A n c xs := h

end Go.Proofs.YtkhlmcknbangfaaGreatDoor.Sh
namespace Go.Proofs.YtkhlmcknbangfaaGreatDoor.Sh
open Go.RowKit
set_option linter.unusedVariables false
set_option maxRecDepth 100000

/-- block g begins with the eight words xs -/
def Vw (w : World) (g : Nat) (xs : List Nat) : Prop := ∃ cur : Array Value, w.heap[g]? = some (.cells cur 80 (0, 0)) ∧ cur.toList.take 8 = wv xs ∧ xs.length = 8
theorem Vw.lt {w : World} {g : Nat} {xs : List Nat} (h : Vw w g xs) : g < w.heap.size := by
  obtain ⟨cur, h1, _⟩ := h
  rcases Nat.lt_or_ge g w.heap.size with hlt | hge
  · exact hlt
  · rw [Array.getElem?_eq_none hge] at h1; cases h1
theorem Vw.cell {w : World} {g : Nat} {xs : List Nat} (h : Vw w g xs) {j : Nat} (hj : j < 8) : w.cell? ⟨g, j, none⟩ = some (.int .u32 ((xs.getD j 0 : Nat) : Int)) := by
  obtain ⟨cur, h1, h2, h3⟩ := h
  rw [cell_of_row w g j cur 80 (0, 0) h1]
  have : (cur.toList.take 8)[j]? = (wv xs)[j]? := by rw [h2]
  rw [List.getElem?_take, if_pos hj] at this
  have e : cur[j]? = cur.toList[j]? := by simp
  rw [e, this]
  have hl : j < xs.length := by omega
  simp [wv, List.getD, List.getElem?_eq_getElem hl]
theorem Vw.frozen {w : World} {g : Nat} {xs : List Nat} (h : Vw w g xs) (j : Nat) : w.frozen? ⟨g, j, none⟩ = false := by
  obtain ⟨cur, h1, _⟩ := h
  simp [World.frozen?, h1]
theorem Vw.set_ {w : World} {g : Nat} {xs : List Nat} (h : Vw w g xs) (j x : Nat) : Vw (w.setCell ⟨g, j, none⟩ (.int .u32 (x : Int))) g (xs.set j x) := by
  obtain ⟨cur, h1, h2, h3⟩ := h
  refine ⟨cur.setIfInBounds j (.int .u32 (x : Int)), ?_, ?_, by simp [h3]⟩
  · simp [World.setCell, Array.getElem?_modify, h1]
  · rw [Array.toList_setIfInBounds, List.take_set, h2]
    simp [wv]
theorem Vw.drewN {w : World} {g : Nat} {xs : List Nat} (h : Vw w g xs) (q : Nat) : Vw (w.drewN q) g xs := h
theorem Vw.drew {w : World} {g : Nat} {xs : List Nat} (h : Vw w g xs) : Vw w.drew g xs := h
theorem Vw.other {w : World} {g : Nat} {xs : List Nat} (h : Vw w g xs) {p : Addr} (hp : p.block ≠ g) (v : Value) : Vw (w.setCell p v) g xs := by
  obtain ⟨cur, h1, h2⟩ := h
  exact ⟨cur, (Below.heap_setCell w p v g (fun e => hp e.symm)).trans h1, h2⟩
theorem Vw.below {w w' : World} {B g : Nat} {xs : List Nat} (h : Vw w g xs) (hb : Below B w w') (hg : g < B) : Vw w' g xs := by
  obtain ⟨cur, h1, h2⟩ := h
  exact ⟨cur, (hb.block g hg).trans h1, h2⟩
theorem Gw.vw {w : World} {base c : Nat} {A : Option Addr} {xs : List Nat} (h : Gw w base A 8 c xs) : ∃ g, A = some ⟨g, 0, none⟩ ∧ base ≤ g ∧ Vw w g xs ∧ 8 ≤ c := by
  rcases h.2.2 with ⟨he, _⟩ | ⟨g, cap, cur, e, hg, hh, hn, hm, hs, ht⟩
  · cases he
  · cases e
    exact ⟨g, rfl, hg, ⟨cur, hh, by simpa using ht, h.1⟩, hn⟩
theorem nw_drewN {w : World} {B n c : Nat} {A : Option Addr} {xs : List Nat} (h : Nw w B A n c xs) (q : Nat) : Nw (w.drewN q) B A n c xs := ⟨h.len, h.cap, h.room, h.lim, h.cell⟩
theorem nw_other {w : World} {B n c g : Nat} {A : Option Addr} {xs : List Nat} (h : Nw w B A n c xs) (hg : B ≤ g) (j : Nat) (v : Value) : Nw (w.setCell ⟨g, j, none⟩ v) B A n c xs :=
  h.keep fun p hp => (((Below.refl B w).setCell (p := ⟨g, j, none⟩) hg v).cell hp)

/-- the words of a state, those behind place i moved on -/
def moved (ws : List Nat) (i : Nat) : List Nat := ws.take (i + 1) ++ (ws.drop i).take (7 - i)
theorem words_8 (s : St) : (words s).length = 8 := rfl
theorem moved_7 (s : St) : moved (words s) 7 = words s := rfl
theorem moved_step (s : St) (i : Nat) (h1 : 1 ≤ i) (h2 : i ≤ 7) : (moved (words s) i).set i ((moved (words s) i).getD (i - 1) 0) = moved (words s) (i - 1) := by
  have hh : i = 1 ∨ i = 2 ∨ i = 3 ∨ i = 4 ∨ i = 5 ∨ i = 6 ∨ i = 7 := by omega
  rcases hh with rfl | rfl | rfl | rfl | rfl | rfl | rfl <;> rfl
theorem moved_done (s : St) (k w : Nat) : ((moved (words s) 0).set 0 (ad (t1 s k w) (t2 s))).set 4 (ad ((moved (words s) 0).getD 4 0) (t1 s k w)) = words (rnd s k w) := rfl
/-- the first i words of the sum, the others as they were -/
def plusN (x y : St) (i : Nat) : List Nat := (words (plus x y)).take i ++ (words x).drop i
theorem plusN_0 (x y : St) : plusN x y 0 = words x := rfl
theorem plusN_8 (x y : St) : plusN x y 8 = words (plus x y) := rfl
theorem plusN_step (x y : St) (i : Nat) (h : i < 8) : (plusN x y i).set i (ad ((plusN x y i).getD i 0) ((words y).getD i 0)) = plusN x y (i + 1) := by
  have hh : i = 0 ∨ i = 1 ∨ i = 2 ∨ i = 3 ∨ i = 4 ∨ i = 5 ∨ i = 6 ∨ i = 7 := by omega
  rcases hh with rfl | rfl | rfl | rfl | rfl | rfl | rfl | rfl <;> rfl
end Go.Proofs.YtkhlmcknbangfaaGreatDoor.Sh
namespace Go.Proofs.YtkhlmcknbangfaaGreatDoor.Sh
open Go.RowKit
set_option linter.unusedVariables false
set_option maxRecDepth 100000
attribute [local go_sem] bits_wx bits_wa bits_wo bits_wn bits_wn2 add_ad wrap_ad div_8 div_1024

/-- what is known while the blocks are gone through -/
structure At (W : World) (w : World) (base gk gh R : Nat) (A5 : Option Addr) (L c5 : Nat) (T : List Nat) : Prop where
  kk_ : Wb w gk 80 kk
  text : Nb w base A5 L c5 T
  out : Bb w R 75 (List.replicate 32 0)
  bel : Below W.heap.size W w
  hk : gk < base
  hR : R < base
  hb : base ≤ w.heap.size
  hh : gh < w.heap.size
  hW : W.heap.size ≤ R
  hWk : W.heap.size ≤ gk
  nh : gh ≠ gk
  nR : gh ≠ R
  nT : ∃ g off, A5 = some ⟨g, off, none⟩ ∧ g ≠ gh
  hg : gh < base
theorem At.far {W w w' : World} {base gk gh R : Nat} {A5 : Option Addr} {L c5 : Nat} {T : List Nat} (h : At W w base gk gh R A5 L c5 T) (b : Below w.heap.size w w') : At W w' base gk gh R A5 L c5 T := by
  have h1 := h.hk
  have h2 := h.hR
  have h3 := h.hb
  have h4 := b.size
  exact ⟨h.kk_.below b (by omega), h.text.keep fun p hp => b.cell (by omega), h.out.below b (by omega), h.bel.trans (b.mono h.bel.size), h.hk, h.hR, by omega, by have := h.hh; omega, h.hW, h.hWk, h.nh, h.nR, h.nT, h.hg⟩
theorem At.drewN {W w : World} {base gk gh R : Nat} {A5 : Option Addr} {L c5 : Nat} {T : List Nat} (h : At W w base gk gh R A5 L c5 T) (q : Nat) : At W (w.drewN q) base gk gh R A5 L c5 T :=
  ⟨h.kk_.drewN q, h.text.drewN q, h.out.drewN q, below_drewN h.bel q, h.hk, h.hR, h.hb, h.hh, h.hW, h.hWk, h.nh, h.nR, h.nT, h.hg⟩
theorem size_setCell' (w : World) (p : Addr) (v : Value) : (w.setCell p v).heap.size = w.heap.size := by simp [World.setCell]
theorem At.setv {W w : World} {base gk gh R : Nat} {A5 : Option Addr} {L c5 : Nat} {T : List Nat} (h : At W w base gk gh R A5 L c5 T) {g : Nat} (hg : base ≤ g) (j : Nat) (v : Value) : At W (w.setCell ⟨g, j, none⟩ v) base gk gh R A5 L c5 T := by
  have b : Below base w (w.setCell ⟨g, j, none⟩ v) := (Below.refl _ _).setCell (p := ⟨g, j, none⟩) hg v
  have h1 := h.hk
  have h2 := h.hR
  have hs := size_setCell' w ⟨g, j, none⟩ v
  exact ⟨h.kk_.below b h1, h.text.below b, h.out.below b h2, h.bel.setCell (p := ⟨g, j, none⟩) (by have := h.hW; show W.heap.size ≤ g; omega) v, h.hk, h.hR, by rw [hs]; exact h.hb, by rw [hs]; exact h.hh, h.hW, h.hWk, h.nh, h.nR, h.nT, h.hg⟩
theorem At.seth {W w : World} {base gk gh R : Nat} {A5 : Option Addr} {L c5 : Nat} {T : List Nat} (h : At W w base gk gh R A5 L c5 T) (j : Nat) (v : Value) (hW : W.heap.size ≤ gh) : At W (w.setCell ⟨gh, j, none⟩ v) base gk gh R A5 L c5 T := by
  have hs := size_setCell' w ⟨gh, j, none⟩ v
  obtain ⟨g, off, e, hne⟩ := h.nT
  exact ⟨h.kk_.other (p := ⟨gh, j, none⟩) h.nh v, h.text.kept (q := gh) h.hb (fun _ => ⟨g, off, e, hne⟩) (grown_setCell w ⟨gh, j, none⟩ v), (Below.heap_setCell w ⟨gh, j, none⟩ v R (fun e => h.nR e.symm)).trans h.out, h.bel.setCell (p := ⟨gh, j, none⟩) hW v, h.hk, h.hR, by rw [hs]; exact h.hb, by rw [hs]; exact h.hh, h.hW, h.hWk, h.nh, h.nR, h.nT, h.hg⟩
theorem length_dig (s : St) : (dig s).length = 32 := rfl
theorem dig_get (s : St) (q r : Nat) (hq : q < 8) (hr : r < 4) : (dig s).getD (4 * q + r) 0 = (by4 ((words s).getD q 0)).getD r 0 := by
  have h1 : q = 0 ∨ q = 1 ∨ q = 2 ∨ q = 3 ∨ q = 4 ∨ q = 5 ∨ q = 6 ∨ q = 7 := by omega
  have h2 : r = 0 ∨ r = 1 ∨ r = 2 ∨ r = 3 := by omega
  rcases h1 with rfl | rfl | rfl | rfl | rfl | rfl | rfl | rfl <;> rcases h2 with rfl | rfl | rfl | rfl <;> rfl
theorem dig_put (s : St) (i : Nat) (h : i < 32) : ((dig s).take i ++ List.replicate (32 - i) 0).set i ((dig s).getD i 0) = (dig s).take (i + 1) ++ List.replicate (32 - (i + 1)) 0 := by
  have hl : i < (dig s).length := by rw [length_dig]; exact h
  have ht : ((dig s).take i).length = i := by rw [List.length_take, length_dig]; omega
  rw [List.set_append, if_neg (by omega), ht, Nat.sub_self, show 32 - i = (32 - (i + 1)) + 1 by omega, List.replicate_succ, List.set_cons_zero, List.take_succ_eq_append_getElem hl, List.append_assoc]
  congr 1
  simp [List.getD, List.getElem?_eq_getElem hl]
theorem Lim.words {s : St} (h : s.Ok) : Lim 4294967296 (words s) := by
  intro x hx
  simp only [Go.Proofs.YtkhlmcknbangfaaGreatDoor.Sh.words, List.mem_cons, List.not_mem_nil, or_false] at hx
  obtain ⟨h0, h1, h2, h3, h4, h5, h6, h7⟩ := h
  omega

end Go.Proofs.YtkhlmcknbangfaaGreatDoor.Sh
namespace Go.Proofs.YtkhlmcknbangfaaGreatDoor.Sh
open Go.RowKit
set_option linter.unusedVariables false
set_option maxRecDepth 100000

theorem conv_zero (A : Option Addr) (c : Nat) (w : World) : (convert 32 9 (.slice A 0 c)).run Tryz.prog w = .ok (.string (bstr [])) w := by
  cases A <;> rfl
theorem conv_any {w : World} {B n c : Nat} {A : Option Addr} {xs : List Nat} (h : Nb w B A n c xs) : (convert 32 9 (.slice A n c)).run Tryz.prog w = .ok (.string (bstr xs)) w := by
  by_cases h0 : n = 0
  · subst h0
    rw [List.eq_nil_of_length_eq_zero h.len]
    exact conv_zero A c w
  · obtain ⟨b, off, rfl, _⟩ := h.cell (by omega)
    exact conv_nb h
theorem eq_self (S : ByteArray) : (S.toList == S.toList) = true := by simp
end Go.Proofs.YtkhlmcknbangfaaGreatDoor.Sh
namespace Go.Proofs.YtkhlmcknbangfaaGreatDoor.Sh
open Go.RowKit
set_option linter.unusedVariables false
set_option maxRecDepth 100000

theorem by4_lim (k : Nat) : Lim 256 (by4 k) := by
  intro x hx
  simp only [by4, List.mem_cons, List.not_mem_nil, or_false] at hx
  omega

end Go.Proofs.YtkhlmcknbangfaaGreatDoor.Sh
namespace Go.Proofs.YtkhlmcknbangfaaGreatDoor.Sh
open Go.RowKit
set_option linter.unusedVariables false
set_option maxRecDepth 100000

theorem take_next (D : List Nat) (k : Nat) (h : k < D.length) : D.take (k + 1) = D.take k ++ [D.getD k 0] := by
  rw [List.take_succ_eq_append_getElem h]
  simp [List.getD, List.getElem?_eq_getElem h]


theorem trunc_out (A : Option Addr) (n c : Nat) (m : Int) (h : m < 0 ∨ 32 < m) (w : World) : Calls Tryz.prog 136 #[.slice A n c, .int .i64 m] w fun e w' => e = .returned (.tuple #[.slice none 0 0, .int .i64 1]) ∧ w = w' := by
  by_cases h1 : m < 0
  · go_enter Tryz.func136, Tryz.ntmps136
    go_wp2
    go_ret2
    exact ⟨rfl, rfl⟩
  · have h2 : 32 < m := by omega
    go_enter Tryz.func136, Tryz.ntmps136
    go_wp2
    go_ret2
    exact ⟨rfl, rfl⟩

end Go.Proofs.YtkhlmcknbangfaaGreatDoor.Sh
namespace Go.Proofs.YtkhlmcknbangfaaGreatDoor.Sh
open Go.RowKit
set_option linter.unusedVariables false
set_option linter.unusedSimpArgs false
set_option maxRecDepth 100000
theorem leftOver_any {w : World} {A A2 : Option Addr} {n c m c2 : Nat} {xs ys : List Nat} (h : Nb w w.heap.size A n c xs) (h2 : Nb w w.heap.size A2 m c2 ys) (hs : n + m ≤ 1099511627776) :
    Calls Tryz.prog 130 #[.slice A n c, .slice A2 m c2] w (CopyIs ((xs ++ ys).drop (64 * ((n + m) / 64))) (n + m - 64 * ((n + m) / 64)) w) := by
  have hl : (xs ++ ys).length = n + m := by rw [List.length_append, h.len, h2.len]
  have Hl := Lib.hid hl
  clear hl
  obtain ⟨f, hf⟩ : ∃ f, 64 * ((n + m) / 64) = f := ⟨_, rfl⟩
  have hfle : f ≤ n + m := by omega
  rw [hf]
  have Hp := Lib.hid (part_any h h2 hs f (n + m) hfle (Nat.le_refl _))
  have Hf := Lib.hid hf
  clear hf
  go_enter Tryz.func130, Tryz.ntmps130
  go_wp2_with fail
  refine (whole_any A A2 n c m c2 (by omega) (by omega) _).mono ?_
  rintro e w' ⟨rfl, rfl⟩
  rw [Hf.out]
  go_wp2_with fail
  refine Hp.out.mono ?_
  rintro e w1 ⟨A1, c1, rfl, hn1, hb1⟩
  go_wp2_with fail
  refine (clone_any hn1 (by omega)).mono ?_
  rintro e w2 ⟨A3, c3, rfl, hn3, hg3, hb3⟩
  go_wp2
  go_ret
  refine ⟨A3, c3, rfl, ?_, fun h0 => ?_, hb1.trans (hb3.mono hb1.size)⟩
  · rw [List.take_of_length_le (by rw [List.length_drop, Hl.out]; omega)] at hn3
    exact hn3
  · obtain ⟨g, off, e, hg⟩ := hg3 h0
    exact ⟨g, off, e, Nat.le_trans hb1.size hg⟩
/-- the cells of a Hash -/
def hcells (s : St) (A : Option Addr) (n c l : Nat) : List Value := wv (words s) ++ [.slice A n c, .int .i64 (l : Int)]
/-- block g is a Hash that has taken a text; what is left over lies from block lo on -/
structure HashAt (w : World) (lo g : Nat) (text : List Nat) : Prop where
  ex : ∃ s A n c, s.Ok ∧ (text ≠ [] → s = chgN first text (text.length / 64)) ∧ w.heap[g]? = some (.cells (hcells s A n c text.length).toArray 83 (0, 0)) ∧
    Nb w w.heap.size A n c (text.drop (64 * (text.length / 64))) ∧ (0 < n → ∃ r off, A = some ⟨r, off, none⟩ ∧ lo ≤ r ∧ r ≠ g)
  lt : g < w.heap.size
  top : lo ≤ w.heap.size
  lim : Lim 256 text
  short : text.length ≤ 1000000000
theorem HashAt.grown {w w' : World} {lo g : Nat} {text : List Nat} {row : Option Nat} (h : HashAt w lo g text) (hg : w.grownBy w' row) (hr : ∀ q, row = some q → q ≠ g ∧ q < lo) : HashAt w' lo g text := by
  obtain ⟨s, A, n, c, h1, h2, h3, h4, h5⟩ := h.ex
  refine ⟨⟨s, A, n, c, h1, h2, ?_, ?_, h5⟩, Nat.lt_of_lt_of_le h.lt hg.size, Nat.le_trans h.top hg.size, h.lim, h.short⟩
  · exact (hg.block g h.lt (fun e => (hr g e.symm).1 rfl)).trans h3
  · refine ⟨h4.len, h4.cap, h4.room, h4.lim, fun h0 => ?_⟩
    obtain ⟨r, off, e, hle, hne⟩ := h5 h0
    obtain ⟨b, o, e', hb, hc⟩ := h4.cell h0
    subst e
    cases e'
    exact ⟨r, off, rfl, Nat.lt_of_lt_of_le hb hg.size, fun j x hx => (cell_of_block (hg.block r hb (fun e => by have := (hr r e.symm).2; omega))).trans (hc j x hx)⟩
theorem HashAt.below {w w' : World} {lo g : Nat} {text : List Nat} (h : HashAt w lo g text) (hb : Below w.heap.size w w') : HashAt w' lo g text := h.grown (below_grown hb) (fun _ e => by cases e)
theorem HashAt.mono {w : World} {lo lo' g : Nat} {text : List Nat} (h : HashAt w lo g text) (hl : lo' ≤ lo) : HashAt w lo' g text := by
  obtain ⟨s, A, n, c, h1, h2, h3, h4, h5⟩ := h.ex
  exact ⟨⟨s, A, n, c, h1, h2, h3, h4, fun h0 => by obtain ⟨r, off, e, hle, hne⟩ := h5 h0; exact ⟨r, off, e, by omega, hne⟩⟩, h.lt, Nat.le_trans hl h.top, h.lim, h.short⟩

theorem Nb.drewN1 {w : World} {A : Option Addr} {n c : Nat} {xs : List Nat} (h : Nb w w.heap.size A n c xs) : Nb w.drew w.drew.heap.size A n c xs := ⟨h.len, h.cap, h.room, h.lim, h.cell⟩
theorem hcells_get (s : St) (A : Option Addr) (n c l j : Nat) (v : Value) (w : World) (g : Nat) (h : w.heap[g]? = some (.cells (hcells s A n c l).toArray 83 (0, 0))) (hj : (hcells s A n c l)[j]? = some v) : w.cell? ⟨g, j, none⟩ = some v := by
  rw [cell_of_row w g j _ 83 (0, 0) h]; simpa using hj

set_option maxHeartbeats 2000000 in
theorem changed_any {w : World} (hk : Ks w) {lo g : Nat} {text ys : List Nat} (h : HashAt w lo g text) {A2 : Option Addr} {m c2 : Nat} (hy : Nb w w.heap.size A2 m c2 ys) (hm : m ≤ 1000000000) :
    Calls Tryz.prog 129 #[.pointer (some ⟨g, 0, none⟩), .slice A2 m c2] w fun e w' => e = .returned (sv (chgN first (text ++ ys) ((text.length + m) / 64))) ∧ Below w.heap.size w w' := by
  have hsz := hk.size
  have hsh := h.short
  have hglt : g < w.heap.size := h.lt
  obtain ⟨s, A, n, c, h1, h2, h3, h4, h5⟩ := h.ex
  have c0 : w.cell? ⟨g, 0, none⟩ = some (.int .u32 (s.a : Int)) := hcells_get _ _ _ _ _ 0 _ _ _ h3 rfl
  have c1 : w.cell? ⟨g, 1, none⟩ = some (.int .u32 (s.b : Int)) := hcells_get _ _ _ _ _ 1 _ _ _ h3 rfl
  have c2' : w.cell? ⟨g, 2, none⟩ = some (.int .u32 (s.c : Int)) := hcells_get _ _ _ _ _ 2 _ _ _ h3 rfl
  have c3 : w.cell? ⟨g, 3, none⟩ = some (.int .u32 (s.d : Int)) := hcells_get _ _ _ _ _ 3 _ _ _ h3 rfl
  have c4 : w.cell? ⟨g, 4, none⟩ = some (.int .u32 (s.e : Int)) := hcells_get _ _ _ _ _ 4 _ _ _ h3 rfl
  have c5 : w.cell? ⟨g, 5, none⟩ = some (.int .u32 (s.f : Int)) := hcells_get _ _ _ _ _ 5 _ _ _ h3 rfl
  have c6 : w.cell? ⟨g, 6, none⟩ = some (.int .u32 (s.g : Int)) := hcells_get _ _ _ _ _ 6 _ _ _ h3 rfl
  have c7 : w.cell? ⟨g, 7, none⟩ = some (.int .u32 (s.h : Int)) := hcells_get _ _ _ _ _ 7 _ _ _ h3 rfl
  have c8 : w.cell? ⟨g, 8, none⟩ = some (.slice A n c) := hcells_get _ _ _ _ _ 8 _ _ _ h3 rfl
  have c9 : w.cell? ⟨g, 9, none⟩ = some (.int .i64 (text.length : Int)) := hcells_get _ _ _ _ _ 9 _ _ _ h3 rfl
  have hn := h4.len
  rw [List.length_drop] at hn
  obtain ⟨L, hL⟩ : ∃ L, text.length = L := ⟨_, rfl⟩
  have HL := Lib.hid hL
  have Hn := Lib.hid hn
  rw [hL] at c9 hsh
  have H2 := Lib.hid h2
  have H5 := Lib.hid h5
  have H3 := Lib.hid h3
  clear hL h2 h5 hn h3
  have hn64 : n < 64 := by have := Hn.out; have := HL.out; omega
  obtain ⟨R, hRe⟩ : ∃ R, chgN first (text ++ ys) ((L + m) / 64) = R := ⟨_, rfl⟩
  rw [HL.out, hRe]
  by_cases hL0 : L = 0
  · have hte : text = [] := List.eq_nil_of_length_eq_zero (by rw [HL.out]; exact hL0)
    have hR : chgN first (text.drop (64 * (text.length / 64)) ++ ys) ((n + m) / 64) = R := by
      rw [← hRe, hL0, hte, show n = 0 by have := Hn.out; rw [hte] at this; simpa using this.symm]
      simp
    have okS := first_ok
    have hb : ((L : Int) == 0) = true := by simp; omega
    have z0 : Wb ((w.alloc (Ob 81 (List.replicate 8 0))).alloc (Ob 81 (words s))) w.heap.size 81 (List.replicate 8 0) := (alloc_ob _ _ _).alloc _
    have t0 : Wb ((w.alloc (Ob 81 (List.replicate 8 0))).alloc (Ob 81 (words s))) (w.heap.size + 1) 81 (words s) := by
      have := alloc_ob (w.alloc (Ob 81 (List.replicate 8 0))) 81 (words s)
      rwa [World.size_alloc] at this
    have b0 : Below w.heap.size w ((w.alloc (Ob 81 (List.replicate 8 0))).alloc (Ob 81 (words s))) := ((Below.refl _ _).alloc (Nat.le_refl _) _).alloc (by simp) _
    have HRe := Lib.hid hRe
    clear hRe hte
    go_enter Tryz.func129, Tryz.ntmps129
    go_wp2_with fail
    change Calls _ _ _ ((w.alloc (Ob 81 (List.replicate 8 0))).alloc (Ob 81 (words s))) _
    generalize (w.alloc (Ob 81 (List.replicate 8 0))).alloc (Ob 81 (words s)) = w0 at *
    refine (firstWords_any w0).mono ?_
    rintro e wf ⟨rfl, bf⟩
    have zf := z0.below bf z0.lt
    have tf := t0.below bf t0.lt
    have bF : Below w.heap.size w wf := b0.trans (bf.mono b0.size)
    clear c0 c1 c2' c3 c4 c5 c6 c7
    go_wp2_with (refine wpList_store_row rfl rfl 81 (.tmp 5) (.tmp 15) rfl (w.heap.size + 1) rfl (wv (words first)) rfl 81 _ tf (wv_one _) (by simp [wv, words]) (by kernel_rfl) ?_)
    have t1 : Wb (wf.setRow (w.heap.size + 1) (wv (words first)).toArray) (w.heap.size + 1) 81 (words first) := setRow_heap _ _ _ _ _ _ tf
    have z1 : Wb (wf.setRow (w.heap.size + 1) (wv (words first)).toArray) w.heap.size 81 _ := (setRow_other _ _ _ _ (by omega)).trans zf
    have b1 : Below w.heap.size w (wf.setRow (w.heap.size + 1) (wv (words first)).toArray) := below_setRow bF (Nat.le_succ _) _
    generalize wf.setRow (w.heap.size + 1) (wv (words first)).toArray = w1 at *
    have d0 : w1.cell? ⟨w.heap.size + 1, 0, none⟩ = some (.int .u32 (first.a : Int)) := t1.cell (j := 0) (by simp [words])
    have d1 : w1.cell? ⟨w.heap.size + 1, 1, none⟩ = some (.int .u32 (first.b : Int)) := t1.cell (j := 1) (by simp [words])
    have d2 : w1.cell? ⟨w.heap.size + 1, 2, none⟩ = some (.int .u32 (first.c : Int)) := t1.cell (j := 2) (by simp [words])
    have d3 : w1.cell? ⟨w.heap.size + 1, 3, none⟩ = some (.int .u32 (first.d : Int)) := t1.cell (j := 3) (by simp [words])
    have d4 : w1.cell? ⟨w.heap.size + 1, 4, none⟩ = some (.int .u32 (first.e : Int)) := t1.cell (j := 4) (by simp [words])
    have d5 : w1.cell? ⟨w.heap.size + 1, 5, none⟩ = some (.int .u32 (first.f : Int)) := t1.cell (j := 5) (by simp [words])
    have d6 : w1.cell? ⟨w.heap.size + 1, 6, none⟩ = some (.int .u32 (first.g : Int)) := t1.cell (j := 6) (by simp [words])
    have d7 : w1.cell? ⟨w.heap.size + 1, 7, none⟩ = some (.int .u32 (first.h : Int)) := t1.cell (j := 7) (by simp [words])
    have e8 : w1.cell? ⟨g, 8, none⟩ = some (.slice A n c) := (b1.cell (p := ⟨g, 8, none⟩) hglt).trans c8
    have hs1 := z1.lt
    have hch := change_any (w := w1.drew) ((hk.below b1 hsz).drew) first okS ((h4.below b1).more b1.size).drewN1 ((hy.below b1).more b1.size).drewN1 (by omega)
    rw [hR] at hch
    have Hch : Hid (Calls Tryz.prog 126 #[.agg #[.int .u32 (first.a : Int), .int .u32 (first.b : Int), .int .u32 (first.c : Int), .int .u32 (first.d : Int), .int .u32 (first.e : Int), .int .u32 (first.f : Int), .int .u32 (first.g : Int), .int .u32 (first.h : Int)], .slice A n c, .slice A2 m c2] w1.drew fun e w' => e = .returned (.agg (wv (words R)).toArray) ∧ Below w1.drew.heap.size w1.drew w') := hch
    clear hch c8 c9
    go_still_tail 6, (by kernel_rfl)
    change wpList _ _ _ _ _ w1.drew
    replace z1 := z1.drew
    replace b1 := below_drew b1
    replace hs1 : w.heap.size < w1.drew.heap.size := hs1
    generalize w1.drew = w2 at *
    clear d0 d1 d2 d3 d4 d5 d6 d7 e8
    go_wp2_with fail
    refine Hch.out.mono ?_
    rintro e w3 ⟨rfl, b3⟩
    have z3 := z1.below b3 z1.lt
    have B3 : Below w.heap.size w w3 := b1.trans (b3.mono b1.size)
    go_wp2_with (refine wpList_store_row rfl rfl 81 (.tmp 4) (.tmp 22) rfl w.heap.size rfl (wv (words R)) rfl 81 _ z3 (wv_one _) (by simp [wv, words]) (by kernel_rfl) ?_)
    have hr1 := setRow_heap w3 w.heap.size _ (wv (words R)).toArray 81 (0, 0) z3
    exact bodyPost_ret (v := .agg (wv (words R)).toArray) (results_cell_row rfl _ _ w.heap.size 81 _ (0, 0) _ rfl hr1 Tryz.underlying81 rfl (by kernel_rfl)) rfl ⟨rfl, below_setRow B3 (Nat.le_refl _) _⟩
  · have hb : ((L : Int) == 0) = false := by simp; omega
    have okS := h1
    have hne : text ≠ [] := fun e => hL0 (by rw [← HL.out, e]; rfl)
    have hR : chgN s (text.drop (64 * (text.length / 64)) ++ ys) ((n + m) / 64) = R := by
      rw [← hRe, ← HL.out, ← hy.len, chgN_two, H2.out hne, h4.len]
    have HRe := Lib.hid hRe
    clear hRe hne
    have z1 : Wb ((w.alloc (Ob 81 (List.replicate 8 0))).alloc (Ob 81 (words s))) w.heap.size 81 (List.replicate 8 0) := (alloc_ob _ _ _).alloc _
    have t1 : Wb ((w.alloc (Ob 81 (List.replicate 8 0))).alloc (Ob 81 (words s))) (w.heap.size + 1) 81 (words s) := by
      have := alloc_ob (w.alloc (Ob 81 (List.replicate 8 0))) 81 (words s)
      rwa [World.size_alloc] at this
    have b1 : Below w.heap.size w ((w.alloc (Ob 81 (List.replicate 8 0))).alloc (Ob 81 (words s))) := ((Below.refl _ _).alloc (Nat.le_refl _) _).alloc (by simp) _
    go_enter Tryz.func129, Tryz.ntmps129
    go_wp2
    change Code.wp _ _ _ _ ((w.alloc (Ob 81 (List.replicate 8 0))).alloc (Ob 81 (words s)))
    generalize (w.alloc (Ob 81 (List.replicate 8 0))).alloc (Ob 81 (words s)) = w1 at *
    have d0 : w1.cell? ⟨w.heap.size + 1, 0, none⟩ = some (.int .u32 (s.a : Int)) := t1.cell (j := 0) (by simp [words])
    have d1 : w1.cell? ⟨w.heap.size + 1, 1, none⟩ = some (.int .u32 (s.b : Int)) := t1.cell (j := 1) (by simp [words])
    have d2 : w1.cell? ⟨w.heap.size + 1, 2, none⟩ = some (.int .u32 (s.c : Int)) := t1.cell (j := 2) (by simp [words])
    have d3 : w1.cell? ⟨w.heap.size + 1, 3, none⟩ = some (.int .u32 (s.d : Int)) := t1.cell (j := 3) (by simp [words])
    have d4 : w1.cell? ⟨w.heap.size + 1, 4, none⟩ = some (.int .u32 (s.e : Int)) := t1.cell (j := 4) (by simp [words])
    have d5 : w1.cell? ⟨w.heap.size + 1, 5, none⟩ = some (.int .u32 (s.f : Int)) := t1.cell (j := 5) (by simp [words])
    have d6 : w1.cell? ⟨w.heap.size + 1, 6, none⟩ = some (.int .u32 (s.g : Int)) := t1.cell (j := 6) (by simp [words])
    have d7 : w1.cell? ⟨w.heap.size + 1, 7, none⟩ = some (.int .u32 (s.h : Int)) := t1.cell (j := 7) (by simp [words])
    have e8 : w1.cell? ⟨g, 8, none⟩ = some (.slice A n c) := (b1.cell (p := ⟨g, 8, none⟩) hglt).trans c8
    have hs1 := z1.lt
    have hch := change_any (w := w1.drew) ((hk.below b1 hsz).drew) s okS ((h4.below b1).more b1.size).drewN1 ((hy.below b1).more b1.size).drewN1 (by omega)
    rw [hR] at hch
    have Hch : Hid (Calls Tryz.prog 126 #[.agg #[.int .u32 (s.a : Int), .int .u32 (s.b : Int), .int .u32 (s.c : Int), .int .u32 (s.d : Int), .int .u32 (s.e : Int), .int .u32 (s.f : Int), .int .u32 (s.g : Int), .int .u32 (s.h : Int)], .slice A n c, .slice A2 m c2] w1.drew fun e w' => e = .returned (.agg (wv (words R)).toArray) ∧ Below w1.drew.heap.size w1.drew w') := hch
    clear hch c0 c1 c2' c3 c4 c5 c6 c7 c8 c9
    go_still_tail 6, (by kernel_rfl)
    change wpList _ _ _ _ _ w1.drew
    replace z1 := z1.drew
    replace b1 := below_drew b1
    replace hs1 : w.heap.size < w1.drew.heap.size := hs1
    generalize w1.drew = w2 at *
    clear d0 d1 d2 d3 d4 d5 d6 d7 e8
    go_wp2_with fail
    refine Hch.out.mono ?_
    rintro e w3 ⟨rfl, b3⟩
    have z3 := z1.below b3 z1.lt
    have B3 : Below w.heap.size w w3 := b1.trans (b3.mono b1.size)
    go_wp2_with (refine wpList_store_row rfl rfl 81 (.tmp 4) (.tmp 22) rfl w.heap.size rfl (wv (words R)) rfl 81 _ z3 (wv_one _) (by simp [wv, words]) (by kernel_rfl) ?_)
    have hr1 := setRow_heap w3 w.heap.size _ (wv (words R)).toArray 81 (0, 0) z3
    exact bodyPost_ret (v := .agg (wv (words R)).toArray) (results_cell_row rfl _ _ w.heap.size 81 _ (0, 0) _ rfl hr1 Tryz.underlying81 rfl (by kernel_rfl)) rfl ⟨rfl, below_setRow B3 (Nat.le_refl _) _⟩
def zeroSt : St := ⟨0, 0, 0, 0, 0, 0, 0, 0⟩
theorem zero_ok : zeroSt.Ok := by constructor <;> decide
theorem hash_new {w : World} {g : Nat} (h : w.heap[g]? = some (.cells (hcells zeroSt none 0 0 0).toArray 83 (0, 0))) (lo : Nat) (hg : g < w.heap.size) (hlo : lo ≤ w.heap.size) : HashAt w lo g [] :=
  ⟨⟨zeroSt, none, 0, 0, zero_ok, fun h => absurd rfl h, h, Nb.nil _ _ 0 (by omega) none, fun h0 => absurd h0 (Nat.lt_irrefl _)⟩, hg, hlo, Lim.nil _, by simp⟩
theorem new_any (w : World) : Calls Tryz.prog 71 #[] w fun e w' => e = .returned (.pointer (some ⟨w.heap.size, 0, none⟩)) ∧ HashAt w' w'.heap.size w.heap.size [] ∧ Below w.heap.size w w' := by
  have h0 := heap_alloc_new w (.cells (hcells zeroSt none 0 0 0).toArray 83 (0, 0))
  have H := Lib.hid (hash_new h0 _ (by simp) (Nat.le_refl _))
  have B : Below w.heap.size w (w.alloc (.cells (hcells zeroSt none 0 0 0).toArray 83 (0, 0))) := (Below.refl _ _).alloc (Nat.le_refl _) _
  have HB := Lib.hid B
  clear h0 B
  go_enter Tryz.func71, Tryz.ntmps71
  go_wp2
  go_ret
  exact ⟨rfl, H.out, HB.out⟩

theorem write_nil (v : Value) (w : World) : Calls Tryz.prog 72 #[.pointer none, v] w fun e w' => e = .returned (.int .i64 6) ∧ w = w' := by
  go_enter Tryz.func72, Tryz.ntmps72
  go_wp2
  go_ret
  exact ⟨rfl, rfl⟩
theorem hcells_one (s : St) (A : Option Addr) (n c l : Nat) : ∀ v ∈ hcells s A n c l, v.oneCell' = true := by
  intro v hv
  simp only [hcells, List.mem_append, List.mem_cons, List.not_mem_nil, or_false] at hv
  rcases hv with hv | rfl | rfl
  · exact wv_one _ _ hv
  · rfl
  · rfl
theorem hcells_words (s R : St) (A : Option Addr) (n c l : Nat) : (hcells s A n c l).take 0 ++ wv (words R) ++ (hcells s A n c l).drop (0 + (wv (words R)).length) = hcells R A n c l := rfl
theorem hcells_rest (s : St) (A A' : Option Addr) (n c n' c' l : Nat) : (hcells s A n c l).toArray.setIfInBounds 8 (.slice A' n' c') = (hcells s A' n' c' l).toArray := rfl
theorem hcells_len (s : St) (A : Option Addr) (n c l l' : Nat) : (hcells s A n c l).toArray.setIfInBounds 9 (.int .i64 (l' : Int)) = (hcells s A n c l').toArray := rfl
theorem grown_trans {a b c : World} {row : Option Nat} (h : a.grownBy b row) (k : b.grownBy c row) : a.grownBy c row :=
  ⟨k.os.trans h.os, k.tape.trans h.tape, k.output.trans h.output, Nat.le_trans h.size k.size, fun i hi hne => (k.block i (Nat.lt_of_lt_of_le hi h.size) hne).trans (h.block i hi hne)⟩
theorem grown_weak {a b : World} (h : a.grownBy b none) (g : Nat) : a.grownBy b (some g) := ⟨h.os, h.tape, h.output, h.size, fun i hi _ => h.block i hi (by simp)⟩
theorem not_hash {w : World} {B g n c n2 c2 l : Nat} {A A2 : Option Addr} {s : St} {ys : List Nat} (h : Nb w B A2 n2 c2 ys) (hg : w.heap[g]? = some (.cells (hcells s A n c l).toArray 83 (0, 0))) : 0 < n2 → ∃ r off, A2 = some ⟨r, off, none⟩ ∧ r ≠ g := by
  intro h0
  obtain ⟨b, o, e, hb, hc⟩ := h.cell h0
  refine ⟨b, o, e, ?_⟩
  rintro rfl
  have h1 := hc 0 _ (List.getElem?_eq_getElem (by rw [h.len]; exact h0))
  rw [cell_of_row w b _ _ 83 (0, 0) hg] at h1
  have h2 := List.mem_of_getElem? (by simpa using h1)
  simp only [hcells, wv, List.mem_append, List.mem_map, List.mem_cons, List.not_mem_nil, or_false] at h2
  rcases h2 with ⟨x, _, hx⟩ | h2 | h2
  · cases hx
  · cases h2
  · cases h2
/-- what Write leaves -/
def Written (w : World) (g : Nat) (text : List Nat) (e : Ending) (w' : World) : Prop := e = .returned (.int .i64 0) ∧ HashAt w' w.heap.size g text ∧ w.grownBy w' (some g)

theorem rest_two (text ys : List Nat) (n m : Nat) (hn : text.length - 64 * (text.length / 64) = n) (hm : ys.length = m) :
    (text.drop (64 * (text.length / 64)) ++ ys).drop (64 * ((n + m) / 64)) = (text ++ ys).drop (64 * ((text ++ ys).length / 64)) := by
  rw [List.length_append, hm, ← List.drop_append_of_le_length (by omega), List.drop_drop]
  congr 1
  omega
set_option maxHeartbeats 2000000 in
theorem write_any {w : World} (hk : Ks w) {lo g : Nat} {text ys : List Nat} (h : HashAt w lo g text) {A2 : Option Addr} {m c2 : Nat} (hy : Nb w w.heap.size A2 m c2 ys) (hm : text.length + m ≤ 1000000000) (hg0 : 0 < g) :
    Calls Tryz.prog 72 #[.pointer (some ⟨g, 0, none⟩), .slice A2 m c2] w (Written w g (text ++ ys)) := by
  have hsz := hk.size
  have hglt : g < w.heap.size := h.lt
  have hcg := changed_any hk h hy (by omega)
  obtain ⟨s, A, n, c, h1, h2, h3, h4, h5⟩ := h.ex
  obtain ⟨R, hR⟩ : ∃ R, chgN first (text ++ ys) ((text.length + m) / 64) = R := ⟨_, rfl⟩
  have okR : R.Ok := by rw [← hR]; exact chgN_ok first_ok _ _
  rw [hR] at hcg
  have hn := h4.len
  rw [List.length_drop] at hn
  have hrest := rest_two text ys n m hn hy.len
  have hlim := h.lim.append hy.lim
  have hRt : text ++ ys ≠ [] → R = chgN first (text ++ ys) ((text ++ ys).length / 64) := fun _ => by rw [List.length_append, hy.len, hR]
  have hll : (text ++ ys).length = text.length + m := by rw [List.length_append, hy.len]
  obtain ⟨L, hL⟩ : ∃ L, text.length = L := ⟨_, rfl⟩
  rw [hL] at hm h3 hn hll
  have hn64 : n < 64 := by omega
  have Hcg := Lib.hid hcg
  have Hrest := Lib.hid hrest
  have HRt := Lib.hid hRt
  have Hll := Lib.hid hll
  have HL := Lib.hid hL
  have Hn := Lib.hid hn
  have H5 := Lib.hid h5
  clear hcg hrest hRt hll hL hn hR h2 h5
  go_enter Tryz.func72, Tryz.ntmps72
  go_wp2_with fail
  refine Hcg.out.mono ?_
  rintro e w1 ⟨rfl, b1⟩
  have g1 : w1.heap[g]? = some (.cells (hcells s A n c L).toArray 83 (0, 0)) := (b1.block g hglt).trans h3
  have q1 : w.grownBy w1 (some g) := grown_weak (below_grown b1) g
  have g2 : (w1.setRow g (hcells R A n c L).toArray).heap[g]? = some (.cells (hcells R A n c L).toArray 83 (0, 0)) := setRow_heap _ _ _ _ _ _ g1
  have q2 : w.grownBy (w1.setRow g (hcells R A n c L).toArray) (some g) := grown_trans q1 (grown_setRow _ _ _)
  have n2 := (h4.kept (Nat.le_refl _) (fun h0 => by obtain ⟨r, off, e, hle, hne⟩ := H5.out h0; exact ⟨r, off, e, hne⟩) q2).more q2.size
  have y2 := (hy.kept (Nat.le_refl _) (not_hash hy h3) q2).more q2.size
  obtain ⟨w2, hw2⟩ : ∃ w2, w1.setRow g (hcells R A n c L).toArray = w2 := ⟨_, rfl⟩
  rw [hw2] at g2 q2 n2 y2
  have Hw2 := Lib.hid hw2
  clear hw2 q1 h4 hy h3
  have c8 : w2.cell? ⟨g, 8, none⟩ = some (.slice A n c) := hcells_get _ _ _ _ _ 8 _ _ _ g2 rfl
  go_wp2_with (refine wpList_store_part rfl rfl 81 (.tmp 12) (.tmp 10) rfl g 0 rfl (wv (words R)) rfl 83 _ g1 (wv_one _) (by simp [wv, words, hcells]) (by kernel_rfl) ?_; rw [hcells_words, Hw2.out])
  refine (leftOver_any n2 y2 (by omega)).mono ?_
  rintro e w3 ⟨A3, c3, rfl, n3, f3, b3⟩
  rw [Hrest.out] at n3
  have g3 : w3.heap[g]? = some (.cells (hcells R A n c L).toArray 83 (0, 0)) := (b3.block g (Nat.lt_of_lt_of_le hglt q2.size)).trans g2
  have z3 : w3.frozen? ⟨g, 8, none⟩ = false := frozen_of_row w3 g 8 _ 83 g3
  have d8 : w3.cell? ⟨g, 8, none⟩ = some (.slice A n c) := hcells_get _ _ _ _ _ 8 _ _ _ g3 rfl
  have q3 : w.grownBy w3 (some g) := grown_trans q2 (grown_weak (below_grown b3) g)
  obtain ⟨n', hn'⟩ : ∃ n', n + m - 64 * ((n + m) / 64) = n' := ⟨_, rfl⟩
  rw [hn'] at n3 f3 ⊢
  have g4 := heap_setCell_same w3 g 8 _ 83 (.slice A3 n' c3) g3
  rw [hcells_rest] at g4
  have q4 : w.grownBy (w3.setCell ⟨g, 8, none⟩ (.slice A3 n' c3)) (some g) := grown_trans q3 (grown_setCell w3 ⟨g, 8, none⟩ _)
  have n4 := (n3.kept (Nat.le_refl _) (fun h0 => by obtain ⟨r, off, e, hle⟩ := f3 h0; exact ⟨r, off, e, by show r ≠ g; have := q2.size; omega⟩) (grown_setCell w3 ⟨g, 8, none⟩ (.slice A3 n' c3)))
  have d9 : (w3.setCell ⟨g, 8, none⟩ (.slice A3 n' c3)).cell? ⟨g, 9, none⟩ = some (.int .i64 (L : Int)) := hcells_get _ _ _ _ _ 9 _ _ _ g4 rfl
  have z4 : (w3.setCell ⟨g, 8, none⟩ (.slice A3 n' c3)).frozen? ⟨g, 9, none⟩ = false := frozen_of_row _ g 9 _ 83 g4
  have g5 := heap_setCell_same _ g 9 _ 83 (.int .i64 ((L + m : Nat) : Int)) g4
  rw [hcells_len] at g5
  have q5 : w.grownBy ((w3.setCell ⟨g, 8, none⟩ (.slice A3 n' c3)).setCell ⟨g, 9, none⟩ (.int .i64 ((L + m : Nat) : Int))) (some g) := grown_trans q4 (grown_setCell _ ⟨g, 9, none⟩ _)
  have n5 := n4.kept (by simp) (fun h0 => by obtain ⟨r, off, e, hle⟩ := f3 h0; exact ⟨r, off, e, by show r ≠ g; have := q2.size; omega⟩) (grown_setCell (w3.setCell ⟨g, 8, none⟩ (.slice A3 n' c3)) ⟨g, 9, none⟩ (.int .i64 ((L + m : Nat) : Int)))
  have hfin : HashAt ((w3.setCell ⟨g, 8, none⟩ (.slice A3 n' c3)).setCell ⟨g, 9, none⟩ (.int .i64 ((L + m : Nat) : Int))) w.heap.size g (text ++ ys) :=
    ⟨⟨R, A3, n', c3, okR, HRt.out, by rw [Hll.out]; exact g5, n5.more (by simp), fun h0 => by obtain ⟨r, off, e, hle⟩ := f3 h0; exact ⟨r, off, e, Nat.le_trans q2.size hle, by have := q2.size; omega⟩⟩, Nat.lt_of_lt_of_le hglt q5.size, q5.size, hlim, by rw [Hll.out]; exact hm⟩
  have Hfin := Lib.hid hfin
  have Hq5 := Lib.hid q5
  clear hfin q5 g5 n5
  go_wp2_with fail
  go_ret
  exact ⟨rfl, Hfin.out, Hq5.out⟩

/-- Hash.Sum -/
theorem sumOf_nil (w : World) : Calls Tryz.prog 74 #[.pointer none] w fun e w' => e = .returned (.agg (bs (List.replicate 32 0)).toArray) ∧ Below w.heap.size w w' := by
  have h0 : Bb (w.alloc (Yb 75 (List.replicate 32 0))) w.heap.size 75 (List.replicate 32 0) := alloc_bb w _ _
  have b0 : Below w.heap.size w (w.alloc (Yb 75 (List.replicate 32 0))) := (Below.refl _ _).alloc (Nat.le_refl _) _
  go_enter Tryz.func74, Tryz.ntmps74
  go_wp2_with (change wpList _ _ _ _ _ (w.alloc (Yb 75 (List.replicate 32 0))); refine wpList_store_row rfl rfl 75 (.tmp 2) (.tmp 5) rfl w.heap.size rfl (bs (List.replicate 32 0)) rfl 75 _ h0 (bs_one _) (by simp [bs]) (by kernel_rfl) ?_)
  have hr1 := setRow_heap _ w.heap.size _ (bs (List.replicate 32 0)).toArray 75 (0, 0) h0
  exact bodyPost_ret (v := .agg (bs (List.replicate 32 0)).toArray) (results_cell_row rfl _ _ w.heap.size 75 _ (0, 0) _ rfl hr1 Tryz.underlying75 rfl (by kernel_rfl)) rfl ⟨rfl, below_setRow b0 (Nat.le_refl _) _⟩
set_option maxHeartbeats 1000000 in
theorem sumOf_any {w : World} (hk : Ks w) {lo g : Nat} {text : List Nat} (h : HashAt w lo g text) :
    Calls Tryz.prog 74 #[.pointer (some ⟨g, 0, none⟩)] w fun e w' => e = .returned (.agg (bs (sha text)).toArray) ∧ Below w.heap.size w w' := by
  have hsz := hk.size
  have hglt : g < w.heap.size := h.lt
  have hsh := h.short
  obtain ⟨L, hL⟩ : ∃ L, text.length = L := ⟨_, rfl⟩
  obtain ⟨z, hz⟩ : ∃ z, 9 + (119 - L % 64) % 64 = z := ⟨_, rfl⟩
  have hzl : (pad L).length = z := by rw [length_pad, hz]
  have hz2 : z ≤ 72 := by omega
  obtain ⟨S, hS⟩ : ∃ S, chgN first (text ++ pad L) ((L + z) / 64) = S := ⟨_, rfl⟩
  have hSo : S.Ok := by rw [← hS]; exact chgN_ok first_ok _ _
  have hsha : sha text = dig S := by rw [sha_is, hL, hzl, hS]
  rw [hsha]
  rw [hL] at hsh
  have Hz := Lib.hid hz
  have HS := Lib.hid hS
  have Hzl := Lib.hid hzl
  have HL := Lib.hid hL
  have h0 : Bb (w.alloc (Yb 75 (List.replicate 32 0))) w.heap.size 75 (List.replicate 32 0) := alloc_bb w _ _
  have b0 : Below w.heap.size w (w.alloc (Yb 75 (List.replicate 32 0))) := (Below.refl _ _).alloc (Nat.le_refl _) _
  have c9 : (w.alloc (Yb 75 (List.replicate 32 0))).cell? ⟨g, 9, none⟩ = some (.int .i64 (L : Int)) := by
    obtain ⟨s, A, n, c, h1, h2, h3, h4, h5⟩ := h.ex
    rw [hL] at h3
    exact (b0.cell (p := ⟨g, 9, none⟩) hglt).trans (hcells_get _ _ _ _ _ 9 _ _ _ h3 rfl)
  have hh0 := h.below b0
  clear hz hS hsha hL hzl
  obtain ⟨w0, hw0⟩ : ∃ w0, w.alloc (Yb 75 (List.replicate 32 0)) = w0 := ⟨_, rfl⟩
  rw [hw0] at h0 b0 c9 hh0
  have Hw0 := Lib.hid hw0
  clear hw0
  have c9' : w.cell? ⟨g, 9, none⟩ = some (.int .i64 (L : Int)) := (b0.cell (p := ⟨g, 9, none⟩) hglt).symm.trans c9
  go_enter Tryz.func74, Tryz.ntmps74
  go_wp2_with fail
  change Calls _ _ _ (w.alloc (Yb 75 (List.replicate 32 0))) _
  rw [Hw0.out]
  refine (padding_any L (by omega) w0).mono ?_
  rintro e w2 ⟨gp, rfl, hg, hp, b2⟩
  rw [Hz.out]
  have h2 := h0.below b2 h0.lt
  have B2 : Below w.heap.size w w2 := b0.trans (b2.mono b0.size)
  have hpn := hp.nb 0 z z (by rw [Hzl.out]; omega) (Nat.le_refl _) (by omega) (pad_lim L)
  rw [List.drop_zero, List.take_of_length_le (by rw [Hzl.out]; omega)] at hpn
  have hh2 := hh0.below b2
  go_wp2_with fail
  have hch := changed_any (hk.below B2 hsz) hh2 hpn (by omega)
  rw [HL.out, HS.out] at hch
  refine hch.mono ?_
  rintro e w3 ⟨rfl, b3⟩
  have h3 := h2.below b3 h2.lt
  have B3 : Below w.heap.size w w3 := B2.trans (b3.mono B2.size)
  go_wp2_with fail
  refine (digest_any S hSo w3).mono ?_
  rintro e w4 ⟨rfl, b4⟩
  have h4 := h3.below b4 h3.lt
  have B4 : Below w.heap.size w w4 := B3.trans (b4.mono B3.size)
  have hDl : (bs (dig S)).length = 32 := by rfl
  have HD := Lib.hid hDl
  clear hDl
  generalize hDe : dig S = D at *
  have HDe := Lib.hid hDe
  clear hDe
  go_wp2_with (refine wpList_store_row rfl rfl 75 (.tmp 2) (.tmp 13) rfl w.heap.size rfl (bs D) rfl 75 _ h4 (bs_one _) (by rw [HD.out]; simp [bs]) (by rw [HD.out]; kernel_rfl) ?_)
  have hr1 := setRow_heap w4 w.heap.size _ (bs D).toArray 75 (0, 0) h4
  exact bodyPost_ret (v := .agg (bs D).toArray) (results_cell_row rfl _ _ w.heap.size 75 _ (0, 0) _ rfl hr1 Tryz.underlying75 rfl (by rw [List.size_toArray, HD.out]; kernel_rfl)) rfl ⟨by rw [HDe.out], below_setRow B4 (Nat.le_refl _) _⟩
/-- the first digests of an expansion, one behind the other -/
def expN (seed : List Nat) : Nat → List Nat
  | 0 => []
  | k + 1 => expN seed k ++ sha (seed ++ by4 k)
theorem length_expN (seed : List Nat) (k : Nat) : (expN seed k).length = 32 * k := by
  induction k with
  | zero => rfl
  | succ k ih => rw [expN, List.length_append, ih, length_sha]; omega
/-- an expansion of n bytes -/
def expand (seed : List Nat) (n : Nat) : List Nat := (expN seed ((n + 31) / 32)).take n
theorem expN_mono (seed : List Nat) (j k : Nat) (h : j ≤ k) : ∃ r, expN seed k = expN seed j ++ r := by
  induction k with
  | zero => obtain rfl : j = 0 := by omega
            exact ⟨[], by simp⟩
  | succ k ih =>
    by_cases hj : j = k + 1
    · subst hj; exact ⟨[], by simp⟩
    · obtain ⟨r, hr⟩ := ih (by omega)
      exact ⟨r ++ sha (seed ++ by4 k), by rw [expN, hr, List.append_assoc]⟩
theorem length_expand (seed : List Nat) (n : Nat) : (expand seed n).length = n := by
  rw [expand, List.length_take, length_expN]; omega
theorem expand_begins (seed : List Nat) (n m : Nat) (h : n ≤ m) : (expand seed m).take n = expand seed n := by
  unfold expand
  rw [List.take_take, Nat.min_eq_left h]
  obtain ⟨r, hr⟩ := expN_mono seed ((n + 31) / 32) ((m + 31) / 32) (by omega)
  rw [hr, List.take_append_of_le_length (by rw [length_expN]; omega)]
theorem expN_lim (seed : List Nat) (k : Nat) : Lim 256 (expN seed k) := by
  induction k with
  | zero => exact Lim.nil _
  | succ k ih => exact ih.append (sha_lim _)
theorem HashAt.copy {w : World} {lo g : Nat} {text : List Nat} (h : HashAt w lo g text) {cs : List Value} (hc : w.heap[g]? = some (.cells cs.toArray 83 (0, 0))) {w' : World} {g' : Nat} (hg' : w.heap.size ≤ g') (hb : Below w.heap.size w w') (hn : w'.heap[g']? = some (.cells cs.toArray 83 (0, 0))) : HashAt w' lo g' text := by
  obtain ⟨s, A, n, c, h1, h2, h3, h4, h5⟩ := h.ex
  rw [hc] at h3
  have he : cs.toArray = (hcells s A n c text.length).toArray := by
    simp only [Option.some.injEq, Obj.cells.injEq, and_true] at h3
    exact h3
  rw [he] at hn
  have hlt : g' < w'.heap.size := by
    rcases Nat.lt_or_ge g' w'.heap.size with h | h
    · exact h
    · rw [Array.getElem?_eq_none h] at hn; cases hn
  refine ⟨⟨s, A, n, c, h1, h2, hn, (h4.below hb).more hb.size, fun h0 => ?_⟩, hlt, Nat.le_trans h.top hb.size, h.lim, h.short⟩
  obtain ⟨r, off, e, hle, hne⟩ := h5 h0
  obtain ⟨b, o, e', hb', _⟩ := h4.cell h0
  have e3 := e'.symm.trans e
  cases e3
  exact ⟨_, _, e', hle, by omega⟩
theorem HashAt.cells {w : World} {lo g : Nat} {text : List Nat} (h : HashAt w lo g text) : ∃ cs : List Value, cs.length = 10 ∧ (∀ v ∈ cs, v.oneCell' = true) ∧ w.heap[g]? = some (.cells cs.toArray 83 (0, 0)) := by
  obtain ⟨s, A, n, c, h1, h2, h3, h4, h5⟩ := h.ex
  exact ⟨_, rfl, hcells_one s A n c _, h3⟩

def ZeroH : Obj := .cells (hcells zeroSt none 0 0 0).toArray 83 (0, 0)
theorem splice_exp (seed : List Nat) (n k : Nat) (Dg : List Nat) (hD : Dg.length = 32) (hk : 32 * k < n) :
    splice (bs ((expN seed k).take n ++ List.replicate (n - 32 * k) 0)) (32 * k) (bs (Dg.take (n - 32 * k))) = bs ((expN seed k ++ Dg).take n ++ List.replicate (n - 32 * (k + 1)) 0) := by
  have hl := length_expN seed k
  have e1 : (expN seed k).take n = expN seed k := List.take_of_length_le (by omega)
  have e2 : (expN seed k ++ Dg).take n = expN seed k ++ Dg.take (n - 32 * k) := by
    rw [List.take_append, List.take_of_length_le (by omega), hl]
  rw [e1, e2]
  unfold splice
  simp only [bs, List.map_append, List.map_take, List.length_take, List.length_map, hD]
  rw [List.take_append_of_le_length (by simp [hl]), List.take_of_length_le (by simp [hl]), List.drop_append, List.drop_eq_nil_of_le (by simp [hl]), List.append_assoc, List.nil_append]
  congr 1
  congr 1
  simp only [List.map_replicate, List.drop_replicate, List.length_map, hl]
  congr 1
  simp only [Nat.min_def]; split <;> omega

theorem slice_out (g n k : Nat) (hk : 32 * k < n) (hn : n ≤ 4096) (W : World) : (Instr.sliceAt 32 (.slice (some ⟨g, 0, none⟩) n n) (some (.int .i64 (32 * (k : Int)))) none none).run Tryz.prog W = .ok (.slice (some ⟨g, 32 * k, none⟩) (n - 32 * k) (n - 32 * k)) W := by
  rw [run_sliceAt_slice W 32 _ _ _ _ und22, run_slice_l W 32 _ n n und22 .i64 (32 * (k : Int)) (by omega) (by omega), size5]
  have e : (32 * (k : Int)).toNat = 32 * k := by omega
  have hne : ¬ n = 32 * k := by omega
  simp only [Result.andThen, sliced, e, if_neg hne, Option.map_some, Nat.mul_one]
  by_cases h0 : k = 0
  · subst h0; simp [Addr.add]
  · have : ¬ 32 * k = 0 := by omega
    simp [Addr.add, this]
set_option maxHeartbeats 4000000 in
theorem expand_fit {w : World} (hk : Ks w) {A : Option Addr} {l c : Nat} {seed : List Nat} (hx : Nb w w.heap.size A l c seed) (hl : l ≤ 1000000) (n : Nat) (hn : n ≤ 4096) :
    Calls Tryz.prog 21 #[.slice A l c, .int .i64 (n : Int)] w fun e w' => ∃ g, e = .returned (.tuple #[.slice (some ⟨g, 0, none⟩) n n, .int .i64 0]) ∧ w.heap.size ≤ g ∧ Bb w' g 5 (expand seed n) ∧ Below w.heap.size w w' := by
  have hsz := hk.size
  have Hl := Lib.hid hx.len
  go_enter Tryz.func21, Tryz.ntmps21
  go_wp2_with fail
  refine (new_any w).mono ?_
  rintro e w1 ⟨rfl, g1, b1⟩
  have hs1 := g1.lt
  go_wp2_with fail
  refine (write_any (hk.below b1 hsz) g1 (hx.far b1) (by simp; omega) (by omega)).mono ?_
  rintro e w2 ⟨rfl, g2, q2⟩
  rw [List.nil_append] at g2
  have B2 := below_write b1 q2 (Nat.le_refl _) (Nat.le_refl _)
  have hs2 := q2.size
  clear g1 q2 b1
  go_wp2_with (refine wpList_make_bs _ rfl (.tmp 20) (.tmp 20) rfl _ _ n rfl rfl rfl rfl (by omega) ?_; intro w3 hm hb3)
  have g3 := g2.below hb3
  have B3 := then_ B2 hb3
  have hgo : w2.heap.size < w3.heap.size := hm.lt
  have Hg2 := Lib.hid g2
  clear g2 B2
  go_loopw [8] (fun i wr => ∃ k : Nat, 32 * k ≤ n + 31 ∧ i = .int .i64 ((32 * k : Nat) : Int) ∧ Bb wr w2.heap.size 5 ((expN seed k).take n ++ List.replicate (n - 32 * k) 0) ∧ Below w2.heap.size w2 wr ∧ Below w.heap.size w wr) (fun i _ => n + 32 - (intOf i).toNat)
  case atStart => exact ⟨0, by omega, rfl, by simpa [expN] using hm, hb3, B3⟩
  case round =>
    clear hm g3 B3 hb3
    obtain ⟨k, hk32, rfl, ho, hb2, hB⟩ := hrel
    have hh := Hg2.out.below hb2
    have Hb2 := Lib.hid hb2
    clear hb2
    have hsr := hB.size
    have hor := ho.lt
    by_cases hlt : 32 * k < n
    · obtain ⟨cs, hcl, hc1, hcc⟩ := hh.cells
      have z0 : (wr.alloc ZeroH).heap[wr.heap.size]? = some (.cells (hcells zeroSt none 0 0 0).toArray 83 (0, 0)) := heap_alloc_new wr _
      have bz : Below wr.heap.size wr (wr.alloc ZeroH) := (Below.refl _ _).alloc (Nat.le_refl _) _
      have r1 : ((wr.alloc ZeroH).setRow wr.heap.size cs.toArray).heap[wr.heap.size]? = some (.cells cs.toArray 83 (0, 0)) := setRow_heap _ _ _ _ _ _ z0
      have b1 : Below wr.heap.size wr ((wr.alloc ZeroH).setRow wr.heap.size cs.toArray) := below_setRow bz (Nat.le_refl _) _
      have h1 : HashAt ((wr.alloc ZeroH).setRow wr.heap.size cs.toArray) w1.heap.size wr.heap.size seed := hh.copy hcc (Nat.le_refl _) b1 r1
      obtain ⟨wa, hwa⟩ : ∃ wa, (wr.alloc ZeroH).setRow wr.heap.size cs.toArray = wa := ⟨_, rfl⟩
      rw [hwa] at b1 h1
      have Hwa := Lib.hid hwa
      have Hcl := Lib.hid hcl
      have Hho := Lib.hid ho
      have Hhh := Lib.hid hh
      clear hwa bz r1 hcl ho hh
      have w32 : 32 * (k : Int) / 32 = (k : Int) := by omega
      go_wp2_with (first
        | (refine wpList_load_row rfl 83 (.tmp 28) rfl w.heap.size rfl 83 cs.toArray (0, 0) _ hcc Tryz.underlying83 rfl (by rw [List.size_toArray, Hcl.out]; kernel_rfl) ?_)
        | (change wpList _ _ _ _ _ (wr.alloc ZeroH); refine wpList_store_row rfl rfl 83 (.tmp 9) (.tmp 29) rfl wr.heap.size rfl cs rfl 83 _ z0 hc1 (by rw [Hcl.out]; rfl) (by rw [Hcl.out]; kernel_rfl) ?_; rw [Hwa.out]))
      refine (bytesOf_any k (by omega) wa).mono ?_
      rintro e wb ⟨rfl, bb⟩
      have B1 := then_ b1 bb
      have h2 := h1.below bb
      have y0 : Bb (wb.alloc (Yb 84 (List.replicate 4 0))) wb.heap.size 84 (List.replicate 4 0) := alloc_bb _ _ _
      have B2 : Below wr.heap.size wr ((wb.alloc (Yb 84 (List.replicate 4 0))).setRow wb.heap.size (bs (by4 k)).toArray) := below_setRow (B1.alloc B1.size _) B1.size _
      have y1 : Bb ((wb.alloc (Yb 84 (List.replicate 4 0))).setRow wb.heap.size (bs (by4 k)).toArray) wb.heap.size 84 (by4 k) := setRow_heap _ _ _ _ _ _ y0
      have h3 : HashAt ((wb.alloc (Yb 84 (List.replicate 4 0))).setRow wb.heap.size (bs (by4 k)).toArray) w1.heap.size wr.heap.size seed := h2.below (below_setRow ((Below.refl _ _).alloc (Nat.le_refl _) _) (Nat.le_refl _) _)
      obtain ⟨wc, hwc⟩ : ∃ wc, (wb.alloc (Yb 84 (List.replicate 4 0))).setRow wb.heap.size (bs (by4 k)).toArray = wc := ⟨_, rfl⟩
      rw [hwc] at B2 y1 h3
      have Hwc := Lib.hid hwc
      clear hwc
      go_wp2_with (change wpList _ _ _ _ _ (wb.alloc (Yb 84 (List.replicate 4 0))); refine wpList_store_row rfl rfl 84 (.tmp 10) (.tmp 33) rfl wb.heap.size rfl (bs (by4 k)) rfl 84 _ y0 (bs_one _) (by simp [bs, by4]) (by kernel_rfl) ?_; rw [Hwc.out])
      have yn := y1.nb 0 4 4 (by simp [by4]) (Nat.le_refl _) (by omega) (by4_lim k)
      rw [List.drop_zero, List.take_of_length_le (by simp [by4])] at yn
      refine (write_any (hk.below (hB.trans (B2.mono hsr)) hsz) h3 yn (by rw [Hl.out]; omega) (by omega)).mono ?_
      rintro e wd ⟨rfl, h4, q4⟩
      have B3 := below_write B2 q4 (Nat.le_refl _) (Nat.le_refl _)
      clear h1 h2 h3 y0 y1 yn q4 B1 B2 b1 bb z0 hcc hc1
      have hs := sumOf_any (hk.below (hB.trans (B3.mono hsr)) hsz) h4
      obtain ⟨Dg, hDg⟩ : ∃ Dg, sha (seed ++ by4 k) = Dg := ⟨_, rfl⟩
      rw [hDg] at hs
      have hDl : Dg.length = 32 := by rw [← hDg, length_sha]
      have hDL : Lim 256 Dg := by rw [← hDg]; exact sha_lim _
      have HDg := Lib.hid hDg
      clear hDg
      go_wp2_with fail
      refine hs.mono ?_
      rintro e we ⟨rfl, be⟩
      have B4 := then_ B3 be
      have t0 : Bb (we.alloc (Yb 75 (List.replicate 32 0))) we.heap.size 75 (List.replicate 32 0) := alloc_bb _ _ _
      have B5 : Below wr.heap.size wr ((we.alloc (Yb 75 (List.replicate 32 0))).setRow we.heap.size (bs Dg).toArray) := below_setRow (B4.alloc B4.size _) B4.size _
      have t1 : Bb ((we.alloc (Yb 75 (List.replicate 32 0))).setRow we.heap.size (bs Dg).toArray) we.heap.size 75 Dg := setRow_heap _ _ _ _ _ _ t0
      obtain ⟨wf, hwf⟩ : ∃ wf, (we.alloc (Yb 75 (List.replicate 32 0))).setRow we.heap.size (bs Dg).toArray = wf := ⟨_, rfl⟩
      rw [hwf] at B5 t1
      have Hwf := Lib.hid hwf
      have HDbl : Hid ((bs Dg).length = 32) := by show _ = _; rw [length_bs, hDl]
      have HDl := Lib.hid hDl
      clear hwf hs h4 hDl
      go_wp2_with (change wpList _ _ _ _ _ (we.alloc (Yb 75 (List.replicate 32 0))); refine wpList_store_row rfl rfl 75 (.tmp 11) (.tmp 36) rfl we.heap.size rfl (bs Dg) rfl 75 _ t0 (bs_one _) (by rw [HDbl.out]; simp [bs]) (by rw [HDbl.out]; kernel_rfl) ?_; rw [Hwf.out])
      have o5 : Bb wf w2.heap.size 5 _ := Hho.out.below B5 hor
      have B6 : Below w.heap.size w wf := hB.trans (B5.mono hsr)
      have Hst := Lib.hid (splice_exp seed n k Dg HDl.out hlt)
      have sl1 := fun W => slice_out w2.heap.size n k hlt hn W
      have sl2 := fun W => slice_sum we.heap.size W
      have hcl : (bs ((expN seed k).take n ++ List.replicate (n - 32 * k) 0)).length = n := by
        rw [length_bs, List.length_append, List.length_take, length_expN, List.length_replicate]
        simp only [Nat.min_def]; split <;> omega
      have Ho5 : Hid (wf.drew.heap[w2.heap.size]? = some (.cells (bs ((expN seed k).take n ++ List.replicate (n - 32 * k) 0)).toArray 5 (0, 0))) := o5
      have Hn : Hid ((bs (Dg.take (n - 32 * k))).length = Nat.min 32 (n - 32 * k)) := by
        show _ = _
        rw [length_bs, List.length_take, HDl.out]; exact Nat.min_comm _ _
      have Hpos : Hid (0 < (bs (Dg.take (n - 32 * k))).length → some (⟨w2.heap.size, 32 * k, none⟩ : Addr) = some ⟨w2.heap.size, 32 * k, none⟩ ∧ ∃ ad, some (⟨we.heap.size, 0, none⟩ : Addr) = some ad ∧ ∀ j v, (bs (Dg.take (n - 32 * k)))[j]? = some v → wf.drew.cell? (ad.add j) = some v) := fun _ => ⟨rfl, _, rfl, fun j v hj => by
        simp only [bs, List.getElem?_map, Option.map_eq_some_iff] at hj
        obtain ⟨y, hy, rfl⟩ := hj
        rw [List.getElem?_take] at hy
        split at hy
        · have := t1.drew.cell hy
          by_cases hj0 : j = 0
          · subst hj0; simpa [Addr.add] using this
          · simpa [Addr.add, hj0] using this
        · cases hy⟩
      have Hfit : Hid (32 * k + (bs (Dg.take (n - 32 * k))).length ≤ (bs ((expN seed k).take n ++ List.replicate (n - 32 * k) 0)).length) := by
        show _ ≤ _
        rw [hcl, length_bs, List.length_take, HDl.out]
        simp only [Nat.min_def]; split <;> omega
      have HY1 := Lib.hid (bs_one (Dg.take (n - 32 * k)))
      have Hb5 := Lib.hid (Hb2.out.trans (B5.mono (Nat.le_of_lt hor)))
      have HB6 := Lib.hid B6
      have hgw : w2.heap.size < wf.heap.size := o5.lt
      generalize hcur : bs ((expN seed k).take n ++ List.replicate (n - 32 * k) 0) = cur at *
      generalize hY : bs (Dg.take (n - 32 * k)) = Y at *
      have Hcur := Lib.hid hcur
      clear o5 B6 hcl hcur hY t1 B5 t0 B4 be B3 Hho
      go_region_law (refine step_copy_splice rfl (.tmp 39) (.tmp 40) 32 32 rfl 5 Tryz.underlying32 (by kernel_rfl) (some ⟨w2.heap.size, 32 * k, none⟩) (some ⟨we.heap.size, 0, none⟩) (n - 32 * k) (n - 32 * k) 32 32 (by simp [Act.eval, Act.put]) (by simp [Act.eval, Act.put]) w2.heap.size (32 * k) cur 5 Ho5.out Y Hn.out Hpos.out Hfit.out HY1.out w2.heap.size wf.drew (Below.refl _ _) (Nat.le_refl _) ?_; intro w4 hw4 hb4)
      all_goals go_wp2
      all_goals go_roundw
      case rel =>
        refine ⟨k + 1, by omega, by congr 1, ?_, Hb5.out.drew.trans hb4, HB6.out.drew.trans (hb4.mono (by omega))⟩
        have e := hw4.out
        rw [Hst.out, ← HDg.out] at e
        exact e
      case measure => simp [intOf]; omega
    · have hf : Bb wr w2.heap.size 5 (expand seed n) := by
        have h1 : n - 32 * k = 0 := by omega
        rw [h1, List.replicate_zero, List.append_nil] at ho
        have e : (expN seed k).take n = expand seed n := by
          obtain ⟨r, hr⟩ := expN_mono seed ((n + 31) / 32) k (by omega)
          rw [hr, List.take_append_of_le_length (by rw [length_expN]; omega)]; rfl
        rwa [e] at ho
      have hge : n ≤ 32 * k := by omega
      clear hlt ho
      go_wp2
      go_ret2
      exact ⟨w2.heap.size, rfl, by omega, hf, hB⟩
end Go.Proofs.YtkhlmcknbangfaaGreatDoor.Sh
