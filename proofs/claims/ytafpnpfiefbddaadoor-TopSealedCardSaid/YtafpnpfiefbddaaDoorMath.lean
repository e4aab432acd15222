/- The plain mathematics of the digest: words of 32 bits, schedule, rounds, blocks, the padded text. -/
import Derived.Laws.BitsAllLaws
namespace Go.Proofs.YtafpnpfiefbddaaDoor
set_option linter.unusedSimpArgs false
set_option linter.unusedVariables false

/-- the words' operations -/
def wx (a b : Nat) : Nat := (bits .xor .u32 (a : Int) (b : Int)).toNat
def wa (a b : Nat) : Nat := (bits .and .u32 (a : Int) (b : Int)).toNat
def wo (a b : Nat) : Nat := (bits .or .u32 (a : Int) (b : Int)).toNat
def wn (a : Nat) : Nat := wx 4294967295 a
def ad (a b : Nat) : Nat := (a + b) % 4294967296
def dn (x n : Nat) : Nat := x / 2 ^ n
def up (x n : Nat) : Nat := x * 2 ^ n % 4294967296
def rt (x n : Nat) : Nat := wo (up x (32 - n)) (dn x n)

theorem wrap_u32_nonneg' (n : Int) : 0 ≤ IntKind.u32.wrap n := by rw [IntKind.wrap_u32']; omega
theorem bits_u32_nonneg (o : BinOp) (h : o = .xor ∨ o = .and ∨ o = .or) (a b : Int) : 0 ≤ bits o .u32 a b := by
  rcases h with rfl | rfl | rfl <;> exact wrap_u32_nonneg' _
theorem bits_u32_lt (o : BinOp) (h : o = .xor ∨ o = .and ∨ o = .or) (a b : Int) : bits o .u32 a b < 4294967296 := by
  have : ∀ n : Int, IntKind.u32.wrap n < 4294967296 := fun n => by rw [IntKind.wrap_u32']; omega
  rcases h with rfl | rfl | rfl <;> exact this _
theorem bits_wx (a b : Nat) : bits .xor .u32 (a : Int) (b : Int) = (wx a b : Int) := by
  have := bits_u32_nonneg .xor (by simp) (a : Int) (b : Int); unfold wx; omega
theorem bits_wa (a b : Nat) : bits .and .u32 (a : Int) (b : Int) = (wa a b : Int) := by
  have := bits_u32_nonneg .and (by simp) (a : Int) (b : Int); unfold wa; omega
theorem bits_wo (a b : Nat) : bits .or .u32 (a : Int) (b : Int) = (wo a b : Int) := by
  have := bits_u32_nonneg .or (by simp) (a : Int) (b : Int); unfold wo; omega
theorem bits_wn (a : Nat) : bits .xor .u32 4294967295 (a : Int) = (wn a : Int) := bits_wx 4294967295 a
theorem bits_wn2 (a : Nat) : bits .xor .u32 (if IntKind.u32.signed = true then -1 else IntKind.u32.max) (a : Int) = (wn a : Int) := bits_wn a
theorem wx_lt (a b : Nat) : wx a b < 4294967296 := by have := bits_u32_lt .xor (by simp) (a : Int) (b : Int); unfold wx; omega
theorem wa_lt (a b : Nat) : wa a b < 4294967296 := by have := bits_u32_lt .and (by simp) (a : Int) (b : Int); unfold wa; omega
theorem wo_lt (a b : Nat) : wo a b < 4294967296 := by have := bits_u32_lt .or (by simp) (a : Int) (b : Int); unfold wo; omega
theorem wn_lt (a : Nat) : wn a < 4294967296 := wx_lt _ _
theorem ad_lt (a b : Nat) : ad a b < 4294967296 := by unfold ad; omega
theorem rt_lt (a b : Nat) : rt a b < 4294967296 := wo_lt _ _
theorem add_ad (a b : Nat) : ((a : Int) + (b : Int)) % 4294967296 = (ad a b : Int) := by unfold ad; omega
theorem wrap_ad (a b : Nat) : IntKind.u32.wrap ((a : Int) + (b : Int)) = (ad a b : Int) := by rw [IntKind.wrap_u32', add_ad]
theorem div_dn (x n : Nat) : (x : Int) / 2 ^ n = (dn x n : Int) := by unfold dn; simp
theorem mul_up (x n : Nat) : (x : Int) * 2 ^ n % 4294967296 = (up x n : Int) := by unfold up; simp
theorem div_8 (x : Nat) : (x : Int) / 8 = (dn x 3 : Int) := div_dn x 3
theorem div_1024 (x : Nat) : (x : Int) / 1024 = (dn x 10 : Int) := div_dn x 10
theorem wo_comm (a b : Nat) : wo a b = wo b a := by
  show (IntKind.u32.wrap (BitVec.toNat (BitVec.ofInt 32 (a : Int) ||| BitVec.ofInt 32 (b : Int)) : Int)).toNat = (IntKind.u32.wrap (BitVec.toNat (BitVec.ofInt 32 (b : Int) ||| BitVec.ofInt 32 (a : Int)) : Int)).toNat
  rw [BitVec.or_comm]
theorem wo_nat {a b : Nat} (ha : a < 4294967296) (hb : b < 4294967296) : wo a b = a ||| b := by
  unfold wo; rw [u32_or_nat a b ha hb]; rfl
theorem or_add {a b n : Nat} (hb : b < 2 ^ n) : a * 2 ^ n ||| b = a * 2 ^ n + b := by
  rw [Nat.mul_comm, ← Nat.two_pow_add_eq_or_of_lt hb]

/-- four bytes as a word -/
def word (a b c d : Nat) : Nat := ((a * 256 + b) * 256 + c) * 256 + d
theorem word_or {a b c d : Nat} (ha : a < 256) (hb : b < 256) (hc : c < 256) (hd : d < 256) :
    wo (wo (wo (up a 24) (up b 16)) (up c 8)) d = word a b c d := by
  have e1 : up a 24 = a * 65536 * 256 := by unfold up; omega
  have e2 : up b 16 = b * 65536 := by unfold up; omega
  have e3 : up c 8 = c * 256 := by unfold up; omega
  rw [e1, e2, e3]
  have h1 : a * 65536 * 256 ||| b * 65536 = (a * 256 + b) * 65536 := by
    have := or_add (a := a) (b := b * 65536) (n := 24) (by omega)
    simp only [show (2 : Nat) ^ 24 = 16777216 from rfl] at this
    rw [show a * 65536 * 256 = a * 16777216 by omega, this]; omega
  have h2 : (a * 256 + b) * 65536 ||| c * 256 = ((a * 256 + b) * 256 + c) * 256 := by
    have := or_add (a := a * 256 + b) (b := c * 256) (n := 16) (by omega)
    simp only [show (2 : Nat) ^ 16 = 65536 from rfl] at this
    rw [this]; omega
  have h3 : ((a * 256 + b) * 256 + c) * 256 ||| d = ((a * 256 + b) * 256 + c) * 256 + d := or_add (n := 8) (by omega)
  rw [wo_nat (a := a * 65536 * 256) (by omega) (by omega), h1, wo_nat (a := (a * 256 + b) * 65536) (by omega) (by omega), h2, wo_nat (by omega) (by omega), h3]
  rfl
theorem word_lt {a b c d : Nat} (ha : a < 256) (hb : b < 256) (hc : c < 256) (hd : d < 256) : word a b c d < 4294967296 := by unfold word; omega

/-- the schedule: the first 16 words, then those that follow -/
def sg0 (x : Nat) : Nat := wx (wx (rt x 7) (rt x 18)) (dn x 3)
def sg1 (x : Nat) : Nat := wx (wx (rt x 17) (rt x 19)) (dn x 10)
def wordAt (p : List Nat) (t : Nat) : Nat := word (p.getD (4 * t) 0) (p.getD (4 * t + 1) 0) (p.getD (4 * t + 2) 0) (p.getD (4 * t + 3) 0)
def sched1 (p : List Nat) : Nat → List Nat
  | 0 => []
  | t + 1 => sched1 p t ++ [wordAt p t]
def nextW (w : List Nat) : Nat := ad (ad (ad (sg1 (w.getD (w.length - 2) 0)) (w.getD (w.length - 7) 0)) (sg0 (w.getD (w.length - 15) 0))) (w.getD (w.length - 16) 0)
def sched2 (w : List Nat) : Nat → List Nat
  | 0 => w
  | t + 1 => sched2 w t ++ [nextW (sched2 w t)]
def sched (p : List Nat) : List Nat := sched2 (sched1 p 16) 48
theorem length_sched1 (p : List Nat) (t : Nat) : (sched1 p t).length = t := by induction t with
  | zero => rfl
  | succ t ih => simp [sched1, ih]
theorem length_sched2 (w : List Nat) (t : Nat) : (sched2 w t).length = w.length + t := by induction t with
  | zero => rfl
  | succ t ih => simp [sched2, ih]; omega
theorem length_sched (p : List Nat) : (sched p).length = 64 := by rw [sched, length_sched2, length_sched1]

/-- eight words, and what a round makes of them -/
structure St where
  a : Nat
  b : Nat
  c : Nat
  d : Nat
  e : Nat
  f : Nat
  g : Nat
  h : Nat
def bs1 (e : Nat) : Nat := wx (wx (rt e 6) (rt e 11)) (rt e 25)
def bs0 (a : Nat) : Nat := wx (wx (rt a 2) (rt a 13)) (rt a 22)
def ch (e f g : Nat) : Nat := wx (wa e f) (wa (wn e) g)
def maj (a b c : Nat) : Nat := wx (wx (wa a b) (wa a c)) (wa b c)
def t1 (s : St) (k w : Nat) : Nat := ad (ad (ad (ad s.h (bs1 s.e)) (ch s.e s.f s.g)) k) w
def t2 (s : St) : Nat := ad (bs0 s.a) (maj s.a s.b s.c)
def rnd (s : St) (k w : Nat) : St := ⟨ad (t1 s k w) (t2 s), s.a, s.b, s.c, ad s.d (t1 s k w), s.e, s.f, s.g⟩
def rnds (ks ws : List Nat) (s : St) : Nat → St
  | 0 => s
  | t + 1 => rnd (rnds ks ws s t) (ks.getD t 0) (ws.getD t 0)
def plus (x y : St) : St := ⟨ad x.a y.a, ad x.b y.b, ad x.c y.c, ad x.d y.d, ad x.e y.e, ad x.f y.f, ad x.g y.g, ad x.h y.h⟩
def kk : List Nat := [
  0x428a2f98, 0x71374491, 0xb5c0fbcf, 0xe9b5dba5, 0x3956c25b, 0x59f111f1, 0x923f82a4, 0xab1c5ed5,
  0xd807aa98, 0x12835b01, 0x243185be, 0x550c7dc3, 0x72be5d74, 0x80deb1fe, 0x9bdc06a7, 0xc19bf174,
  0xe49b69c1, 0xefbe4786, 0x0fc19dc6, 0x240ca1cc, 0x2de92c6f, 0x4a7484aa, 0x5cb0a9dc, 0x76f988da,
  0x983e5152, 0xa831c66d, 0xb00327c8, 0xbf597fc7, 0xc6e00bf3, 0xd5a79147, 0x06ca6351, 0x14292967,
  0x27b70a85, 0x2e1b2138, 0x4d2c6dfc, 0x53380d13, 0x650a7354, 0x766a0abb, 0x81c2c92e, 0x92722c85,
  0xa2bfe8a1, 0xa81a664b, 0xc24b8b70, 0xc76c51a3, 0xd192e819, 0xd6990624, 0xf40e3585, 0x106aa070,
  0x19a4c116, 0x1e376c08, 0x2748774c, 0x34b0bcb5, 0x391c0cb3, 0x4ed8aa4a, 0x5b9cca4f, 0x682e6ff3,
  0x748f82ee, 0x78a5636f, 0x84c87814, 0x8cc70208, 0x90befffa, 0xa4506ceb, 0xbef9a3f7, 0xc67178f2]
def first : St := ⟨0x6a09e667, 0xbb67ae85, 0x3c6ef372, 0xa54ff53a, 0x510e527f, 0x9b05688c, 0x1f83d9ab, 0x5be0cd19⟩
/-- what a block changes -/
def chg (s : St) (p : List Nat) : St := plus s (rnds kk (sched p) s 64)
/-- what the first n blocks of some bytes change -/
def chgN (s : St) (bs : List Nat) : Nat → St
  | 0 => s
  | n + 1 => chg (chgN s bs n) ((bs.drop (64 * n)).take 64)

/-- the digest's bytes -/
def by4 (x : Nat) : List Nat := [x / 16777216 % 256, x / 65536 % 256, x / 256 % 256, x % 256]
def words (s : St) : List Nat := [s.a, s.b, s.c, s.d, s.e, s.f, s.g, s.h]
def dig (s : St) : List Nat := (words s).flatMap by4
/-- eight bytes of a number, the greatest first -/
def by8 (n : Nat) : List Nat := [n / 72057594037927936 % 256, n / 281474976710656 % 256, n / 1099511627776 % 256, n / 4294967296 % 256, n / 16777216 % 256, n / 65536 % 256, n / 256 % 256, n % 256]
/-- what stands behind n bytes in the padded text -/
def pad (n : Nat) : List Nat := 128 :: (List.replicate ((119 - n % 64) % 64) 0 ++ by8 (8 * n))
theorem length_pad (n : Nat) : (pad n).length = 9 + (119 - n % 64) % 64 := by simp [pad, by8]; omega
theorem pad_whole (n : Nat) : (n + (pad n).length) % 64 = 0 := by rw [length_pad]; omega
/-- the digest -/
def sha (b : List Nat) : List Nat := dig (chgN first (b ++ pad b.length) ((b.length + (pad b.length).length) / 64))

theorem chgN_append (s : St) (a b : List Nat) (n : Nat) (h : 64 * n ≤ a.length) : chgN s (a ++ b) n = chgN s a n := by
  induction n with
  | zero => rfl
  | succ n ih =>
    rw [chgN, chgN, ih (by omega)]
    congr 1
    rw [List.drop_append_of_le_length (by omega), List.take_append_of_le_length (by simp; omega)]
theorem chgN_add (s : St) (a : List Nat) (m n : Nat) : chgN s a (m + n) = chgN (chgN s a m) (a.drop (64 * m)) n := by
  induction n with
  | zero => rfl
  | succ n ih =>
    rw [Nat.add_succ, chgN, ih, chgN, List.drop_drop, Nat.mul_add]
/-- taken in two pieces: the words behind the first, what it left over, and the second -/
theorem chgN_two (s : St) (a b : List Nat) : chgN s (a ++ b) ((a.length + b.length) / 64) =
    chgN (chgN s a (a.length / 64)) (a.drop (64 * (a.length / 64)) ++ b) (((a.drop (64 * (a.length / 64))).length + b.length) / 64) := by
  have e : (a.length + b.length) / 64 = a.length / 64 + ((a.drop (64 * (a.length / 64))).length + b.length) / 64 := by
    rw [List.length_drop]; omega
  rw [e, chgN_add, chgN_append _ _ _ _ (by omega), List.drop_append_of_le_length (by omega)]

example : (sha []).take 4 = [0xe3, 0xb0, 0xc4, 0x42] := by decide +kernel
theorem rnds_zero (ks ws : List Nat) (s : St) : rnds ks ws s 0 = s := rfl
theorem rnds_succ (ks ws : List Nat) (s : St) (t : Nat) : rnds ks ws s (t + 1) = rnd (rnds ks ws s t) (ks.getD t 0) (ws.getD t 0) := rfl
theorem chgN_zero (s : St) (b : List Nat) : chgN s b 0 = s := rfl
theorem chgN_succ (s : St) (b : List Nat) (n : Nat) : chgN s b (n + 1) = chg (chgN s b n) ((b.drop (64 * n)).take 64) := rfl
theorem chg_is (s : St) (p : List Nat) : chg s p = plus s (rnds kk (sched p) s 64) := rfl
theorem sha_is (b : List Nat) : sha b = dig (chgN first (b ++ pad b.length) ((b.length + (pad b.length).length) / 64)) := rfl
attribute [irreducible] sched1 sched2 sched rnds chgN chg sha
end Go.Proofs.YtafpnpfiefbddaaDoor
