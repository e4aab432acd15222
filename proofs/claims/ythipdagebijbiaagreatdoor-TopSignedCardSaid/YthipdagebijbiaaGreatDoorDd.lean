/- nat.Write. nat.Read: the number of some bytes. bytes told as a string; bytes.Equal; from nat's bytes to sha's. prime.Passes; iff: lessOne, generates, Right. iff: generates, Right. iff: power, less, markOf. iff: Face, Mark, Answer, Holds, Extract. iff: Holds, Extract. layer 6's statements: heavy, Heavy, small. pkey: isOdd, Size, Right, secretRight, lessOne, mayBePrime, mayBePower. pkey: mayBePower, secretRight; mersenne's numbers. pkey: Make. pkey: Sign of a short key; keys of known primes. the top's statements of layer 5: alive03. bytes.Repeat of one byte. pkey: framed, signed, work, fits. pkey: signed, work. pkey: fits, Sign. pkey: Verify. pkey: Public, Verify. PkeyHolds: its arithmetic. PkeyHolds: what Verify answers. -/
import Derived.Test.YthipdagebijbiaaGreatDoorBase
import Derived.Test.YthipdagebijbiaaGreatDoorMaths
import Derived.Test.YthipdagebijbiaaGreatDoorSh
import Derived.Laws.BytesArg
import Derived.Test.YthipdagebijbiaaGreatDoorM15
import Derived.Deep.RegionHeld3
import Derived.Laws.ResultCell
import Derived.Test.YthipdagebijbiaaGreatDoorMul64
import Derived.Lib.MakeNoZero
import Derived.Deep.RegionLawGrows
import Derived.Laws.CopyOwn
import Derived.Laws.Externs
import Derived.Lib.Bytes
namespace Go.Proofs.YthipdagebijbiaaGreatDoor
set_option linter.unusedSimpArgs false
set_option linter.unusedVariables false
open Go.RowKit

/-- block g is just the bytes xs -/
def Ob (w : World) (g : Nat) (xs : List Nat) : Prop := w.heap[g]? = some (.cells (xs.map fun x : Nat => Value.int .u8 (x : Int)).toArray 5 (0, 0))
theorem Ob.lt {w : World} {g : Nat} {xs : List Nat} (h : Ob w g xs) : g < w.heap.size := by
  rcases Nat.lt_or_ge g w.heap.size with hlt | hge
  · exact hlt
  · unfold Ob at h; rw [Array.getElem?_eq_none hge] at h; cases h
theorem Ob.cell {w : World} {g : Nat} {xs : List Nat} (h : Ob w g xs) {j x : Nat} (hx : xs[j]? = some x) : w.cell? ⟨g, j, none⟩ = some (.int .u8 (x : Int)) := by
  rw [cell_of_row w g j _ 5 (0, 0) h]
  simp [hx]
theorem Ob.frozen {w : World} {g : Nat} {xs : List Nat} (h : Ob w g xs) (j : Nat) : w.frozen? ⟨g, j, none⟩ = false := by
  unfold Ob at h
  simp [World.frozen?, h]
theorem Ob.set_ {w : World} {g : Nat} {xs : List Nat} (h : Ob w g xs) (j x : Nat) : Ob (w.setCell ⟨g, j, none⟩ (.int .u8 (x : Int))) g (xs.set j x) := by
  unfold Ob at h ⊢
  simp [World.setCell, Array.getElem?_modify, h]
theorem Ob.drew {w : World} {g : Nat} {xs : List Nat} (h : Ob w g xs) : Ob w.drew g xs := h
theorem Ob.drewN {w : World} {g : Nat} {xs : List Nat} (h : Ob w g xs) (n : Nat) : Ob (w.drewN n) g xs := h
theorem Ob.below {w w' : World} {B g : Nat} {xs : List Nat} (h : Ob w g xs) (hb : Below B w w') (hg : g < B) : Ob w' g xs := (hb.block g hg).trans h

theorem Tryz.info5 : (Tryz.prog.info? 5).map (fun i => (i.zero, i.size, i.bytes)) = some (some (.int .u8 0), 1, 1) := by kernel_rfl
theorem run_make_ub (n : Nat) (hn : n ≤ 8796093022208) (w : World) : (Instr.makeSlice 23 (.int .i64 (n : Int)) (.int .i64 (n : Int))).run Tryz.prog w =
    .ok (.slice (some ⟨w.heap.size, 0, none⟩) n n) (w.alloc (.cells ((List.replicate n 0).map fun x : Nat => Value.int .u8 (x : Int)).toArray 5)) := by
  obtain ⟨i0, hi, hz0, hz1, hz2⟩ := info_parts Tryz.info5
  have hr := run_make (P := Tryz.prog) w 23 5 i0 (.int .u8 0) Tryz.underlying23 hi hz0 .i64 .i64 n n (by omega) (Int.le_refl _) (by rw [hz2]; omega) (by omega)
  simp only [Int.toNat_natCast] at hr
  rw [hr, hz1, Nat.mul_one]
  have : (madeCells (Value.int .u8 0).cells n) = ((List.replicate n 0).map fun x : Nat => Value.int .u8 (x : Int)).toArray := by
    apply Array.ext'
    rw [show (madeCells (Value.int .u8 0).cells n).toList = List.replicate n (.int .u8 0) from toList_madeCells_one _ _]
    simp
  rw [this]
theorem wpList_make_ub (w : World) {ops : Array Oper} {rest : List Oper} {o : Oper} {a : Act} {Q : Exit → Act → World → Prop}
    (hg : o.guard = none) (l c : Operand) (hop : o.op = Op.makeSlice 23 l c) (L C : Int) (n : Nat) (hl : a.eval l = .int .i64 L) (hc : a.eval c = .int .i64 C) (hL : L = (n : Int)) (hC : C = (n : Int)) (hn : n ≤ 8796093022208)
    (hK : ∀ w', Ob w' w.heap.size (List.replicate n 0) → w.grownBy w' none → wpList Tryz.prog ops Q rest (a.put o.dst (.slice (some ⟨w.heap.size, 0, none⟩) n n)) w') :
    wpList Tryz.prog ops Q (o :: rest) a w := by
  refine wpList_plain hg fun K hK' => ?_
  have hrun := run_make_ub n hn w
  subst hL
  subst hC
  unfold Oper.wp
  simp [execOp, hop, hl, hc, hrun, Result.andThen]
  exact hK' _ _ (hK _ (by
    have e : Array.replicate n (Value.int .u8 0) = ((List.replicate n 0).map fun x : Nat => Value.int .u8 (x : Int)).toArray := by simp
    show _ = _
    rw [e]
    exact heap_alloc_new w _) (World.grownBy_alloc w _ none))

/-- the last n bytes of a number, the greatest first -/
def bts (v : Nat) : Nat → List Nat
  | 0 => []
  | i + 1 => (v / 256 ^ i % 256) :: bts v i
theorem length_bts (v : Nat) : ∀ n, (bts v n).length = n
  | 0 => rfl
  | n + 1 => by simp [bts, length_bts v n]

theorem byte_of {xs : List Nat} (hL : Lim 18446744073709551616 xs) (i : Nat) : val 18446744073709551616 xs / 256 ^ i % 256 = xs.getD (i / 8) 0 / 2 ^ (i % 8 * 8) % 256 := by
  have hp : i % 8 * 8 ≤ 56 := by omega
  have e : 256 ^ i = 2 ^ (64 * (i / 8) + i % 8 * 8) := by
    rw [show (256 : Nat) = 2 ^ 8 from rfl, ← Nat.pow_mul]; congr 1; omega
  rw [e, two_pow_limb, Nat.mul_comm, ← Nat.div_div_eq_div_mul]
  generalize i / 8 = k at *
  generalize i % 8 * 8 = p at *
  by_cases hk2 : k < xs.length
  · rw [val_div_pow hL (by omega) k (by omega), List.drop_eq_getElem_cons hk2]
    simp only [val]
    have e2 : xs.getD k 0 = xs[k] := by simp [List.getD, List.getElem?_eq_getElem hk2]
    rw [e2, show (18446744073709551616 : Nat) = 2 ^ p * (256 * 2 ^ (56 - p)) by rw [show (256 : Nat) = 2 ^ 8 from rfl, ← Nat.pow_add, ← Nat.pow_add, show p + (8 + (56 - p)) = 64 by omega], Nat.mul_assoc, Nat.add_mul_div_left _ _ (Nat.two_pow_pos p), Nat.mul_assoc, Nat.add_mul_mod_self_left]
  · have h1 := val_lt hL
    have h2 : (18446744073709551616 : Nat) ^ xs.length ≤ 18446744073709551616 ^ k := Nat.pow_le_pow_right (by omega) (by omega)
    rw [Nat.div_eq_of_lt (show val 18446744073709551616 xs < 18446744073709551616 ^ k by omega)]
    simp [List.getD, List.getElem?_eq_none (show xs.length ≤ k by omega)]

/-- what Write hands back -/
def Wrote (v : Nat) (n : Int) (w : World) (e : Ending) (w' : World) : Prop :=
  ((n < 0 ∨ 65536 < n) ∧ e = .returned (.tuple #[.slice none 0 0, .int .i64 1]) ∧ Below w.heap.size w w') ∨
  ((0 ≤ n ∧ n ≤ 65536 ∧ 8 * n < (bl v : Int)) ∧ e = .returned (.tuple #[.slice none 0 0, .int .i64 12]) ∧ Below w.heap.size w w') ∨
  ((0 ≤ n ∧ n ≤ 65536 ∧ (bl v : Int) ≤ 8 * n) ∧ e = .returned (.tuple #[.slice (some ⟨w.heap.size, 0, none⟩) n.toNat n.toNat, .int .i64 0]) ∧ Ob w' w.heap.size (bts v n.toNat) ∧ Below w.heap.size w w')

theorem write_round {w wr : World} {m j t x p v : Nat} (hm : m = t + 1 + j) (how : Ob wr w.heap.size (List.replicate (m - j) 0 ++ bts v j)) (hbel : Below w.heap.size w wr) (hb : v / 256 ^ j % 256 = x / 2 ^ p % 256) :
    ∃ j' : Nat, j' ≤ m ∧ Value.int .i64 ((j : Int) + 1) = .int .i64 j' ∧ Ob (wr.setCell ⟨w.heap.size, t, none⟩ (.int .u8 ((x : Int) / 2 ^ p % 256))) w.heap.size (List.replicate (m - j') 0 ++ bts v j') ∧
      Below w.heap.size w (wr.setCell ⟨w.heap.size, t, none⟩ (.int .u8 ((x : Int) / 2 ^ p % 256))) := by
  refine ⟨j + 1, by omega, by simp, ?_, hbel.setCell (Nat.le_refl _) _⟩
  have e : ((x : Int) / 2 ^ p % 256) = ((x / 2 ^ p % 256 : Nat) : Int) := by simp
  rw [e, ← hb]
  have h1 := how.set_ t (v / 256 ^ j % 256)
  rw [hm, show t + 1 + j - j = t + 1 by omega, List.replicate_succ', List.append_assoc] at h1
  rw [hm, show t + 1 + j - (j + 1) = t by omega]
  have h2 : (List.replicate t 0 ++ ([0] ++ bts v j)).set t (v / 256 ^ j % 256) = List.replicate t 0 ++ bts v (j + 1) := by
    simp [bts]
  rw [h2] at h1
  exact h1

set_option maxHeartbeats 1000000 in
theorem write_any {w : World} {A : Option Addr} {n c : Nat} {xs : List Nat} (h : Nt w w.heap.size A n c xs) (hn : n ≤ 1099511627776) (k : Int) (hk0 : -9223372036854775808 ≤ k) (hk1 : k ≤ 9223372036854775807) :
    Calls Tryz.prog 95 #[.slice A n c, .int .i64 k] w (Wrote (val 18446744073709551616 xs) k w) := by
  by_cases h0 : k < 0
  · go_enter Tryz.func95, Tryz.ntmps95
    go_wp2
    go_ret2
    exact .inl ⟨.inl h0, rfl, Below.refl _ _⟩
  · by_cases h1 : 65536 < k
    · have h0' : 0 ≤ k := by omega
      go_enter Tryz.func95, Tryz.ntmps95
      go_wp2
      go_ret2
      exact .inl ⟨.inr h1, rfl, Below.refl _ _⟩
    · have h0' : 0 ≤ k := by omega
      have h1' : k ≤ 65536 := by omega
      have hbits := bits_any h hn
      by_cases h2 : 8 * k < (bl (val 18446744073709551616 xs) : Int)
      · generalize hv : bl (val 18446744073709551616 xs) = b at *
        have Hv := Lib.hid hv
        have Hb := Lib.hid hbits
        clear hv hbits h1 h0
        go_enter Tryz.func95, Tryz.ntmps95
        go_wp2_with (go_at_call 87; refine Hb.out.mono ?_; rintro e w' ⟨rfl, rfl⟩)
        go_ret2
        exact .inr (.inl ⟨⟨h0', h1', by rw [Hv.out]; exact h2⟩, rfl, Below.refl _ _⟩)
      · have h2' : (bl (val 18446744073709551616 xs) : Int) ≤ 8 * k := by omega
        generalize hv : bl (val 18446744073709551616 xs) = b at *
        have Hv := Lib.hid hv
        have Hb := Lib.hid hbits
        obtain ⟨m, rfl⟩ := Int.eq_ofNat_of_zero_le h0'
        have h0'' : (0 : Int) ≤ (m : Int) := by omega
        clear hv hbits h1 h0 h2
        have hm : m ≤ 65536 := by omega
        go_enter Tryz.func95, Tryz.ntmps95
        go_wp2_with (first
          | (go_at_call 87; refine Hb.out.mono ?_; rintro e w' ⟨rfl, rfl⟩)
          | (refine wpList_make_ub _ rfl _ _ rfl _ _ m rfl rfl rfl rfl (by omega) ?_; intro w1 hw1 hg1))
        go_loopw [0x16] (fun i wr => ∃ (j : Nat), j ≤ m ∧ i = .int .i64 j ∧ Ob wr w.heap.size (List.replicate (m - j) 0 ++ bts (val 18446744073709551616 xs) j) ∧ Below w.heap.size w wr) (fun i _ => m - (intOf i).toNat)
        case atStart => exact ⟨0, Nat.zero_le _, rfl, by simpa [bts] using hw1, below_none hg1 (Nat.le_refl _)⟩
        case round =>
          obtain ⟨j, hj, rfl, how, hbel⟩ := hrel
          by_cases hlt : j < m
          · obtain ⟨t, ht⟩ : ∃ t, m = t + 1 + j := ⟨m - 1 - j, by omega⟩
            have ei : (m : Int) - 1 - (j : Int) = (t : Int) := by omega
            have Ht := Lib.hid ht
            have htm : t < m := by omega
            have hc1 : wr.cell? ⟨w.heap.size, t, none⟩ = some (.int .u8 ((0 : Nat) : Int)) := how.cell (by
              rw [ht, show t + 1 + j - j = t + 1 by omega, List.replicate_succ', List.append_assoc]; simp)
            have hf1 := how.frozen t
            have hbr := h.below hbel
            have hlim := limb_any hbr ((j : Int) / 8) (by omega)
            rw [show ((j : Int) / 8).toNat = j / 8 by omega] at hlim
            have hby := byte_of h.lim j
            generalize hxe : xs.getD (j / 8) 0 = x at *
            have hp : ((j : Int) % 8) * 8 = ((j % 8 * 8 : Nat) : Int) := by omega
            generalize hpe : j % 8 * 8 = p at *
            have Hlim := Lib.hid hlim
            have Hby := Lib.hid hby
            have hp8 : p ≤ 56 := by omega
            clear ht hxe hlim hby hpe
            go_wp2_with (go_at_call 52; refine Hlim.out.mono ?_; rintro e w' ⟨rfl, rfl⟩)
            go_roundw
            case rel => exact write_round Ht.out how hbel Hby.out
            case measure => simp [intOf]; omega
          · have hjm : m - j = 0 := by omega
            have how' : Ob wr w.heap.size (bts (val 18446744073709551616 xs) m) := by
              have := how
              rw [hjm, show j = m by omega] at this
              simpa using this
            clear hjm how
            go_wp2
            go_ret2
            exact .inr (.inr ⟨⟨h0'', by omega, by rw [Hv.out]; exact h2'⟩, rfl, how', hbel⟩)
theorem write_ok {w : World} {A : Option Addr} {n c : Nat} {xs : List Nat} (h : Nt w w.heap.size A n c xs) (hn : n ≤ 1099511627776) (k : Nat) (x : Int) (hx : x = (k : Int)) (hk : k ≤ 65536) (hb : bl (val 18446744073709551616 xs) ≤ 8 * k) :
    Calls Tryz.prog 95 #[.slice A n c, .int .i64 x] w fun e w' => e = .returned (.tuple #[.slice (some ⟨w.heap.size, 0, none⟩) k k, .int .i64 0]) ∧ Ob w' w.heap.size (bts (val 18446744073709551616 xs) k) ∧ Below w.heap.size w w' := by
  subst hx
  exact (write_any h hn (k : Int) (by omega) (by omega)).mono fun e w' hd => by
    rcases hd with ⟨h0, _⟩ | ⟨h0, _⟩ | ⟨_, he, ho, hbl⟩
    · omega
    · omega
    · rw [Int.toNat_natCast] at he ho
      exact ⟨he, ho, hbl⟩

end Go.Proofs.YthipdagebijbiaaGreatDoor
namespace Go.Proofs.YthipdagebijbiaaGreatDoor
open Go.RowKit

/-- the slice value '.slice A n c' reads as the bytes xs; it lies below block B -/
structure Nb (w : World) (B : Nat) (A : Option Addr) (n c : Nat) (xs : List Nat) : Prop where
  len : xs.length = n
  cap : n ≤ c
  room : c ≤ maxLen
  lim : Lim 256 xs
  cell : 0 < n → ∃ b off, A = some ⟨b, off, none⟩ ∧ b < B ∧ ∀ j x : Nat, xs[j]? = some x → w.cell? ⟨b, off + j, none⟩ = some (.int .u8 (x : Int))
theorem Nb.at_ {w : World} {B : Nat} {A : Option Addr} {n c : Nat} {xs : List Nat} (h : Nb w B A n c xs) {k : Nat} (hk : k < n) :
    ∃ b off, A = some ⟨b, off, none⟩ ∧ b < B ∧ w.cell? ⟨b, off + k, none⟩ = some (.int .u8 ((xs.getD k 0 : Nat) : Int)) := by
  obtain ⟨b, off, e, hb, hc⟩ := h.cell (by omega)
  have hl : k < xs.length := by rw [h.len]; exact hk
  refine ⟨b, off, e, hb, ?_⟩
  have := hc k xs[k] (List.getElem?_eq_getElem hl)
  rw [this]
  simp [List.getD, List.getElem?_eq_getElem hl]
theorem Nb.keep {w w' : World} {B : Nat} {A : Option Addr} {n c : Nat} {xs : List Nat} (h : Nb w B A n c xs) (hk : ∀ p : Addr, p.block < B → w'.cell? p = w.cell? p) : Nb w' B A n c xs :=
  ⟨h.len, h.cap, h.room, h.lim, fun hn => by
    obtain ⟨b, off, e, hb, hc⟩ := h.cell hn
    exact ⟨b, off, e, hb, fun j x hx => (hk _ hb).trans (hc j x hx)⟩⟩
theorem Nb.more {w : World} {B B' : Nat} {A : Option Addr} {n c : Nat} {xs : List Nat} (h : Nb w B A n c xs) (hB : B ≤ B') : Nb w B' A n c xs :=
  ⟨h.len, h.cap, h.room, h.lim, fun hn => by
    obtain ⟨b, off, e, hb, hc⟩ := h.cell hn
    exact ⟨b, off, e, by omega, hc⟩⟩
theorem Nb.below {w w' : World} {B : Nat} {A : Option Addr} {n c : Nat} {xs : List Nat} (h : Nb w B A n c xs) (hb : Below B w w') : Nb w' B A n c xs := h.keep fun _ hp => hb.cell hp
theorem Nb.up {w w' : World} {A : Option Addr} {n c : Nat} {xs : List Nat} (h : Nb w w.heap.size A n c xs) (hb : Below w.heap.size w w') : Nb w' w'.heap.size A n c xs := (h.below hb).more hb.size
theorem Nb.dr {w : World} {A : Option Addr} {n c : Nat} {xs : List Nat} (h : Nb w w.heap.size A n c xs) (d : Nat) : Nb (w.drewN d) (w.drewN d).heap.size A n c xs := ⟨h.len, h.cap, h.room, h.lim, h.cell⟩
theorem Nb.rooms {w : World} {B : Nat} {A : Option Addr} {n c : Nat} {xs : List Nat} (h : Nb w B A n c xs) : n ≤ 9223372036854775807 ∧ c ≤ 9223372036854775807 := by
  have := h.cap
  have hr := h.room
  unfold maxLen at hr
  omega
theorem nb_nil (w : World) (B : Nat) : Nb w B none 0 0 [] := ⟨rfl, Nat.le_refl _, Nat.zero_le _, Lim.nil _, fun h => absurd h (Nat.lt_irrefl _)⟩
theorem Ob.nb {w : World} {g n : Nat} {xs : List Nat} (h : Ob w g xs) (hn : xs.length = n) (hl : n ≤ maxLen) (hx : Lim 256 xs) : Nb w w.heap.size (some ⟨g, 0, none⟩) n n xs :=
  ⟨hn, Nat.le_refl _, hl, hx, fun _ => ⟨g, 0, rfl, h.lt, fun j x hj => by rw [Nat.zero_add]; exact h.cell hj⟩⟩

theorem read_round {w wr : World} {j n d t p : Nat} {cur bs : List Nat} (hL : Lim 18446744073709551616 cur) (hi : j / 8 < cur.length) (hn : n = t + 1 + j) (hbl : bs.length = n) (hb : Lim 256 bs) (hd : bs.getD t 0 = d) (hp : j % 8 * 8 = p)
    (how : Ow wr w.heap.size cur) (hbel : Below w.heap.size w wr) (hcl : cur.length = (n + 7) / 8) (hV : val 18446744073709551616 cur = val 256 (bs.reverse.take j)) :
    ∃ (j' : Nat) (cur' : List Nat), j' ≤ n ∧ Value.int .i64 ((j : Int) + 1) = .int .i64 j' ∧ Ow (wr.setCell ⟨w.heap.size, j / 8, none⟩ (.int .u64 (bits .or .u64 ((cur.getD (j / 8) 0 : Nat) : Int) (IntKind.u64.wrap ((d : Int) * 2 ^ p))))).drew w.heap.size cur' ∧
      Below w.heap.size w (wr.setCell ⟨w.heap.size, j / 8, none⟩ (.int .u64 (bits .or .u64 ((cur.getD (j / 8) 0 : Nat) : Int) (IntKind.u64.wrap ((d : Int) * 2 ^ p))))).drew ∧ Lim 18446744073709551616 cur' ∧ Hid (cur'.length = (n + 7) / 8) ∧ Hid (val 18446744073709551616 cur' = val 256 (bs.reverse.take j')) := by
  have hd' : d < 256 := by rw [← hd]; exact hb.get (by omega) t
  have hlt : val 256 (bs.reverse.take j) < 256 ^ j := by
    have := val_lt (β := 256) (xs := bs.reverse.take j) (fun x hx => hb x (by simpa using List.mem_of_mem_take hx))
    rw [List.length_take, List.length_reverse, Nat.min_eq_left (by omega)] at this
    exact this
  obtain ⟨e1, e2, e3⟩ := byte_in hL hi hV hlt hd'
  have hw : IntKind.u64.wrap ((d : Int) * 2 ^ p) = ((d * 2 ^ p % 18446744073709551616 : Nat) : Int) := by
    rw [IntKind.wrap_u64]
    have : ((d : Int) * 2 ^ p) = ((d * 2 ^ p : Nat) : Int) := by simp
    rw [this]
    omega
  rw [hp] at e1 e2 e3
  have hv : bits .or .u64 ((cur.getD (j / 8) 0 : Nat) : Int) (IntKind.u64.wrap ((d : Int) * 2 ^ p)) = ((cur.getD (j / 8) 0 + d * 2 ^ p : Nat) : Int) := by
    rw [hw, bits_or_u64_nat _ _ (hL.get (by omega) _) (Nat.mod_lt _ (by omega)), e1]
  rw [hv]
  refine ⟨j + 1, cur.set (j / 8) (cur.getD (j / 8) 0 + d * 2 ^ p), by omega, by simp, (how.set_ _ _).drew, (hbel.setCell (Nat.le_refl _) _).drew, ?_, by simpa [Hid] using hcl, ?_⟩
  · intro x hx
    rcases List.mem_or_eq_of_mem_set hx with hx | hx
    · exact hL x hx
    · omega
  · show _ = _
    rw [e3, val_take_succ]
    congr 2
    have ht : t < bs.length := by omega
    have : bs.reverse.getD j 0 = bs.getD t 0 := by
      simp only [List.getD]
      rw [List.getElem?_reverse (by omega)]
      congr 2; omega
    rw [this, hd]

set_option maxHeartbeats 2000000 in
theorem read_any {w : World} {A : Option Addr} {n c : Nat} {bs : List Nat} (h : Nb w w.heap.size A n c bs) (hn : n ≤ 1099511627776) : Calls Tryz.prog 94 #[.slice A n c] w (Ret (val 256 bs.reverse) w) := by
  have hr := h.rooms
  have Hlen := Lib.hid h.len
  go_enter Tryz.func94, Tryz.ntmps94
  go_wp2_with (refine wpList_make_us _ rfl _ _ rfl _ _ ((n + 7) / 8) rfl rfl (by omega) (by omega) (by omega) ?_; intro w1 hw1 hg1)
  go_loopw [14] (fun i wr => ∃ (j : Nat) (cur : List Nat), j ≤ n ∧ i = .int .i64 j ∧ Ow wr w.heap.size cur ∧ Below w.heap.size w wr ∧ Lim 18446744073709551616 cur ∧ Hid (cur.length = (n + 7) / 8) ∧ Hid (val 18446744073709551616 cur = val 256 (bs.reverse.take j))) (fun i _ => n - (intOf i).toNat)
  case atStart => exact ⟨0, _, Nat.zero_le _, rfl, hw1, below_none hg1 (Nat.le_refl _), lim_replicate (by omega) _, by simp [Hid], by simp [Hid, val, val_replicate]⟩
  case round =>
    obtain ⟨j, cur, hj, rfl, how, hbel, hL, hcl, hV⟩ := hrel
    by_cases hlt : j < n
    · obtain ⟨t, ht⟩ : ∃ t, n = t + 1 + j := ⟨n - 1 - j, by omega⟩
      obtain ⟨b, off, rfl, hb, hx⟩ := (h.below hbel).at_ (show t < n by omega)
      have ei : (n : Int) - 1 - (j : Int) = (t : Int) := by omega
      have htn : t < n := by omega
      have hjl : j / 8 < (n + 7) / 8 := by omega
      have hjl2 : j / 8 < cur.length := by rw [hcl.out]; exact hjl
      have hc1 : wr.cell? ⟨w.heap.size, j / 8, none⟩ = some (.int .u64 ((cur.getD (j / 8) 0 : Nat) : Int)) := how.cell (by simp [List.getD, hjl2])
      have hf1 := how.frozen (j / 8)
      have hd256 := h.lim.get (by omega) t
      have hrnd := fun p hp => @read_round w wr j n _ t p cur bs hL hjl2 ht h.len h.lim rfl hp how hbel hcl.out hV.out
      generalize bs.getD t 0 = d at *
      generalize cur.getD (j / 8) 0 = x at *
      have hp : ((j : Int) % 8) * 8 = ((j % 8 * 8 : Nat) : Int) := by omega
      have hrnd' := hrnd _ rfl
      have hp8 : j % 8 * 8 ≤ 56 := by omega
      generalize j % 8 * 8 = p at *
      have Hrnd := Lib.hid hrnd'
      have Ht := Lib.hid ht
      clear hrnd hrnd' ht hjl2
      go_wp2
      go_region
      all_goals go_wp2
      all_goals go_roundw
      case rel => exact Hrnd.out
      case measure => simp [intOf]; omega
    · have hjn : j = n := by omega
      have hv := hV.out
      rw [List.take_of_length_le (by rw [List.length_reverse, Hlen.out]; omega)] at hv
      have Hcut := Lib.hid (cut_res how (Nat.le_refl _) hbel (by rw [hcl.out]; unfold maxLen; omega) hL hcl.out.symm hv)
      clear hv hjn
      go_wp2_with (go_at_call 49; refine Hcut.out.mono ?_; rintro e w' ⟨A', n', c', xs', rfl, hres⟩)
      go_ret
      exact ⟨_, _, _, _, rfl, hres⟩
end Go.Proofs.YthipdagebijbiaaGreatDoor
namespace Go.Proofs.YthipdagebijbiaaGreatDoor
open Go.RowKit
set_option linter.unusedVariables false
set_option maxRecDepth 100000

theorem Nb.sh {w : World} {B n c : Nat} {A : Option Addr} {xs : List Nat} (h : Nb w B A n c xs) : Sh.Nb w B A n c xs :=
  ⟨h.len, h.cap, h.rooms.2, h.lim, h.cell⟩
/-- the text of some bytes -/
def bstr (xs : List Nat) : ByteArray := strOfNums (xs.map fun x : Nat => (x : Int))
theorem conv_any {w : World} {B n c : Nat} {A : Option Addr} {xs : List Nat} (h : Sh.Nb w B A n c xs) : (convert 23 9 (.slice A n c)).run Tryz.prog w = .ok (.string (bstr xs)) w := by
  have h9 : Tryz.prog.underlying 9 = some .string := by kernel_rfl
  by_cases h0 : n = 0
  · subst h0
    rw [List.eq_nil_of_length_eq_zero h.len]
    cases A <;> rfl
  · obtain ⟨b, off, rfl, _⟩ := h.cell (by omega)
    refine run_convert_bytes_arg w 23 5 Tryz.underlying23 Tryz.underlying5 b off n c (xs.map fun x : Nat => (x : Int)) (by simp [h.len]) (fun i hi => ?_) 9 h9
    obtain ⟨b', off', e, _, hc⟩ := h.at_ hi
    cases e
    rw [hc]
    have : i < xs.length := by rw [h.len]; exact hi
    simp [List.getD, List.getElem?_eq_getElem this]
theorem eq_self (S : ByteArray) : (S.toList == S.toList) = true := by simp
set_option maxHeartbeats 1000000 in
/-- bytes.Equal -/
theorem equal_any {w : World} {B B2 : Nat} {A A2 : Option Addr} {n c n2 c2 : Nat} {xs ys : List Nat} (h : Sh.Nb w B A n c xs) (h2 : Sh.Nb w B2 A2 n2 c2 ys) :
    Calls Tryz.prog 66 #[.slice A n c, .slice A2 n2 c2] w fun e w' => e = .returned (.bool ((bstr xs).toList == (bstr ys).toList)) ∧ w = w' := by
  have k := conv_any h
  have k2 := conv_any h2
  generalize bstr xs = S at *
  generalize bstr ys = S2 at *
  go_enter Tryz.func66, Tryz.ntmps66
  go_wp2_with fail
  go_ret
  exact ⟨rfl, rfl⟩
end Go.Proofs.YthipdagebijbiaaGreatDoor
namespace Go.Proofs.YthipdagebijbiaaGreatDoor
open Go.RowKit
set_option linter.unusedVariables false
set_option maxRecDepth 100000

def b12 : List Nat := [2, 3, 5, 7, 11, 13, 17, 19, 23, 29, 31, 37]
theorem lim_b12 : Lim 18446744073709551616 b12 := by
  intro x hx
  simp only [b12, List.mem_cons, List.not_mem_nil, or_false] at hx
  omega
/-- the block of the bases -/
def B12 : Obj := .cells #[.int .u64 2, .int .u64 3, .int .u64 5, .int .u64 7, .int .u64 11, .int .u64 13, .int .u64 17, .int .u64 19, .int .u64 23, .int .u64 29, .int .u64 31, .int .u64 37] 47
theorem nt_b12 {w w1 : World} (e1 : w1 = w.alloc B12) : Nt w1 w1.heap.size (some ⟨w.heap.size, 0, none⟩) 12 12 b12 ∧ Below w.heap.size w w1 := by
  refine ⟨⟨rfl, Nat.le_refl _, by unfold maxLen; omega, lim_b12, fun _ => ⟨w.heap.size, 0, rfl, by rw [e1]; simp, fun j x hj => ?_⟩⟩, e1 ▸ (Below.refl _ w).alloc (Nat.le_refl _) _⟩
  rw [e1, Nat.zero_add]
  unfold B12
  rw [cell_of_row _ _ j _ 47 (0, 0) (heap_alloc_new w _)]
  have hl : j < 12 := by
    rcases Nat.lt_or_ge j 12 with h | h
    · exact h
    · rw [List.getElem?_eq_none (by simp [b12]; omega)] at hj; cases hj
  rcases (show j = 0 ∨ j = 1 ∨ j = 2 ∨ j = 3 ∨ j = 4 ∨ j = 5 ∨ j = 6 ∨ j = 7 ∨ j = 8 ∨ j = 9 ∨ j = 10 ∨ j = 11 by omega) with rfl | rfl | rfl | rfl | rfl | rfl | rfl | rfl | rfl | rfl | rfl | rfl <;> (simp [b12] at hj; subst hj; rfl)
set_option maxHeartbeats 1000000 in
theorem passes_any {w : World} {A : Option Addr} {n c N : Nat} {xs : List Nat} (h : Nt w w.heap.size A n c xs) (hN : val 18446744073709551616 xs = N) (hn : n ≤ 100000) :
    Calls Tryz.prog 88 #[.slice A n c] w fun e w' => e = .returned (.bool (primeN N b12)) ∧ Below w.heap.size w w' := by
  obtain ⟨w1, e1⟩ : ∃ w1, w1 = w.alloc B12 := ⟨_, rfl⟩
  obtain ⟨hB, b1⟩ := nt_b12 e1
  have hp := prime_any (h.up b1) hB (by omega) (by omega)
  rw [hN] at hp
  generalize primeN N b12 = t at *
  have Hp := Lib.hid hp
  clear hp
  go_enter Tryz.func88, Tryz.ntmps88
  go_wp2_with fail
  rw [← show w1 = w.alloc (.cells #[.int .u64 2, .int .u64 3, .int .u64 5, .int .u64 7, .int .u64 11, .int .u64 13, .int .u64 17, .int .u64 19, .int .u64 23, .int .u64 29, .int .u64 31, .int .u64 37] 47) from e1]
  refine Hp.out.mono ?_
  rintro e w2 ⟨rfl, b2⟩
  have B2 := bthen b1 b2
  clear e1
  go_wp2_with fail
  go_ret
  exact ⟨rfl, B2⟩

/-- a struct of three rows that lies in a block of its own -/
structure Bx (w : World) (p : Nat) (v1 v2 v3 : Value) : Prop where
  lt : p < w.heap.size
  c0 : w.cell? ⟨p, 0, none⟩ = some v1
  c1 : w.cell? ⟨p, 1, none⟩ = some v2
  c2 : w.cell? ⟨p, 2, none⟩ = some v3
theorem Bx.up {w w' : World} {p : Nat} {v1 v2 v3 : Value} (h : Bx w p v1 v2 v3) (hb : Below w.heap.size w w') : Bx w' p v1 v2 v3 :=
  ⟨Nat.lt_of_lt_of_le h.lt hb.size, (hb.cell (p := ⟨p, 0, none⟩) h.lt).trans h.c0, (hb.cell (p := ⟨p, 1, none⟩) h.lt).trans h.c1, (hb.cell (p := ⟨p, 2, none⟩) h.lt).trans h.c2⟩
theorem Bx.dr {w : World} {p : Nat} {v1 v2 v3 : Value} (h : Bx w p v1 v2 v3) (d : Nat) : Bx (w.drewN d) p v1 v2 v3 := ⟨h.lt, h.c0, h.c1, h.c2⟩
theorem box_new {w w0 : World} {v1 v2 v3 : Value} {t : TypeId} (e0 : w0 = w.alloc (.cells #[v1, v2, v3] t)) : Bx w0 w.heap.size v1 v2 v3 ∧ Below w.heap.size w w0 := by
  refine ⟨⟨by rw [e0]; simp, ?_, ?_, ?_⟩, e0 ▸ (Below.refl _ w).alloc (Nat.le_refl _) _⟩ <;> (rw [e0, cell_of_row _ _ _ #[v1, v2, v3] t (0, 0) (heap_alloc_new w _)]; rfl)
/-- parameters in memory -/
structure Pr (w : World) (v : Value) (P Q G : Nat) : Prop where
  ex : ∃ A1 n1 c1 x1 A2 n2 c2 x2 A3 n3 c3 x3, v = .agg #[.slice A1 n1 c1, .slice A2 n2 c2, .slice A3 n3 c3] ∧
    Nt w w.heap.size A1 n1 c1 x1 ∧ val 18446744073709551616 x1 = P ∧ n1 ≤ 100 ∧ Nt w w.heap.size A2 n2 c2 x2 ∧ val 18446744073709551616 x2 = Q ∧ n2 ≤ 100 ∧ Nt w w.heap.size A3 n3 c3 x3 ∧ val 18446744073709551616 x3 = G ∧ n3 ≤ 100
theorem Pr.up {w w' : World} {v : Value} {P Q G : Nat} (h : Pr w v P Q G) (hb : Below w.heap.size w w') : Pr w' v P Q G := by
  obtain ⟨A1, n1, c1, x1, A2, n2, c2, x2, A3, n3, c3, x3, rfl, h1, e1, l1, h2, e2, l2, h3, e3, l3⟩ := h.ex
  exact ⟨_, _, _, _, _, _, _, _, _, _, _, _, rfl, h1.up hb, e1, l1, h2.up hb, e2, l2, h3.up hb, e3, l3⟩
theorem Pr.dr {w : World} {v : Value} {P Q G : Nat} (h : Pr w v P Q G) (d : Nat) : Pr (w.drewN d) v P Q G := by
  obtain ⟨A1, n1, c1, x1, A2, n2, c2, x2, A3, n3, c3, x3, rfl, h1, e1, l1, h2, e2, l2, h3, e3, l3⟩ := h.ex
  exact ⟨_, _, _, _, _, _, _, _, _, _, _, _, rfl, h1.dr d, e1, l1, h2.dr d, e2, l2, h3.dr d, e3, l3⟩


end Go.Proofs.YthipdagebijbiaaGreatDoor
namespace Go.Proofs.YthipdagebijbiaaGreatDoor
open Go.RowKit
set_option linter.unusedVariables false
set_option maxRecDepth 100000

def genN (P Q G : Nat) : Bool := decide (1 < G) && decide (G ^ Q % P = 1)
def rightN (P Q G : Nat) : Bool := decide (bl P ≤ 1024) && (primeN P b12 && (decide (0 < Q) && (decide ((P - 1) % Q = 0) && (primeN Q b12 && (decide (G < P) && genN P Q G)))))
theorem primeN_two {n : Nat} {bs : List Nat} (h : primeN n bs = true) : 2 ≤ n := by
  unfold primeN at h
  simp only [Bool.and_eq_true, decide_eq_true_eq] at h
  exact h.1


end Go.Proofs.YthipdagebijbiaaGreatDoor
namespace Go.Proofs.YthipdagebijbiaaGreatDoor
open Go.RowKit
set_option linter.unusedVariables false
set_option maxRecDepth 100000


def lessN (a b n : Nat) : Nat := (a % n + n - b % n) % n

theorem lim_bts (v : Nat) : ∀ n, Lim 256 (bts v n)
  | 0 => Lim.nil _
  | n + 1 => fun x hx => by
    rcases List.mem_cons.1 hx with rfl | hx
    · exact Nat.mod_lt _ (by omega)
    · exact lim_bts v n x hx
/-- a number's mark -/
def markN (v : Nat) : List Nat := (Sh.sha (bts v ((bl v + 7) / 8))).take 16
/-- what hands back a mark -/
def MarkIs (v : Nat) (w : World) (w' : World) (A : Option Addr) (c : Nat) : Prop := Sh.Nb w' w'.heap.size A 16 c (markN v) ∧ Below w.heap.size w w'

end Go.Proofs.YthipdagebijbiaaGreatDoor
namespace Go.Proofs.YthipdagebijbiaaGreatDoor
open Go.RowKit
set_option linter.unusedVariables false
set_option maxRecDepth 100000

theorem rightN_parts {P Q G : Nat} (h : rightN P Q G = true) : 2 ≤ P ∧ 2 ≤ Q ∧ G < P ∧ 1 < G ∧ G ^ Q % P = 1 ∧ (P - 1) % Q = 0 := by
  unfold rightN genN at h
  simp only [Bool.and_eq_true, decide_eq_true_eq] at h
  obtain ⟨_, h1, _, h2, h3, h4, h5, h6⟩ := h
  exact ⟨primeN_two h1, primeN_two h3, h4, h5, h6, h2⟩





end Go.Proofs.YthipdagebijbiaaGreatDoor
namespace Go.Proofs.YthipdagebijbiaaGreatDoor
open Go.RowKit
set_option linter.unusedVariables false
set_option maxRecDepth 100000

theorem Sh.Nb.go {w w' : World} {A : Option Addr} {n c : Nat} {xs : List Nat} (h : Sh.Nb w w.heap.size A n c xs) (hb : Below w.heap.size w w') : Sh.Nb w' w'.heap.size A n c xs := h.bel hb (Nat.le_refl _)


end Go.Proofs.YthipdagebijbiaaGreatDoor
namespace Go.Proofs.YthipdagebijbiaaGreatDoor
open Go.RowKit
set_option linter.unusedVariables false
set_option maxRecDepth 100000

theorem Sh.Ks.dr {w : World} (h : Sh.Ks w) (d : Nat) : Sh.Ks (w.drewN d) := ⟨h.size, h.cell⟩
theorem Sh.Nb.dr {w : World} {A : Option Addr} {n c : Nat} {xs : List Nat} (h : Sh.Nb w w.heap.size A n c xs) (d : Nat) : Sh.Nb (w.drewN d) (w.drewN d).heap.size A n c xs := h.drewN d



theorem three_fin {w : World} {g : Nat} {o1 o2 o3 v1 v2 v3 : Value} {t : TypeId} (h : w.heap[g]? = some (.cells #[o1, o2, o3] t (0, 0))) :
    (((w.setCell ⟨g, 0, none⟩ v1).setCell ⟨g, 1, none⟩ v2).setCell ⟨g, 2, none⟩ v3).heap[g]? = some (.cells #[v1, v2, v3] t (0, 0)) := by
  simp [World.setCell, Array.getElem?_modify, h]
theorem three_cells {w : World} {g : Nat} {o1 o2 o3 : Value} {t : TypeId} (h : w.heap[g]? = some (.cells #[o1, o2, o3] t (0, 0))) :
    w.cell? ⟨g, 0, none⟩ = some o1 ∧ w.cell? ⟨g, 1, none⟩ = some o2 ∧ w.cell? ⟨g, 2, none⟩ = some o3 ∧ w.frozen? ⟨g, 0, none⟩ = false ∧ w.frozen? ⟨g, 1, none⟩ = false ∧ w.frozen? ⟨g, 2, none⟩ = false := by
  refine ⟨?_, ?_, ?_, ?_, ?_, ?_⟩
  · rw [cell_of_row w _ 0 _ t (0, 0) h]; rfl
  · rw [cell_of_row w _ 1 _ t (0, 0) h]; rfl
  · rw [cell_of_row w _ 2 _ t (0, 0) h]; rfl
  all_goals simp [World.frozen?, h]
theorem Nt.away {w : World} {B n c g k : Nat} {A : Option Addr} {xs : List Nat} {v : Value} (h : Nt w B A n c xs) (hne : 0 < n → ∀ b off, A = some ⟨b, off, none⟩ → b ≠ g) : Nt (w.setCell ⟨g, k, none⟩ v) B A n c xs :=
  ⟨h.len, h.cap, h.room, h.lim, fun h0 => by
    obtain ⟨b, off, e, hb, hc⟩ := h.cell h0
    exact ⟨b, off, e, hb, fun j x hx => keep_store (hc j x hx) (hne h0 b off e)⟩⟩
theorem Res.ne {w w' : World} {N n c g : Nat} {A : Option Addr} {xs : List Nat} (h : Res w w' N A n c xs) (hg : g < w.heap.size) : 0 < n → ∀ b off, A = some ⟨b, off, none⟩ → b ≠ g := fun h0 b off e => by
  obtain ⟨g', _, e', hg', _⟩ := h.fresh h0
  rw [e'] at e
  injection e with e
  injection e with e1
  omega
theorem Nt.away3 {w : World} {B n c g : Nat} {A : Option Addr} {xs : List Nat} {v1 v2 v3 : Value} (h : Nt w w.heap.size A n c xs) (hne : 0 < n → ∀ b off, A = some ⟨b, off, none⟩ → b ≠ g) :
    Nt (((w.setCell ⟨g, 0, none⟩ v1).setCell ⟨g, 1, none⟩ v2).setCell ⟨g, 2, none⟩ v3) (((w.setCell ⟨g, 0, none⟩ v1).setCell ⟨g, 1, none⟩ v2).setCell ⟨g, 2, none⟩ v3).heap.size A n c xs := by
  rw [size_setCell, size_setCell, size_setCell]
  exact ((h.away hne).away hne).away hne

end Go.Proofs.YthipdagebijbiaaGreatDoor
namespace Go.Proofs.YthipdagebijbiaaGreatDoor
open Go.RowKit
set_option linter.unusedVariables false
set_option maxRecDepth 100000

set_option maxHeartbeats 1000000 in
theorem isOdd_yes {w : World} {A : Option Addr} {n c N : Nat} {xs : List Nat} (h : Nt w w.heap.size A n c xs) (hN : val 18446744073709551616 xs = N) (ho : N % 2 = 1) :
    Calls Tryz.prog 92 #[.slice A n c] w fun e w' => e = .returned (.bool true) ∧ w = w' := by
  have hb := bit_any h 0 (by omega)
  rw [hN, show btN N 0 = N % 2 by simp [btN], ho] at hb
  have Hb := Lib.hid hb
  clear hb
  go_enter Tryz.func92, Tryz.ntmps92
  go_wp2_with fail
  refine Hb.out.mono ?_
  rintro e w1 ⟨rfl, rfl⟩
  go_wp2_with fail
  go_ret
  exact ⟨rfl, rfl⟩
set_option maxHeartbeats 1000000 in
theorem klessOne_any {w : World} {A : Option Addr} {n c N : Nat} {xs : List Nat} (h : Nt w w.heap.size A n c xs) (hN : val 18446744073709551616 xs = N) (hn : n ≤ 100000) (h1 : 1 ≤ N) :
    Calls Tryz.prog 59 #[.slice A n c] w (RetS (N - 1) w) := by
  go_enter Tryz.func59, Tryz.ntmps59
  go_wp2_with fail
  refine (of_any 1 _ rfl (by omega) _).mono ?_
  rintro e w1 ⟨A1, n1, c1, x1, rfl, r1⟩
  have v1 := r1.is
  go_wp2_with fail
  refine (sub_ok (h.up r1.bel) r1.nt (by omega) (by rw [v1, hN]; exact h1)).mono ?_
  rintro e w2 ⟨A2, n2, c2, x2, rfl, r2⟩
  rw [v1, hN] at r2
  go_wp2_with fail
  go_ret
  exact ⟨_, _, _, _, rfl, r2.nt, r2.trm, r2.is, bthen r1.bel r2.bel⟩
set_option maxHeartbeats 1000000 in
theorem mayPrime_yes {w : World} {A : Option Addr} {n c N : Nat} {xs : List Nat} (h : Nt w w.heap.size A n c xs) (hN : val 18446744073709551616 xs = N) (hn : n ≤ 1000) (hb : bl N ≤ 512) (hp : primeN N b12 = true) :
    Calls Tryz.prog 55 #[.slice A n c] w fun e w' => e = .returned (.bool true) ∧ Below w.heap.size w w' := by
  have hbits := bits_any h (by omega)
  rw [hN] at hbits
  have Hbits := Lib.hid hbits
  have hpass := passes_any h hN (by omega)
  rw [hp] at hpass
  have Hpass := Lib.hid hpass
  clear hbits hpass hp
  generalize bl N = k at *
  go_enter Tryz.func55, Tryz.ntmps55
  go_wp2_with fail
  refine Hbits.out.mono ?_
  rintro e w1 ⟨rfl, rfl⟩
  go_wp2_with fail
  refine Hpass.out.mono ?_
  rintro e w1 ⟨rfl, b1⟩
  go_wp2_with fail
  go_ret
  exact ⟨rfl, b1⟩
set_option maxHeartbeats 1000000 in
theorem size_any {w : World} {v : Value} {N E D : Nat} (h : Pr w v N E D) :
    Calls Tryz.prog 62 #[v] w fun e w' => e = .returned (.int .i64 (((bl N + 7) / 8 : Nat) : Int)) ∧ Below w.heap.size w w' := by
  obtain ⟨A1, n1, c1, x1, A2, n2, c2, x2, A3, n3, c3, x3, rfl, h1', e1, l1, h2', e2, l2, h3', e3, l3⟩ := h.ex
  clear h
  obtain ⟨w0, e0⟩ : ∃ w0, w0 = w.alloc (.cells #[Value.slice A1 n1 c1, .slice A2 n2 c2, .slice A3 n3 c3] 30) := ⟨_, rfl⟩
  obtain ⟨hx0, b0⟩ := box_new e0
  have h1 := h1'.up b0
  have q0 := hx0.c0
  have hb := bits_any h1 (by omega)
  rw [e1] at hb
  have hble : bl N ≤ 6400 := by
    have hp := h1.below_pow l1
    rw [e1, base_pow] at hp
    set_option exponentiation.threshold 7000 in
    exact bl_le hp
  have hdiv : ((bl N : Int) + 7).tdiv 8 = (((bl N + 7) / 8 : Nat) : Int) := by
    rw [Int.tdiv_eq_ediv_of_nonneg (by omega)]; omega
  have hdiv2 : ((bl N : Int) + 7) / 8 = (((bl N + 7) / 8 : Nat) : Int) := by omega
  have Hb := Lib.hid hb
  clear hb h1' h2' h3'
  generalize bl N = k at *
  generalize (k + 7) / 8 = s at *
  go_enter Tryz.func62, Tryz.ntmps62
  go_wp2_with fail
  rw [← e0]
  clear e0
  refine Hb.out.mono ?_
  rintro e w1 ⟨rfl, rfl⟩
  go_wp2_with fail
  go_ret
  exact ⟨by simp [hdiv2], b0⟩
set_option maxHeartbeats 4000000 in
theorem kright_any {w : World} {v : Value} {N E D : Nat} (h : Pr w v N E D) (hN2 : N % 2 = 1) (hb1 : 16 ≤ bl N) (hb2 : bl N ≤ 1024) (hE2 : E % 2 = 1) (hE : 1 < E) (hEN : E < N) (hDN : D < N) :
    Calls Tryz.prog 60 #[v] w fun e w' => e = .returned (.int .i64 0) ∧ Below w.heap.size w w' := by
  obtain ⟨A1, n1, c1, x1, A2, n2, c2, x2, A3, n3, c3, x3, rfl, h1', e1, l1, h2', e2, l2, h3', e3, l3⟩ := h.ex
  clear h
  obtain ⟨w0, e0⟩ : ∃ w0, w0 = w.alloc (.cells #[Value.slice A1 n1 c1, .slice A2 n2 c2, .slice A3 n3 c3] 30) := ⟨_, rfl⟩
  obtain ⟨hx0, b0⟩ := box_new e0
  have h1 := h1'.up b0
  have h2 := h2'.up b0
  have h3 := h3'.up b0
  clear h1' h2' h3'
  have q0 := hx0.c0
  have q1 := hx0.c1
  have q2 := hx0.c2
  have hb := bits_any h1 (by omega)
  rw [e1] at hb
  have Hb := Lib.hid hb
  have Ho := Lib.hid (isOdd_yes h1 e1 hN2)
  have Ho2 := Lib.hid (isOdd_yes h2 e2 hE2)
  clear hb
  generalize bl N = k at *
  go_enter Tryz.func60, Tryz.ntmps60
  go_wp2_with fail
  rw [← e0]
  clear e0
  refine Hb.out.mono ?_
  rintro e w1 ⟨rfl, rfl⟩
  go_wp2_with fail
  refine Ho.out.mono ?_
  rintro e w1 ⟨rfl, rfl⟩
  go_wp2_with fail
  have hyd : Bx w0.drew w.heap.size (.slice A1 n1 c1) (.slice A2 n2 c2) (.slice A3 n3 c3) := ⟨hx0.lt, hx0.c0, hx0.c1, hx0.c2⟩
  have h1d := h1.drew
  have h2d := h2.drew
  have h3d := h3.drew
  have bd : Below w0.heap.size w0 w0.drew := (Below.refl _ _).drew
  have Ho2 := Lib.hid (isOdd_yes h2d e2 hE2)
  have z0 := hyd.c0
  have z1 := hyd.c1
  have hwd : ∀ d, Bx (w0.drewN d) w.heap.size (.slice A1 n1 c1) (.slice A2 n2 c2) (.slice A3 n3 c3) := fun d => hx0.dr d
  go_region_with ((first
      | (go_at_call 92; refine Ho2.out.mono ?_; rintro e w3 ⟨rfl, rfl⟩)
      | (go_at_call 25; refine (of_any 1 _ rfl (by omega) _).mono ?_; rintro e w4 ⟨A4, n4, c4, x4, rfl, r4⟩
         have g4 := hyd.up r4.bel
         have g40 := g4.c0
         have g41 := g4.c1
         have v4 := r4.is)
      | (go_at_call 48; with_reducible refine (cmp_gt (h2d.up r4.bel) r4.nt (by rw [e2, v4]; exact hE)).mono ?_; rintro e w5 ⟨rfl, d5, rfl⟩
         have g5 := g4.dr d5
         have g50 := g5.c0
         have g51 := g5.c1)
      | (go_at_call 48; with_reducible refine (cmp_lt ((h2d.up r4.bel).dr d5) ((h1d.up r4.bel).dr d5) (by rw [e2, e1]; exact hEN)).mono ?_; rintro e w6 ⟨rfl, d6, rfl⟩)))
  all_goals
    have y := g4.dr (d5 + d6)
    have y0 := y.c0
    have y1 := y.c1
    have y2 := y.c2
    have B6 := bdr (bthen bd r4.bel) (d5 + d6)
    go_wp2_with fail
    refine (cmp_lt ((h3d.up r4.bel).dr (d5 + d6)) ((h1d.up r4.bel).dr (d5 + d6)) (by rw [e3, e1]; exact hDN)).mono ?_
    rintro e w7 ⟨rfl, d7, rfl⟩
    have B7 := bdr (w1 := _) (bthen bd r4.bel) (d5 + d6 + d7)
    go_wp2_with fail
    go_ret
    exact ⟨rfl, bthen b0 B7⟩
end Go.Proofs.YthipdagebijbiaaGreatDoor
namespace Go.Proofs.YthipdagebijbiaaGreatDoor
open Go.RowKit
set_option linter.unusedVariables false
set_option maxRecDepth 100000

theorem mayPower_yes (e : Nat) (he : e < 18446744073709551616) (h1 : e % 2 = 1) (h2 : 3 ≤ e) (w : World) :
    Calls Tryz.prog 56 #[.int .u64 (e : Int)] w fun r w' => r = .returned (.bool true) ∧ w = w' := by
  have hm : ((e : Int) % 2 != 0) = true := by simp; omega
  have hm2 : ((e : Int).tmod 2) = 1 := by rw [Int.tmod_eq_emod_of_nonneg (by omega)]; omega
  have hm3 : ((e : Int) % 2) = 1 := by omega
  go_enter Tryz.func56, Tryz.ntmps56
  go_wp2_with fail
  go_ret
  exact ⟨by simp; omega, rfl⟩
set_option maxHeartbeats 1000000 in
theorem secret_any {w : World} {v : Value} {N E D : Nat} (h : Pr w v N E D) (hN2 : N % 2 = 1) (hb1 : 16 ≤ bl N) (hb2 : bl N ≤ 1024) (hE2 : E % 2 = 1) (hE : 1 < E) (hEN : E < N) (hDN : D < N) (hD : 0 < D) :
    Calls Tryz.prog 61 #[v] w fun e w' => e = .returned (.int .i64 0) ∧ Below w.heap.size w w' := by
  have hr := fun W (k : Pr W v N E D) => kright_any k hN2 hb1 hb2 hE2 hE hEN hDN
  have Hr := Lib.hid hr
  have Hh := Lib.hid h
  obtain ⟨A1, n1, c1, x1, A2, n2, c2, x2, A3, n3, c3, x3, rfl, h1', e1, l1, h2', e2, l2, h3', e3, l3⟩ := h.ex
  clear h hr
  obtain ⟨w0, e0⟩ : ∃ w0, w0 = w.alloc (.cells #[Value.slice A1 n1 c1, .slice A2 n2 c2, .slice A3 n3 c3] 30) := ⟨_, rfl⟩
  obtain ⟨hx0, b0⟩ := box_new e0
  have h3 := h3'.up b0
  have q0 := hx0.c0
  have q1 := hx0.c1
  have q2 := hx0.c2
  have hb := bits_any h3 (by omega)
  rw [e3] at hb
  have hp := bl_pos hD
  have Hb := Lib.hid hb
  clear hb h1' h2' h3' hb1 hb2
  generalize bl D = k at *
  have hk : ((k : Int) == 0) = false := by simp; omega
  go_enter Tryz.func61, Tryz.ntmps61
  go_wp2_with fail
  rw [← e0]
  clear e0
  refine Hb.out.mono ?_
  rintro e w1 ⟨rfl, rfl⟩
  go_wp2_with fail
  refine (Hr.out _ (Hh.out.up b0)).mono ?_
  rintro e w2 ⟨rfl, b2⟩
  go_wp2_with fail
  go_ret
  exact ⟨rfl, bthen b0 b2⟩
/-- 2 to the n, less one -/
theorem mersenne_of (fn : Nat) : True := trivial

set_option maxHeartbeats 1000000 in
theorem mers55_any (n : Nat) (hn : n ≤ 1000) (w : World) : Calls Tryz.prog 36 #[.int .i64 (n : Int)] w (RetS (2 ^ n - 1) w) := by
  go_enter Tryz.func36, Tryz.ntmps36
  go_wp2_with fail
  refine (of_any 1 _ rfl (by omega) _).mono ?_
  rintro e w1 ⟨A1, n1, c1, x1, rfl, r1⟩
  have v1 := r1.is
  have l1 : n1 ≤ 1 := r1.le (by omega)
  go_wp2_with fail
  refine (shift_any r1.nt (by omega) (n : Int) (by omega) (by omega)).mono ?_
  rintro e w2 ⟨A2, n2, c2, x2, rfl, r2⟩
  rw [v1, show shN 1 (n : Int) = 2 ^ n by unfold shN; rw [if_pos (by omega), Nat.min_eq_left (by omega)]; simp] at r2
  have v2 := r2.is
  set_option exponentiation.threshold 70000 in
  have l2 : n2 ≤ 1000 := r2.le (by rw [base_pow]; exact Nat.pow_lt_pow_right (by omega) (by omega))
  go_wp2_with fail
  refine (of_any 1 _ rfl (by omega) _).mono ?_
  rintro e w3 ⟨A3, n3, c3, x3, rfl, r3⟩
  have v3 := r3.is
  have B3 := bthen (bthen r1.bel r2.bel) r3.bel
  go_wp2_with fail
  refine (sub_ok (r2.nt.up r3.bel) r3.nt (by omega) (by rw [v2, v3]; exact Nat.two_pow_pos n)).mono ?_
  rintro e w4 ⟨A4, n4, c4, x4, rfl, r4⟩
  rw [v2, v3] at r4
  go_wp2_with fail
  go_ret
  exact ⟨_, _, _, _, rfl, r4.nt, r4.trm, r4.is, bthen B3 r4.bel⟩
end Go.Proofs.YthipdagebijbiaaGreatDoor
namespace Go.Proofs.YthipdagebijbiaaGreatDoor
open Go.RowKit
set_option linter.unusedVariables false
set_option maxRecDepth 100000

/-- limbs do not lie in a block of rows -/
theorem Nt.not_in {w : World} {B n c g : Nat} {A : Option Addr} {xs : List Nat} {t : TypeId} {A1 A2 A3 : Option Addr} {n1 c1 n2 c2 n3 c3 : Nat} (h : Nt w B A n c xs) (hx : w.heap[g]? = some (.cells #[.slice A1 n1 c1, .slice A2 n2 c2, .slice A3 n3 c3] t (0, 0))) :
    0 < n → ∀ b off, A = some ⟨b, off, none⟩ → b ≠ g := fun h0 b off e hb => by
  subst hb
  obtain ⟨b', off', e', _, hc⟩ := h.at_ h0
  rw [e] at e'
  cases e'
  rw [cell_of_row w b (off + 0) _ t (0, 0) hx] at hc
  have : off = 0 ∨ off = 1 ∨ off = 2 ∨ 3 ≤ off := by omega
  rcases this with rfl | rfl | rfl | h3
  · simp at hc
  · simp at hc
  · simp at hc
  · rw [Array.getElem?_eq_none (by simp; omega)] at hc
    cases hc
def MakeIs (p q e : Nat) (w : World) (r : Ending) (w' : World) : Prop :=
  ∃ A1 n1 c1 x1 A2 n2 c2 x2 A3 n3 c3 x3 d, r = .returned (.tuple #[.agg #[.slice A1 n1 c1, .slice A2 n2 c2, .slice A3 n3 c3], .int .i64 0]) ∧
    Nt w' w'.heap.size A1 n1 c1 x1 ∧ val 18446744073709551616 x1 = p * q ∧ n1 ≤ 100 ∧ Nt w' w'.heap.size A2 n2 c2 x2 ∧ val 18446744073709551616 x2 = e ∧ n2 ≤ 100 ∧ Nt w' w'.heap.size A3 n3 c3 x3 ∧ val 18446744073709551616 x3 = d ∧ n3 ≤ 100 ∧
    Trm x3 ∧ d < (p - 1) * (q - 1) ∧ e * d % ((p - 1) * (q - 1)) = 1 ∧ Below w.heap.size w w'
set_option maxHeartbeats 8000000 in
theorem make_any {w : World} {Ap Aq : Option Addr} {np cp nq cq p q : Nat} {xp xq : List Nat} (hp : Nt w w.heap.size Ap np cp xp) (hq : Nt w w.heap.size Aq nq cq xq) (ep : val 18446744073709551616 xp = p) (eq : val 18446744073709551616 xq = q)
    (lp : np ≤ 20) (lq : nq ≤ 20) (e : Nat) (he : e < 18446744073709551616) (bp : bl p ≤ 512) (bq : bl q ≤ 512) (pp : primeN p b12 = true) (pq : primeN q b12 = true) (hne : p ≠ q) (he2 : e % 2 = 1) (he3 : 3 ≤ e)
    (hg : Nat.gcd e ((p - 1) * (q - 1)) = 1) (hphi : 1 < (p - 1) * (q - 1)) (ho : p * q % 2 = 1) (hb1 : 16 ≤ bl (p * q)) (hb2 : bl (p * q) ≤ 1024) (heN : e < p * q) :
    Calls Tryz.prog 26 #[.slice Ap np cp, .slice Aq nq cq, .int .u64 (e : Int)] w (MakeIs p q e w) := by
  have hp2 := primeN_two pp
  have hq2 := primeN_two pq
  have Pp := Lib.hid pp
  have Pq := Lib.hid pq
  have Hg := Lib.hid hg
  have Ho := Lib.hid ho
  have Bp := Lib.hid bp
  have Bq := Lib.hid bq
  have Hb1 := Lib.hid hb1
  have Hb2 := Lib.hid hb2
  have hphiN : (p - 1) * (q - 1) ≤ p * q := Nat.mul_le_mul (Nat.sub_le _ _) (Nat.sub_le _ _)
  have fp := hp.below_pow lp
  have fq := hq.below_pow lq
  rw [ep] at fp
  rw [eq] at fq
  have Fp := Lib.hid fp
  have Fq := Lib.hid fq
  have Fn := Lib.hid (mul_pow fp fq)
  have hs : sgn (p : Int) (q : Int) ≠ 0 := sgn_ne hne
  clear pp pq hg ho bp bq hb1 hb2 fp fq
  obtain ⟨φ, hφ⟩ : ∃ φ, (p - 1) * (q - 1) = φ := ⟨_, rfl⟩
  obtain ⟨M, hM⟩ : ∃ M, p * q = M := ⟨_, rfl⟩
  rw [hφ] at Hg hphi hphiN
  rw [hM] at Ho Hb1 Hb2 heN hphiN Fn
  unfold MakeIs
  rw [hφ, hM]
  have Hφ := Lib.hid hφ
  have HM := Lib.hid hM
  clear hφ hM
  obtain ⟨w0, e0⟩ : ∃ w0, w0 = w.alloc (.cells #[Value.slice none 0 0, .slice none 0 0, .slice none 0 0] 30) := ⟨_, rfl⟩
  have hx0 : w0.heap[w.heap.size]? = some (.cells #[Value.slice none 0 0, .slice none 0 0, .slice none 0 0] 30 (0, 0)) := e0 ▸ heap_alloc_new w _
  have hs0 : w.heap.size < w0.heap.size := by rw [e0]; simp
  have b0 : Below w.heap.size w w0 := e0 ▸ (Below.refl _ w).alloc (Nat.le_refl _) _
  have hp := hp.up b0
  have hq := hq.up b0
  go_enter Tryz.func26, Tryz.ntmps26
  go_wp2_with fail
  rw [← e0]
  clear e0
  refine (mayPrime_yes hp ep (by omega) Bp.out Pp.out).mono ?_
  rintro r w1 ⟨rfl, b1⟩
  go_wp2_with fail
  refine (mayPrime_yes (hq.up b1) eq (by omega) Bq.out Pq.out).mono ?_
  rintro r w2 ⟨rfl, b2⟩
  have B2 := bthen b1 b2
  have hc := cmp_any (hp.up B2) (hq.up B2)
  rw [ep, eq] at hc
  obtain ⟨s, hse⟩ : ∃ s, sgn (p : Int) (q : Int) = s := ⟨_, rfl⟩
  rw [hse] at hs hc
  have hs' : (s == 0) = false := by simpa using hs
  have Hc := Lib.hid hc
  clear hc hse
  go_wp2_with fail
  refine Hc.out.mono ?_
  rintro r w3 ⟨rfl, d3, rfl⟩
  have B3 := bdr B2 d3
  go_wp2_with fail
  refine (mayPower_yes e he he2 he3 _).mono ?_
  rintro r w4 ⟨rfl, rfl⟩
  go_wp2_with fail
  refine (of_any e _ rfl he _).mono ?_
  rintro r w5 ⟨A5, n5, c5, x5, rfl, r5⟩
  have v5 := r5.is
  have l5 : n5 ≤ 1 := r5.le (by omega)
  have B5 := bthen B3 r5.bel
  go_wp2_with fail
  refine (klessOne_any (hp.up B5) ep (by omega) (by omega)).mono ?_
  rintro r w6 ⟨A6, n6, c6, x6, rfl, r6⟩
  have v6 := r6.is
  have l6 : n6 ≤ 20 := r6.le (Nat.lt_of_le_of_lt (Nat.sub_le _ _) Fp.out)
  have B6 := bthen B5 r6.bel
  go_wp2_with fail
  refine (klessOne_any (hq.up B6) eq (by omega) (by omega)).mono ?_
  rintro r w7 ⟨A7, n7, c7, x7, rfl, r7⟩
  have v7 := r7.is
  have l7 : n7 ≤ 20 := r7.le (Nat.lt_of_le_of_lt (Nat.sub_le _ _) Fq.out)
  have B7 := bthen B6 r7.bel
  go_wp2_with fail
  refine (mul_any (r6.nt.up r7.bel) r7.nt (by omega) (by omega)).mono ?_
  rintro r w8 ⟨A8, n8, c8, x8, rfl, r8⟩
  rw [v6, v7, Hφ.out] at r8
  have v8 := r8.is
  have l8 : n8 ≤ 40 := r8.le (Nat.lt_of_le_of_lt hphiN Fn.out)
  have B8 := bthen B7 r8.bel
  have m5 := ((r5.nt.up r6.bel).up r7.bel).up r8.bel
  go_wp2_with fail
  refine (inverse_yes m5 r8.nt (by omega) (by omega) (by rw [v8]; omega) (by rw [v5, v8]; exact Hg.out)).mono ?_
  rintro r w9 ⟨d, hd, hde, A9, n9, c9, x9, rfl, r9⟩
  rw [v8] at hd hde
  rw [v5, Nat.mod_eq_of_lt hphi] at hde
  have Hde := Lib.hid hde
  clear hde
  have v9 := r9.is
  have l9 : n9 ≤ 40 := r9.le (Nat.lt_trans hd (Nat.lt_of_le_of_lt hphiN Fn.out))
  have B9 := bthen B8 r9.bel
  go_wp2_with fail
  refine (mul_any (hp.up B9) (hq.up B9) (by omega) (by omega)).mono ?_
  rintro r w10 ⟨A10, n10, c10, x10, rfl, r10⟩
  rw [ep, eq, HM.out] at r10
  have l10 : n10 ≤ 40 := r10.le Fn.out
  have B10 := bthen B9 r10.bel
  go_wp2_with fail
  refine (of_any e _ rfl he _).mono ?_
  rintro r w11 ⟨A11, n11, c11, x11, rfl, r11⟩
  have l11 : n11 ≤ 1 := r11.le (by omega)
  have B11 := bthen B10 r11.bel
  obtain ⟨w12, e12⟩ : ∃ w12, w12 = w11.alloc (.cells #[Value.slice A10 n10 c10, .slice A11 n11 c11, .slice A9 n9 c9] 30) := ⟨_, rfl⟩
  obtain ⟨hb12, b12'⟩ := box_new e12
  have B12 := bthen B11 b12'
  have t1 := (r10.nt.up r11.bel).up b12'
  have t2 := r11.nt.up b12'
  have t3 := ((r9.nt.up r10.bel).up r11.bel).up b12'
  have hk : Pr w12 (.agg #[.slice A10 n10 c10, .slice A11 n11 c11, .slice A9 n9 c9]) M e d :=
    ⟨_, _, _, _, _, _, _, _, _, _, _, _, rfl, t1, r10.is, by omega, t2, r11.is, by omega, t3, r9.is, by omega⟩
  have hr := kright_any hk Ho.out Hb1.out Hb2.out he2 (by omega) heN (Nat.lt_of_lt_of_le hd hphiN)
  have Hr := Lib.hid hr
  clear hr hk
  go_wp2_with fail
  rw [← e12]
  clear e12
  refine Hr.out.mono ?_
  rintro r w13 ⟨rfl, b13⟩
  have B13 := bthen B12 b13
  have hy := hb12.up b13
  have y0 := hy.c0
  have y1 := hy.c1
  have y2 := hy.c2
  have hx := (B13.block w.heap.size hs0).trans hx0
  obtain ⟨q0, q1, q2, q3, q4, q5⟩ := three_cells hx
  have hs11 := B11.size
  go_wp2_with fail
  have hg2 := three_fin (v1 := .slice A10 n10 c10) (v2 := .slice A11 n11 c11) (v3 := .slice A9 n9 c9) hx
  refine bodyPost_ret (v := .tuple #[.agg #[.slice A10 n10 c10, .slice A11 n11 c11, .slice A9 n9 c9], .int .i64 0]) (by rw [results_cell_tmp rfl]; simp [asAddr, run_loadVar_row _ w.heap.size 30 30 _ (0, 0) _ hg2 Tryz.underlying30 rfl (by kernel_rfl)]) rfl ?_
  have B13' := bthen b0 B13
  have hb := ((B13'.setCell (p := ⟨w.heap.size, 0, none⟩) (by simp) (.slice A10 n10 c10)).setCell (p := ⟨w.heap.size, 1, none⟩) (by simp) (.slice A11 n11 c11)).setCell (p := ⟨w.heap.size, 2, none⟩) (by simp) (.slice A9 n9 c9)
  have z5 := B3.size
  have z9 := B8.size
  have z10 := B9.size
  have z11 := B10.size
  exact ⟨_, _, _, _, _, _, _, _, _, _, _, _, d, rfl, (t1.up b13).away3 (B := 0) (r10.ne (by omega)), r10.is, by omega, (t2.up b13).away3 (B := 0) (r11.ne (by omega)), r11.is, by omega, (t3.up b13).away3 (B := 0) ((t3.up b13).not_in hx), r9.is, by omega, r9.trm, hd, Hde.out, hb⟩
end Go.Proofs.YthipdagebijbiaaGreatDoor
namespace Go.Proofs.YthipdagebijbiaaGreatDoor
open Go.RowKit
set_option linter.unusedVariables false
set_option maxRecDepth 100000

theorem i64_and1 (n : Int) : bits .and .i64 n 1 = n % 2 := by
  have h1 : (BitVec.ofInt 64 1).toNat = 2 ^ 1 - 1 := by decide
  have key : (BitVec.ofInt 64 n &&& BitVec.ofInt 64 1).toNat = (n % ((2 ^ 64 : Nat) : Int)).toNat % 2 ^ 1 := by
    rw [BitVec.toNat_and, BitVec.toNat_ofInt, h1, Nat.and_two_pow_sub_one_eq_mod]
  show IntKind.i64.wrap ((BitVec.ofInt 64 n &&& BitVec.ofInt 64 1).toNat : Nat) = n % 2
  rw [key, IntKind.wrap_i64]
  omega
theorem prime_untold_prm {n base : Nat} (hp : Prm n) : tellsN n base = false := by
  have h2 := hp.1
  by_cases hev : n % 2 = 0 ∨ n < 2
  · rw [tells_even hev]
    have : n = 2 := by
      rcases hp.2 2 (Nat.dvd_of_mod_eq_zero (by omega)) with h | h <;> omega
    rw [this]; rfl
  · unfold tellsN
    rw [if_neg hev]
    split
    · rfl
    · rename_i hb
      obtain ⟨h1, _⟩ := tz_spec (a := n - 1) (by omega)
      have hd : (n - 1) / 2 ^ tz (n - 1) * 2 ^ tz (n - 1) = n - 1 := Nat.div_mul_cancel (Nat.dvd_of_mod_eq_zero h1)
      rcases hp.passes hb hd with h3 | h3
      · simp [h3]
      · rw [h3]; simp
/-- a prime passes -/
theorem prm_passes {n : Nat} (h : Prm n) : primeN n b12 = true := by
  unfold primeN
  simp only [Bool.and_eq_true, decide_eq_true_eq, Bool.not_eq_true']
  refine ⟨h.1, ?_⟩
  rw [Bool.eq_false_iff]
  intro hc
  rw [List.any_eq_true] at hc
  obtain ⟨b, _, hb⟩ := hc
  rw [prime_untold_prm h] at hb
  cases hb
set_option maxHeartbeats 1000000 in
theorem sign_short {w : World} {v : Value} {N E D : Nat} (h : Pr w v N E D) (hN2 : N % 2 = 1) (hb1 : 16 ≤ bl N) (hb2 : bl N ≤ 208) (hE2 : E % 2 = 1) (hE : 1 < E) (hEN : E < N) (hDN : D < N) (hD : 0 < D) (A : Option Addr) (n c : Nat) :
    Calls Tryz.prog 28 #[v, .slice A n c] w fun e w' => e = .returned (.tuple #[.slice none 0 0, .int .i64 51]) ∧ Below w.heap.size w w' := by
  have hr := fun W (k : Pr W v N E D) => secret_any k hN2 hb1 (by omega) hE2 hE hEN hDN hD
  have hsz := fun W (k : Pr W v N E D) => size_any k
  have Hr := Lib.hid hr
  have Hsz := Lib.hid hsz
  have Hh := Lib.hid h
  obtain ⟨A1, n1, c1, x1, A2, n2, c2, x2, A3, n3, c3, x3, rfl, h1', e1, l1, h2', e2, l2, h3', e3, l3⟩ := h.ex
  clear h hr hsz
  obtain ⟨w0, e0⟩ : ∃ w0, w0 = w.alloc (.cells #[Value.slice A1 n1 c1, .slice A2 n2 c2, .slice A3 n3 c3] 30) := ⟨_, rfl⟩
  obtain ⟨hx0, b0⟩ := box_new e0
  have q0 := hx0.c0
  have q1 := hx0.c1
  have q2 := hx0.c2
  have hk : (bl N + 7) / 8 ≤ 0x1a := by omega
  clear h1' h2' h3' hb1 hb2
  generalize (bl N + 7) / 8 = k at *
  go_enter Tryz.func28, Tryz.ntmps28
  go_wp2_with fail
  rw [← e0]
  clear e0
  refine (Hr.out _ (Hh.out.up b0)).mono ?_
  rintro e w2 ⟨rfl, b2⟩
  have hy := hx0.up b2
  have y0 := hy.c0
  have y1 := hy.c1
  have y2 := hy.c2
  go_wp2_with fail
  refine (Hsz.out _ ((Hh.out.up b0).up b2)).mono ?_
  rintro e w3 ⟨rfl, b3⟩
  go_wp2_with fail
  go_ret2
  exact ⟨rfl, bthen b0 (bthen b2 b3)⟩
theorem prm_m127 : Prm (2 ^ 127 - 1) := (show (2 ^ 127 - 1 : Nat) = 170141183460469231731687303715884105727 by decide) ▸ prm_127
theorem prm_m107 : Prm (2 ^ 107 - 1) := (show (2 ^ 107 - 1 : Nat) = 162259276829213363391578010288127 by decide) ▸ prm_107
theorem prm_m89 : Prm (2 ^ 89 - 1) := (show (2 ^ 89 - 1 : Nat) = 618970019642690137449562111 by decide) ▸ prm_89
theorem make_127_107 {w : World} {A1 A2 : Option Addr} {n1 c1 n2 c2 p q : Nat} {x1 x2 : List Nat} (h1 : Nt w w.heap.size A1 n1 c1 x1) (h2 : Nt w w.heap.size A2 n2 c2 x2) (e1 : val 18446744073709551616 x1 = p) (e2 : val 18446744073709551616 x2 = q) (l1 : n1 ≤ 20) (l2 : n2 ≤ 20) (hp : p = 2 ^ 127 - 1) (hq : q = 2 ^ 107 - 1) :
    Calls Tryz.prog 26 #[.slice A1 n1 c1, .slice A2 n2 c2, .int .u64 65537] w (MakeIs p q 65537 w) := by
  subst hp
  subst hq
  exact make_any h1 h2 e1 e2 l1 l2 65537 (by omega) (by decide +kernel) (by decide +kernel) (prm_passes prm_m127) (prm_passes prm_m107) (by decide +kernel) (by omega) (by omega) (by decide +kernel) (by decide +kernel) (by decide +kernel) (by decide +kernel) (by decide +kernel) (by decide +kernel)
theorem make_127_89 {w : World} {A1 A2 : Option Addr} {n1 c1 n2 c2 p q : Nat} {x1 x2 : List Nat} (h1 : Nt w w.heap.size A1 n1 c1 x1) (h2 : Nt w w.heap.size A2 n2 c2 x2) (e1 : val 18446744073709551616 x1 = p) (e2 : val 18446744073709551616 x2 = q) (l1 : n1 ≤ 20) (l2 : n2 ≤ 20) (hp : p = 2 ^ 127 - 1) (hq : q = 2 ^ 89 - 1) :
    Calls Tryz.prog 26 #[.slice A1 n1 c1, .slice A2 n2 c2, .int .u64 65537] w (MakeIs p q 65537 w) := by
  subst hp
  subst hq
  exact make_any h1 h2 e1 e2 l1 l2 65537 (by omega) (by decide +kernel) (by decide +kernel) (prm_passes prm_m127) (prm_passes prm_m89) (by decide +kernel) (by omega) (by omega) (by decide +kernel) (by decide +kernel) (by decide +kernel) (by decide +kernel) (by decide +kernel) (by decide +kernel)
theorem make_89_127 {w : World} {A1 A2 : Option Addr} {n1 c1 n2 c2 p q : Nat} {x1 x2 : List Nat} (h1 : Nt w w.heap.size A1 n1 c1 x1) (h2 : Nt w w.heap.size A2 n2 c2 x2) (e1 : val 18446744073709551616 x1 = p) (e2 : val 18446744073709551616 x2 = q) (l1 : n1 ≤ 20) (l2 : n2 ≤ 20) (hp : p = 2 ^ 89 - 1) (hq : q = 2 ^ 127 - 1) :
    Calls Tryz.prog 26 #[.slice A1 n1 c1, .slice A2 n2 c2, .int .u64 65537] w (MakeIs p q 65537 w) := by
  subst hp
  subst hq
  exact make_any h1 h2 e1 e2 l1 l2 65537 (by omega) (by decide +kernel) (by decide +kernel) (prm_passes prm_m89) (prm_passes prm_m127) (by decide +kernel) (by omega) (by omega) (by decide +kernel) (by decide +kernel) (by decide +kernel) (by decide +kernel) (by decide +kernel) (by decide +kernel)
theorem mers_le {n p : Nat} (hp : p = 2 ^ n - 1) (hn : n ≤ 1000) : p < 18446744073709551616 ^ 20 := by
  rw [hp, base_pow]
  have := Nat.pow_le_pow_right (show 0 < 2 by omega) (show n ≤ 64 * 20 by omega)
  have := Nat.two_pow_pos n
  omega
set_option maxHeartbeats 2000000 in
theorem known27_any (which : Int) (w : World) : Calls Tryz.prog 15 #[.int .i64 which] w fun r w' => ∃ p q, (p = 2 ^ 127 - 1 ∧ q = 2 ^ 107 - 1 ∨ p = 2 ^ 127 - 1 ∧ q = 2 ^ 89 - 1) ∧ MakeIs p q 65537 w r w' := by
  have hb := i64_and1 which
  obtain ⟨w0, e0⟩ : ∃ w0, w0 = w.alloc (.cells #[Value.slice none 0 0, .slice none 0 0, .slice none 0 0] 30) := ⟨_, rfl⟩
  have hx0 : w0.heap[w.heap.size]? = some (.cells #[Value.slice none 0 0, .slice none 0 0, .slice none 0 0] 30 (0, 0)) := e0 ▸ heap_alloc_new w _
  have hs0 : w.heap.size < w0.heap.size := by rw [e0]; simp
  have b0 : Below w.heap.size w w0 := e0 ▸ (Below.refl _ w).alloc (Nat.le_refl _) _
  rcases (show which % 2 = 0 ∨ which % 2 = 1 by omega) with hw | hw
  · rw [hw] at hb
    obtain ⟨p, hp⟩ : ∃ p, p = 2 ^ 127 - 1 := ⟨_, rfl⟩
    obtain ⟨q, hq⟩ : ∃ q, q = 2 ^ 107 - 1 := ⟨_, rfl⟩
    have hmp := fun W => mers55_any 127 (by omega) W
    have hmq := fun W => mers55_any 107 (by omega) W
    rw [← hp] at hmp
    rw [← hq] at hmq
    have lp := mers_le hp (by omega)
    have lq := mers_le hq (by omega)
    have Hmp := Lib.hid hmp
    have Hmq := Lib.hid hmq
    have Hp := Lib.hid hp
    have Hq := Lib.hid hq
    have Lp := Lib.hid lp
    have Lq := Lib.hid lq
    clear hmp hmq hp hq lp lq
    go_enter Tryz.func15, Tryz.ntmps15
    go_wp2_with fail
    rw [← e0]
    clear e0
    refine (Hmp.out _).mono ?_
    rintro e w1 ⟨A1, n1, c1, x1, rfl, r1⟩
    have l1 : n1 ≤ 20 := r1.le Lp.out
    go_wp2_with fail
    refine (Hmq.out _).mono ?_
    rintro e w2 ⟨A2, n2, c2, x2, rfl, r2⟩
    have l2 : n2 ≤ 20 := r2.le Lq.out
    have m1 := r1.nt.up r2.bel
    have B2 := bthen r1.bel r2.bel
    have hm := make_127_107 m1 r2.nt r1.is r2.is l1 l2 Hp.out Hq.out
    have Hm := Lib.hid hm
    clear hm
    go_wp2_with fail
    refine Hm.out.mono ?_
    rintro e w3 ⟨K1, k1, t1, y1, K2, k2, t2, y2, K3, k3, t3, y3, d, rfl, N1, v1, b1, N2, v2, b2, N3, v3, b3, ht, hd, hde, bel⟩
    have B3 := bthen B2 bel
    have hx := (B3.block w.heap.size hs0).trans hx0
    obtain ⟨q0, q1, q2, q3, q4, q5⟩ := three_cells hx
    have Hhd := Lib.hid hd
    have Hhde := Lib.hid hde
    have V1 := Lib.hid v1
    have V2 := Lib.hid v2
    clear hd hde v1 v2
    go_wp2_with fail
    have hg2 := three_fin (v1 := .slice K1 k1 t1) (v2 := .slice K2 k2 t2) (v3 := .slice K3 k3 t3) hx
    refine bodyPost_ret (v := .tuple #[.agg #[.slice K1 k1 t1, .slice K2 k2 t2, .slice K3 k3 t3], .int .i64 0]) (by rw [results_cell_tmp rfl]; simp [asAddr, run_loadVar_row _ w.heap.size 30 30 _ (0, 0) _ hg2 Tryz.underlying30 rfl (by kernel_rfl)]) rfl ?_
    have B3' := bthen b0 B3
    have hbb := ((B3'.setCell (p := ⟨w.heap.size, 0, none⟩) (by simp) (.slice K1 k1 t1)).setCell (p := ⟨w.heap.size, 1, none⟩) (by simp) (.slice K2 k2 t2)).setCell (p := ⟨w.heap.size, 2, none⟩) (by simp) (.slice K3 k3 t3)
    exact ⟨p, q, .inl ⟨Hp.out, Hq.out⟩, _, _, _, _, _, _, _, _, _, _, _, _, d, rfl, N1.away3 (B := 0) (N1.not_in hx), V1.out, b1, N2.away3 (B := 0) (N2.not_in hx), V2.out, b2, N3.away3 (B := 0) (N3.not_in hx), v3, b3, ht, Hhd.out, Hhde.out, hbb⟩
  · rw [hw] at hb
    obtain ⟨p, hp⟩ : ∃ p, p = 2 ^ 127 - 1 := ⟨_, rfl⟩
    obtain ⟨q, hq⟩ : ∃ q, q = 2 ^ 89 - 1 := ⟨_, rfl⟩
    have hmp := fun W => mers55_any 127 (by omega) W
    have hmq := fun W => mers55_any 89 (by omega) W
    rw [← hp] at hmp
    rw [← hq] at hmq
    have lp := mers_le hp (by omega)
    have lq := mers_le hq (by omega)
    have Hmp := Lib.hid hmp
    have Hmq := Lib.hid hmq
    have Hp := Lib.hid hp
    have Hq := Lib.hid hq
    have Lp := Lib.hid lp
    have Lq := Lib.hid lq
    clear hmp hmq hp hq lp lq
    go_enter Tryz.func15, Tryz.ntmps15
    go_wp2_with fail
    rw [← e0]
    clear e0
    refine (Hmp.out _).mono ?_
    rintro e w1 ⟨A1, n1, c1, x1, rfl, r1⟩
    have l1 : n1 ≤ 20 := r1.le Lp.out
    go_wp2_with fail
    refine (Hmq.out _).mono ?_
    rintro e w2 ⟨A2, n2, c2, x2, rfl, r2⟩
    have l2 : n2 ≤ 20 := r2.le Lq.out
    have m1 := r1.nt.up r2.bel
    have B2 := bthen r1.bel r2.bel
    have hm := make_127_89 m1 r2.nt r1.is r2.is l1 l2 Hp.out Hq.out
    have Hm := Lib.hid hm
    clear hm
    go_wp2_with fail
    refine Hm.out.mono ?_
    rintro e w3 ⟨K1, k1, t1, y1, K2, k2, t2, y2, K3, k3, t3, y3, d, rfl, N1, v1, b1, N2, v2, b2, N3, v3, b3, ht, hd, hde, bel⟩
    have B3 := bthen B2 bel
    have hx := (B3.block w.heap.size hs0).trans hx0
    obtain ⟨q0, q1, q2, q3, q4, q5⟩ := three_cells hx
    have Hhd := Lib.hid hd
    have Hhde := Lib.hid hde
    have V1 := Lib.hid v1
    have V2 := Lib.hid v2
    clear hd hde v1 v2
    go_wp2_with fail
    have hg2 := three_fin (v1 := .slice K1 k1 t1) (v2 := .slice K2 k2 t2) (v3 := .slice K3 k3 t3) hx
    refine bodyPost_ret (v := .tuple #[.agg #[.slice K1 k1 t1, .slice K2 k2 t2, .slice K3 k3 t3], .int .i64 0]) (by rw [results_cell_tmp rfl]; simp [asAddr, run_loadVar_row _ w.heap.size 30 30 _ (0, 0) _ hg2 Tryz.underlying30 rfl (by kernel_rfl)]) rfl ?_
    have B3' := bthen b0 B3
    have hbb := ((B3'.setCell (p := ⟨w.heap.size, 0, none⟩) (by simp) (.slice K1 k1 t1)).setCell (p := ⟨w.heap.size, 1, none⟩) (by simp) (.slice K2 k2 t2)).setCell (p := ⟨w.heap.size, 2, none⟩) (by simp) (.slice K3 k3 t3)
    exact ⟨p, q, .inr ⟨Hp.out, Hq.out⟩, _, _, _, _, _, _, _, _, _, _, _, _, d, rfl, N1.away3 (B := 0) (N1.not_in hx), V1.out, b1, N2.away3 (B := 0) (N2.not_in hx), V2.out, b2, N3.away3 (B := 0) (N3.not_in hx), v3, b3, ht, Hhd.out, Hhde.out, hbb⟩
end Go.Proofs.YthipdagebijbiaaGreatDoor
namespace Go.Proofs.YthipdagebijbiaaGreatDoor
open Go.RowKit
set_option linter.unusedVariables false
set_option maxRecDepth 100000

theorem make_small {w : World} {A1 A2 : Option Addr} {n1 c1 n2 c2 : Nat} {x1 x2 : List Nat} (h1 : Nt w w.heap.size A1 n1 c1 x1) (h2 : Nt w w.heap.size A2 n2 c2 x2) (e1 : val 18446744073709551616 x1 = 251) (e2 : val 18446744073709551616 x2 = 257) (l1 : n1 ≤ 20) (l2 : n2 ≤ 20) :
    Calls Tryz.prog 26 #[.slice A1 n1 c1, .slice A2 n2 c2, .int .u64 17] w (MakeIs 251 257 17 w) :=
  make_any h1 h2 e1 e2 l1 l2 17 (by omega) (by decide +kernel) (by decide +kernel) (by decide +kernel) (by decide +kernel) (by decide +kernel) (by omega) (by omega) (by decide +kernel) (by decide +kernel) (by decide +kernel) (by decide +kernel) (by decide +kernel) (by decide +kernel)
theorem d_small {d : Nat} (h : d < (251 - 1) * (257 - 1)) (hd : 17 * d % ((251 - 1) * (257 - 1)) = 1) : d = 26353 := by omega
theorem sha_nil : Sh.sha [] = [227, 176, 196, 0x42, 152, 252, 28, 20, 154, 251, 244, 200, 153, 111, 185, 36, 0x27, 174, 65, 228, 100, 155, 147, 76, 164, 149, 153, 27, 120, 82, 184, 85] := by decide +kernel
theorem index_nil (W : World) : (Instr.index 75 (.agg (Sh.bs [227, 176, 196, 0x42, 152, 252, 28, 20, 154, 251, 244, 200, 153, 111, 185, 36, 0x27, 174, 65, 228, 100, 155, 147, 76, 164, 149, 153, 27, 120, 82, 184, 85]).toArray) (.int .i64 0)).run Tryz.prog W = .ok (.int .u8 227) W := by rfl
end Go.Proofs.YthipdagebijbiaaGreatDoor
namespace Go.Proofs.YthipdagebijbiaaGreatDoor
open Go.RowKit
set_option linter.unusedVariables false
set_option maxRecDepth 100000

set_option maxHeartbeats 1000000 in
theorem mul1_any (n : Nat) (hn : n ≤ 1000) (w : World) : Calls Tryz.prog 125 #[.int .u64 1, .int .u64 (n : Int)] w fun e w' => e = .returned (.tuple #[.int .u64 0, .int .u64 (n : Int)]) ∧ w = w' := by
  have hm := mul64_any 1 n (by omega) (by omega) w
  have e1 : mhi 1 n = 0 := by unfold mhi; omega
  have e2 : mlo 1 n = n := by unfold mlo; omega
  rw [e1, e2] at hm
  have Hm := Lib.hid hm
  clear hm
  go_enter Tryz.func125, Tryz.ntmps125
  go_wp2_with fail
  refine Hm.out.mono ?_
  rintro e w1 ⟨rfl, rfl⟩
  go_wp2_with fail
  go_ret2
  exact ⟨rfl, rfl⟩
theorem elem22 : Tryz.prog.elem 23 = 5 := by kernel_rfl
theorem und22 : Tryz.prog.underlying 23 = some (.slice (Tryz.prog.elem 23)) := by rw [elem22]; exact Tryz.underlying23
theorem size5 (W : World) : (sizeOf (Tryz.prog.elem 23)).run Tryz.prog W = .ok 1 W := by rw [elem22]; kernel_rfl
theorem tail_run (W : World) (g n bp : Nat) (h : bp < n) : (Instr.slice 23 (.slice (some ⟨g, 0, none⟩) n n) (some (.int .i64 (bp : Int))) none none).run Tryz.prog W = .ok (.slice (some ⟨g, bp, none⟩) (n - bp) (n - bp)) W := by
  rw [run_slice_l W 23 _ n n und22 .i64 bp (by omega) (by omega), size5]
  have : ¬ n = bp := by omega
  by_cases h0 : bp = 0
  · subst h0; simp [Result.andThen, sliced, Addr.add]
  · simp [Result.andThen, sliced, Addr.add, this, h0]
theorem head_run (W : World) (g n bp : Nat) (h : bp ≤ n) : (Instr.slice 23 (.slice (some ⟨g, 0, none⟩) n n) none (some (.int .i64 (bp : Int))) none).run Tryz.prog W = .ok (.slice (some ⟨g, 0, none⟩) bp n) W := by
  rw [run_slice_h W 23 _ n n und22 .i64 bp (by omega) (by omega), size5]
  simp [Result.andThen, sliced, Addr.add]
def v255 : Value := .int .u8 255
/-- what holds behind the first bp bytes -/
structure Rp (w wr : World) (g L n bp : Nat) (cur : List Value) : Prop where
  heap : wr.heap[g]? = some (.cells cur.toArray 5 (0, 0))
  len : cur.length = L
  full : cur.take bp = List.replicate bp v255
  b : Below w.heap.size w wr
theorem Rp.at_ {w wr : World} {g L n bp j : Nat} {cur : List Value} (h : Rp w wr g L n bp cur) (hj : j < bp) : wr.cell? ⟨g, j, none⟩ = some v255 := by
  rw [cell_of_row wr g j _ 5 (0, 0) h.heap]
  have h1 : (cur.take bp)[j]? = some v255 := by rw [h.full]; simp [hj]
  rw [List.getElem?_take, if_pos hj] at h1
  simpa using h1
theorem rep_step {cur : List Value} {L bp k : Nat} (hl : cur.length = L) (hf : cur.take bp = List.replicate bp v255) (hk : bp + k ≤ L) : (splice cur bp (List.replicate k v255)).length = L ∧ (splice cur bp (List.replicate k v255)).take (bp + k) = List.replicate (bp + k) v255 := by
  refine ⟨by rw [length_splice _ _ _ (by simp; omega), hl], ?_⟩
  unfold splice
  rw [hf, ← List.append_assoc, List.replicate_append_replicate, List.take_append_of_le_length (by simp), List.take_of_length_le (by simp)]
theorem one255 (k : Nat) : ∀ v ∈ List.replicate k v255, v.oneCell' = true := fun v hv => by
  rw [(List.mem_replicate.1 hv).2]; rfl
set_option maxHeartbeats 4000000 in
theorem repeat_any {w : World} {g : Nat} (hb : w.cell? ⟨g, 0, none⟩ = some (.int .u8 255)) (hg : g < w.heap.size) (n : Nat) (h0 : 0 < n) (hn : n ≤ 1000) :
    Calls Tryz.prog 96 #[.slice (some ⟨g, 0, none⟩) 1 1, .int .i64 (n : Int)] w fun e w' => ∃ g', e = .returned (.slice (some ⟨g', 0, none⟩) n n) ∧ Nb w' w'.heap.size (some ⟨g', 0, none⟩) n n (List.replicate n 255) ∧ Below w.heap.size w w' := by
  have hnz : ((n : Int) == 0) = false := by simp; omega
  obtain ⟨cs, hrunM, hle, _⟩ := Lib.run_makeNoZero (P := Tryz.prog) w #[3] 23 5 Tryz.underlying23 n (by omega)
  have hcall : (callFunc 126 #[.int .i64 (n : Int)]).run Tryz.prog w = .ok (.value (.slice (some ⟨w.heap.size, 0, none⟩) n cs.size)) ((w.alloc (.cells cs 5)).drewN 2) := by
    rw [run_callFunc_extern Tryz.func126 (by kernel_rfl) (by kernel_rfl) (by kernel_rfl) (e := Extern.BytealgMakeNoZero.makeNoZero #[3] #[23]) (by kernel_rfl), hrunM]
    rfl
  clear hrunM
  have i0 : (0 : Int) ≤ (n : Int) := by omega
  have i1 : (n : Int) ≤ (cs.size : Int) := by omega
  obtain ⟨w2, e2⟩ : ∃ w2, w2 = (w.alloc (.cells cs 5)).drewN 2 := ⟨_, rfl⟩
  have hx2 : w2.heap[w.heap.size]? = some (.cells cs.toList.toArray 5 (0, 0)) := by rw [e2]; simpa using heap_alloc_new w (.cells cs 5)
  have b2 : Below w.heap.size w w2 := e2 ▸ below_drewN ((Below.refl _ w).alloc (Nat.le_refl _) _) 2
  have hb2 : w2.cell? ⟨g, 0, none⟩ = some v255 := (b2.cell (p := ⟨g, 0, none⟩) hg).trans hb
  rw [← e2] at hcall
  clear e2
  have hcl : n ≤ cs.toList.length := by simpa using hle
  obtain ⟨L, hL⟩ : ∃ L, cs.toList.length = L := ⟨_, rfl⟩
  rw [hL] at hcl
  have Hb2 := Lib.hid hb2
  have Hx2 := Lib.hid hx2
  have HL := Lib.hid hL
  clear hx2 hb2 hL hb
  go_enter Tryz.func96, Tryz.ntmps96
  go_wp2_with fail
  refine (mul1_any n hn _).mono ?_
  rintro e w1 ⟨rfl, rfl⟩
  go_wp2_with (refine wpList_copy_splice rfl (.tmp 58) (.tmp 59) 23 23 rfl 5 Tryz.underlying23 (by kernel_rfl) (some ⟨w.heap.size, 0, none⟩) (some ⟨g, 0, none⟩) n n 1 1 rfl rfl w.heap.size 0 cs.toList 5 Hx2.out [v255] (by simp only [List.length_singleton, Nat.min_def]; split <;> omega) (fun _ => ⟨rfl, _, rfl, fun j v hj => by
      have hj0 : j = 0 ∧ v = v255 := by
        cases j with
        | zero => simpa using hj.symm
        | succ j => simp at hj
      obtain ⟨rfl, rfl⟩ := hj0
      simpa [Addr.add] using Hb2.out⟩) (by rw [HL.out]; simp; omega) (fun v hv => by simp at hv; subst hv; rfl) w.heap.size w b2 (Nat.le_refl _) ?_; intro w3 hw3 B3)
  have hR0 : Rp w w3 w.heap.size L n 1 (splice cs.toList 0 [v255]) := by
    obtain ⟨l1, l2⟩ := rep_step (k := 1) (bp := 0) HL.out (by simp) (by omega)
    exact ⟨hw3.out, l1, by simpa using l2, B3⟩
  have HR0 := Lib.hid hR0
  clear hR0 hw3 hcall
  go_loopw [10] (fun v wr => ∃ (bp : Nat) (cur : List Value), 1 ≤ bp ∧ bp ≤ n ∧ v = .int .i64 (bp : Int) ∧ Hid (Rp w wr w.heap.size L n bp cur)) (fun v _ => n - (intOf v).toNat)
  case atStart => exact ⟨1, _, by omega, h0, by simp, HR0⟩
  case round =>
    clear HR0 Hx2 Hb2 B3
    obtain ⟨bp, cur, hb1, hbn, rfl, HR⟩ := hrel
    by_cases hlt : bp < n
    · obtain ⟨k, hk⟩ : ∃ k, Nat.min bp (n - bp) = k := ⟨_, rfl⟩
      have hk1 : k ≤ bp := hk ▸ Nat.min_le_left _ _
      have hk2 : k ≤ n - bp := hk ▸ Nat.min_le_right _ _
      have hk0 : 0 < k := by rw [← hk]; exact Nat.lt_min.2 ⟨by omega, by omega⟩
      obtain ⟨l1, l2⟩ := rep_step (k := k) HR.out.len HR.out.full (by omega)
      have L1 := Lib.hid l1
      have L2 := Lib.hid l2
      have HK := Lib.hid hk
      clear l1 l2 hk
      have hmin : min (bp : Int) (n : Int) = (bp : Int) := by omega
      have hsl1 : ∀ W, (Instr.slice 23 (.slice (some ⟨w.heap.size, 0, none⟩) n n) (some (.int .i64 (bp : Int))) none none).run Tryz.prog W = .ok (.slice (some ⟨w.heap.size, bp, none⟩) (n - bp) (n - bp)) W := fun W => tail_run W _ n bp hlt
      have hsl2 : ∀ W, (Instr.slice 23 (.slice (some ⟨w.heap.size, 0, none⟩) n n) none (some (.int .i64 (bp : Int))) none).run Tryz.prog W = .ok (.slice (some ⟨w.heap.size, 0, none⟩) bp n) W := fun W => head_run W _ n bp (by omega)
      go_wp2_with fail
      have HRd : Hid (Rp w wr.drew w.heap.size L n bp cur) := ⟨HR.out.heap, HR.out.len, HR.out.full, HR.out.b.drew⟩
      go_region_law (refine step_copy_splice rfl (.tmp 70) (.tmp 73) 23 23 rfl 5 Tryz.underlying23 (by kernel_rfl) (some ⟨w.heap.size, bp, none⟩) (some ⟨w.heap.size, 0, none⟩) (n - bp) (n - bp) bp n (by simp [Act.eval, Act.put]) (by simp [Act.eval, Act.put]) w.heap.size bp cur 5 HRd.out.heap (List.replicate k v255) (by rw [List.length_replicate]; exact HK.out.symm) (fun _ => ⟨rfl, _, rfl, fun j v hj => by
          obtain ⟨hj1, hj2⟩ : j < k ∧ v = v255 := by
            rw [List.getElem?_replicate] at hj
            split at hj
            · exact ⟨by assumption, by simpa using hj.symm⟩
            · cases hj
          subst hj2
          have := HRd.out.at_ (j := j) (by omega)
          by_cases hj0 : j = 0
          · subst hj0; simpa [Addr.add] using this
          · simpa [Addr.add, hj0] using this⟩) (by rw [HRd.out.len, List.length_replicate]; omega) (one255 k) w.heap.size w HRd.out.b (Nat.le_refl _) ?_; intro w4 hw4 B4)
      all_goals
        have hR4 : Hid (Rp w w4 w.heap.size L n (bp + k) (splice cur bp (List.replicate k v255))) := ⟨hw4.out, L1.out, L2.out, B4⟩
        have hwr : IntKind.i64.wrap ((bp : Int) + (k : Int)) = ((bp + k : Nat) : Int) := by rw [IntKind.wrap_i64]; omega
        go_simp
        go_wp2
        go_roundw
        case rel => exact ⟨bp + k, _, by omega, by omega, by simp, hR4⟩
        case measure => simp only [intOf]; omega
    · have hbn' : bp = n := by omega
      subst hbn'
      go_wp2_with fail
      go_ret
      have hR := HR.out
      refine ⟨_, rfl, ⟨by simp, Nat.le_refl _, by unfold maxLen; omega, ?_, fun _ => ⟨_, 0, rfl, ?_, fun j x hj => ?_⟩⟩, hR.b⟩
      · intro x hx
        rw [(List.mem_replicate.1 hx).2]; omega
      · exact World.block_lt_of_cell? _ _ (hR.at_ (j := 0) (by omega))
      · obtain ⟨hj1, hj2⟩ : j < bp ∧ x = 255 := by
          rw [List.getElem?_replicate] at hj
          split at hj
          · exact ⟨by assumption, by simpa using hj.symm⟩
          · cases hj
        subst hj2
        rw [Nat.zero_add]
        exact hR.at_ hj1
end Go.Proofs.YthipdagebijbiaaGreatDoor
namespace Go.Proofs.YthipdagebijbiaaGreatDoor
open Go.RowKit
set_option linter.unusedVariables false
set_option maxRecDepth 100000

def vb (xs : List Nat) : List Value := xs.map fun x : Nat => .int .u8 (x : Int)
theorem length_vb (xs : List Nat) : (vb xs).length = xs.length := by simp [vb]
theorem vb_append (xs ys : List Nat) : vb (xs ++ ys) = vb xs ++ vb ys := by simp [vb]
theorem vb_one (xs : List Nat) : ∀ v ∈ vb xs, v.oneCell' = true := fun v hv => by
  simp only [vb, List.mem_map] at hv
  obtain ⟨x, _, rfl⟩ := hv
  rfl
/-- block g is just these bytes -/
theorem Ob.rows {w : World} {g : Nat} {xs : List Nat} (h : w.heap[g]? = some (.cells (vb xs).toArray 5 (0, 0))) : Ob w g xs := h
/-- what is signed: 0, the kind, the filling, 0, the text -/
def frameN (kind : Nat) (fs ts : List Nat) : List Nat := 0 :: kind :: (fs ++ 0 :: ts)
theorem frame_math (fs ts : List Nat) : splice (splice (vb ((List.replicate (3 + fs.length + ts.length) 0).set 1 1)) 2 (vb fs)) (3 + fs.length) (vb ts) = vb (frameN 1 fs ts) := by
  have e : (List.replicate (3 + fs.length + ts.length) 0).set 1 1 = 0 :: 1 :: List.replicate (1 + fs.length + ts.length) 0 := by
    rw [show 3 + fs.length + ts.length = (1 + fs.length + ts.length) + 1 + 1 by omega, List.replicate_succ, List.replicate_succ]
    rfl
  rw [e]
  have e1 : splice (vb (0 :: 1 :: List.replicate (1 + fs.length + ts.length) 0)) 2 (vb fs) = vb (0 :: 1 :: (fs ++ List.replicate (1 + ts.length) 0)) := by
    unfold splice
    rw [length_vb]
    have e3 : (vb (0 :: 1 :: List.replicate (1 + fs.length + ts.length) 0)).drop (2 + fs.length) = vb (List.replicate (1 + ts.length) 0) := by
      rw [show 2 + fs.length = fs.length + 1 + 1 by omega]
      simp only [vb, List.map_cons, List.drop_succ_cons, List.map_replicate, List.drop_replicate]
      congr 1
      omega
    rw [e3]
    simp [vb]
  rw [e1]
  unfold splice frameN
  rw [length_vb]
  have e2 : (0 :: 1 :: (fs ++ List.replicate (1 + ts.length) 0) : List Nat) = (0 :: 1 :: (fs ++ [0])) ++ List.replicate ts.length 0 := by
    rw [show 1 + ts.length = ts.length + 1 by omega, List.replicate_succ]; simp
  have l3 : (vb (0 :: 1 :: (fs ++ [0]))).length = 3 + fs.length := by rw [length_vb]; simp; omega
  rw [e2, vb_append, List.take_append_of_le_length (by omega), List.take_of_length_le (by omega), List.drop_of_length_le (by rw [List.length_append, l3, length_vb]; simp), List.append_nil, ← vb_append]
  simp
theorem src_nb {w : World} {B n c : Nat} {A : Option Addr} {xs : List Nat} (h : Sh.Nb w B A n c xs) (h0 : 0 < n) : ∃ ad, A = some ad ∧ ∀ j v, (vb xs)[j]? = some v → w.cell? (ad.add j) = some v := by
  obtain ⟨b, off, rfl, _, hc⟩ := h.cell h0
  refine ⟨_, rfl, fun j v hj => ?_⟩
  simp only [vb, List.getElem?_map, Option.map_eq_some_iff] at hj
  obtain ⟨x, hx, rfl⟩ := hj
  have := hc j x hx
  by_cases hj0 : j = 0
  · subst hj0; simpa [Addr.add] using this
  · simpa [Addr.add, hj0] using this
set_option maxHeartbeats 4000000 in
theorem framed_any {w : World} {A1 A2 : Option Addr} {n c m c2 : Nat} {fs ts : List Nat} (h : Sh.Nb w w.heap.size A1 n c fs) (h2 : Sh.Nb w w.heap.size A2 m c2 ts) (hn : n ≤ 1000) (hm : m ≤ 1000) (hn0 : 0 < n) (hm0 : 0 < m) :
    Calls Tryz.prog 97 #[.int .u8 1, .slice A1 n c, .slice A2 m c2] w fun e w' => ∃ g, e = .returned (.slice (some ⟨g, 0, none⟩) (3 + n + m) (3 + n + m)) ∧ w.heap.size ≤ g ∧ Ob w' g (frameN 1 fs ts) ∧ Below w.heap.size w w' := by
  have hr := h.room
  have hrc := h.cap
  have hr2 := h2.room
  have hrc2 := h2.cap
  have hl := h.len
  have hl2 := h2.len
  have hfm := frame_math fs ts
  rw [hl, hl2] at hfm
  have Hfm := Lib.hid hfm
  have Hl := Lib.hid hl
  have Hl2 := Lib.hid hl2
  have Hh := Lib.hid h
  have Hh2 := Lib.hid h2
  clear hfm hl hl2 h h2
  have hs1 : ∀ W, (Instr.sliceAt 23 (.slice (some ⟨w.heap.size, 0, none⟩) (3 + n + m) (3 + n + m)) (some (.int .i64 2)) none none).run Tryz.prog W = .ok (.slice (some ⟨w.heap.size, 2, none⟩) (3 + n + m - 2) (3 + n + m - 2)) W ∨ True := fun W => .inr trivial
  clear hs1
  go_enter Tryz.func97, Tryz.ntmps97
  go_wp2_with (first
    | (refine wpList_make_ub _ rfl _ _ rfl _ _ (3 + n + m) rfl rfl (by omega) (by omega) (by omega) ?_; intro w3 ho3 b3
       have B3 : Below w.heap.size w w3 := (Below.refl _ w).grown b3 (Nat.le_refl _) (fun k hk => by cases hk)
       have c1 : w3.cell? ⟨w.heap.size, 1, none⟩ = some (.int .u8 0) := ho3.cell (j := 1) (x := 0) (by rw [List.getElem?_replicate, if_pos (by omega)])
       have f1 := ho3.frozen 1
)
    | (have hx4 : Ob (w3.setCell ⟨w.heap.size, 1, none⟩ (.int .u8 ((1 : Nat) : Int))) w.heap.size ((List.replicate (3 + n + m) 0).set 1 1) := ho3.set_ 1 1
       have B4 : Below w.heap.size w (w3.setCell ⟨w.heap.size, 1, none⟩ (.int .u8 ((1 : Nat) : Int))) := B3.setCell (by simp) _
       refine wpList_copy_splice rfl (.tmp 19) (.tmp 20) 23 23 rfl 5 Tryz.underlying23 (by kernel_rfl) (some ⟨w.heap.size, 2, none⟩) A1 (3 + n + m - 2) (3 + n + m - 2) n c rfl rfl w.heap.size 2 (vb ((List.replicate (3 + n + m) 0).set 1 1)) 5 hx4 (vb fs) (by rw [length_vb, Hl.out]; simp only [Nat.min_def]; split <;> omega) (fun _ => ⟨rfl, src_nb (Hh.out.below B4) hn0⟩) (by rw [length_vb, length_vb, Hl.out]; simp; omega) (vb_one _) w.heap.size w B4 (Nat.le_refl _) ?_; intro w5 hw5 B5)
    | (refine wpList_copy_splice rfl (.tmp 26) (.tmp 27) 23 23 rfl 5 Tryz.underlying23 (by kernel_rfl) (some ⟨w.heap.size, 3 + n, none⟩) A2 (3 + n + m - (3 + n)) (3 + n + m - (3 + n)) m c2 rfl rfl w.heap.size (3 + n) (splice (vb ((List.replicate (3 + n + m) 0).set 1 1)) 2 (vb fs)) 5 hw5.out (vb ts) (by rw [length_vb, Hl2.out]; simp only [Nat.min_def]; split <;> omega) (fun _ => ⟨rfl, src_nb (Hh2.out.below B5) hm0⟩) (by rw [length_splice _ _ _ (by rw [length_vb, length_vb, Hl.out]; simp; omega), length_vb, length_vb, Hl2.out]; simp) (vb_one _) w.heap.size w B5 (Nat.le_refl _) ?_; intro w6 hw6 B6))
  go_ret
  have hf := hw6.out
  rw [Hfm.out] at hf
  exact ⟨_, rfl, Nat.le_refl _, hf, B6⟩
end Go.Proofs.YthipdagebijbiaaGreatDoor
namespace Go.Proofs.YthipdagebijbiaaGreatDoor
open Go.RowKit
set_option linter.unusedVariables false
set_option maxRecDepth 100000

/-- what is signed of a text -/
def signN (s : Nat) (xs : List Nat) : List Nat := frameN 1 (List.replicate (s - 19) 255) ((Sh.sha xs).take 16)
set_option maxHeartbeats 4000000 in
theorem signed_any {w : World} (hk : Sh.Ks w) {v : Value} {N E D s : Nat} (h : Pr w v N E D) (hs : (bl N + 7) / 8 = s) (hs1 : 20 ≤ s) (hs2 : s ≤ 500) {A : Option Addr} {n c : Nat} {xs : List Nat} (hx : Sh.Nb w w.heap.size A n c xs) (hn : n ≤ 1000) :
    Calls Tryz.prog 64 #[v, .slice A n c] w fun e w' => ∃ g, e = .returned (.slice (some ⟨g, 0, none⟩) s s) ∧ w.heap.size ≤ g ∧ Ob w' g (signN s xs) ∧ Below w.heap.size w w' := by
  have hsz := fun W (k : Pr W v N E D) => size_any k
  rw [hs] at hsz
  have Hsz := Lib.hid hsz
  have Hh := Lib.hid h
  obtain ⟨A1, n1, c1, x1, A3, n3, c3, x3, A4, n4, c4, x4, rfl, _, _, _, _, _, _, _, _, _⟩ := h.ex
  clear hsz h
  obtain ⟨w0, e0⟩ : ∃ w0, w0 = w.alloc (.cells #[Value.slice A1 n1 c1, .slice A3 n3 c3, .slice A4 n4 c4] 30) := ⟨_, rfl⟩
  obtain ⟨hx0, b0⟩ := box_new e0
  have ht := Sh.trunc_in (hk.bel b0) (hx.go b0) (by omega) 16 (by omega)
  have Ht := Lib.hid ht
  clear ht
  have q0 := hx0.c0
  have q1 := hx0.c1
  have q2 := hx0.c2
  go_enter Tryz.func64, Tryz.ntmps64
  go_wp2_with fail
  rw [← e0]
  clear e0
  refine Ht.out.mono ?_
  rintro e w1 ⟨A5, c5, rfl, hN1, b1⟩
  obtain ⟨w2, e2⟩ : ∃ w2, w2 = w1.alloc (.cells #[.int .u8 255] 5) := ⟨_, rfl⟩
  have b2 : Below w1.heap.size w1 w2 := e2 ▸ (Below.refl _ _).alloc (Nat.le_refl _) _
  have c255 : w2.cell? ⟨w1.heap.size, 0, none⟩ = some (.int .u8 255) := by rw [e2]; exact cell_new _ _ _
  have hg2 : w1.heap.size < w2.heap.size := by rw [e2]; simp
  have hy1 := hx0.up b1
  have y0 := hy1.c0
  have y1 := hy1.c1
  have y2 := hy1.c2
  have hz2 := hy1.up b2
  have z0 := hz2.c0
  have z1 := hz2.c1
  have z2 := hz2.c2
  rw [e2] at z0 z1 z2
  have E2 := Lib.hid e2
  clear e2
  go_wp2_with fail
  rw [← E2.out]
  clear E2
  refine (Hsz.out _ (((Hh.out.up b0).up b1).up b2)).mono ?_
  rintro e w3 ⟨rfl, b3⟩
  have h255 := (b3.cell (p := ⟨w1.heap.size, 0, none⟩) hg2).trans c255
  have hg3 : w1.heap.size < w3.heap.size := Nat.lt_of_lt_of_le hg2 b3.size
  have hrep := repeat_any h255 hg3 (s - 19) (by omega) (by omega)
  have es : ((s - 19 : Nat) : Int) = (s : Int) - 3 - 16 := by omega
  rw [es] at hrep
  have Hrep := Lib.hid hrep
  clear hrep es h255 c255
  go_wp2_with fail
  refine Hrep.out.mono ?_
  rintro e w4 ⟨g4, rfl, hN4, b4⟩
  have bA : Below w1.heap.size w1 w4 := bthen (bthen b2 b3) b4
  have hN14 := hN1.go bA
  have B4 := bthen (bthen b0 b1) bA
  go_wp2_with fail
  refine (framed_any hN4.sh hN14 (by omega) (by omega) (by omega) (by omega)).mono ?_
  rintro e w5 ⟨g5, rfl, hg5, ho5, b5⟩
  have B := bthen B4 b5
  have hsz4 := B4.size
  have e3 : 3 + (s - 19) + 16 = s := by omega
  rw [e3]
  go_wp2_with fail
  go_ret
  exact ⟨_, rfl, by omega, ho5, B⟩
set_option maxHeartbeats 4000000 in
theorem work_any {w : World} {v : Value} {N E D s : Nat} (h : Pr w v N E D) (hN0 : 0 < N) (hs : (bl N + 7) / 8 = s) (hs2 : s ≤ 500) {A : Option Addr} {n c pw : Nat} {xs : List Nat} (hp : Nt w w.heap.size A n c xs) (ep : val 18446744073709551616 xs = pw) (lp : n ≤ 100)
    {A2 : Option Addr} {m c2 : Nat} {bs : List Nat} (hb : Nb w w.heap.size A2 m c2 bs) (hm : m ≤ 1000) :
    Calls Tryz.prog 63 #[v, .slice A n c, .slice A2 m c2] w fun e w' => ∃ g, e = .returned (.slice (some ⟨g, 0, none⟩) s s) ∧ w.heap.size ≤ g ∧ Ob w' g (bts (val 256 bs.reverse ^ pw % N) s) ∧ Below w.heap.size w w' := by
  have hsz := fun W (k : Pr W v N E D) => size_any k
  rw [hs] at hsz
  have Hsz := Lib.hid hsz
  have Hh := Lib.hid h
  obtain ⟨A1, n1, c1, x1, A3, n3, c3, x3, A4, n4, c4, x4, rfl, h1', e1, l1, _, _, _, _, _, _⟩ := h.ex
  clear h hsz
  obtain ⟨w0, e0⟩ : ∃ w0, w0 = w.alloc (.cells #[Value.slice A1 n1 c1, .slice A3 n3 c3, .slice A4 n4 c4] 30) := ⟨_, rfl⟩
  obtain ⟨hx0, b0⟩ := box_new e0
  have h1 := (h1'.up b0).drew
  have hp0 := (hp.up b0).drew
  have hb0 := (hb.up b0).dr 1
  have p0 := (Hh.out.up b0).dr 1
  have hyd : Bx w0.drew w.heap.size (.slice A1 n1 c1) (.slice A3 n3 c3) (.slice A4 n4 c4) := ⟨hx0.lt, hx0.c0, hx0.c1, hx0.c2⟩
  have bd : Below w0.heap.size w0 w0.drew := (Below.refl _ _).drew
  have hbl : ∀ t, bl (t % N) ≤ 8 * s := fun t => by
    have h2 := lt_bl N
    have h3 : t % N < 2 ^ (8 * s) := Nat.lt_trans (Nat.mod_lt _ hN0) (Nat.lt_of_lt_of_le h2 (Nat.pow_le_pow_right (by omega) (by omega)))
    exact bl_le h3
  have Hbl := Lib.hid hbl
  have hRv : val 256 bs.reverse < 18446744073709551616 ^ 200 := by
    set_option exponentiation.threshold 70000 in
    have h2 := val_lt (β := 256) (xs := bs.reverse) (fun x hx => hb.lim x (List.mem_reverse.1 hx))
    rw [List.length_reverse, hb.len] at h2
    refine Nat.lt_of_lt_of_le h2 ?_
    rw [show (18446744073709551616 : Nat) = 256 ^ 8 by decide, ← Nat.pow_mul]
    exact Nat.pow_le_pow_right (by omega) (by omega)
  have HRv := Lib.hid hRv
  clear hbl hRv
  go_enter Tryz.func63, Tryz.ntmps63
  go_wp2_with fail
  rw [← e0]
  clear e0
  go_region_held3 (fun w' => w'.cell? ⟨w.heap.size, 0, none⟩ = some (Value.slice A1 n1 c1))
    (first | exact g4.c0 | exact g3.c0 | exact hyd.c0)
    ((first
      | (go_at_call 94; refine (read_any hb0 (by omega)).mono ?_; rintro e w3 ⟨A5, n5, c5, x5, rfl, r5⟩
         have g3 := hyd.up r5.bel
         have v5 := r5.is
         have l5 : n5 ≤ 200 := r5.le HRv.out)
      | (go_at_call 93; refine (mpow_pos r5.nt (hp0.up r5.bel) (h1.up r5.bel) (by omega) (by omega) (by omega) (by rw [e1]; exact hN0)).mono ?_; rintro e w4 ⟨A6, n6, c6, x6, rfl, r6⟩
         rw [v5, ep, e1] at r6
         have g4 := g3.up r6.bel)))
  all_goals
    have B4 := bthen (bthen bd r5.bel) r6.bel
    have p4 := (p0.up r5.bel).up r6.bel
    have z0 := g4.c0
    have z1 := g4.c1
    have z2 := g4.c2
    have v6 := r6.is
    have l6 : n6 ≤ 100 := r6.le (Nat.lt_trans (Nat.mod_lt _ hN0) (by rw [← e1]; exact h1'.below_pow l1))
    obtain ⟨res, hres⟩ : ∃ res, val 256 bs.reverse ^ pw % N = res := ⟨_, rfl⟩
    rw [hres] at v6
    have hblr : bl res ≤ 8 * s := hres ▸ Hbl.out _
    have Hres := Lib.hid hres
    clear hres
    go_wp2_with fail
    refine (Hsz.out _ p4).mono ?_
    rintro e w5 ⟨rfl, b5⟩
    go_wp2_with fail
    refine (write_ok (r6.nt.up b5) (by omega) s _ rfl (by omega) (by rw [v6]; exact hblr)).mono ?_
    rintro e w6 ⟨rfl, ho, b6⟩
    rw [v6, ← Hres.out] at ho
    have B6 := bthen (bthen B4 b5) b6
    have hsz5 := (bthen (bthen b0 B4) b5).size
    go_wp2_with fail
    go_ret
    exact ⟨_, rfl, hsz5, ho, bthen b0 B6⟩
end Go.Proofs.YthipdagebijbiaaGreatDoor
namespace Go.Proofs.YthipdagebijbiaaGreatDoor
open Go.RowKit
set_option linter.unusedVariables false
set_option maxRecDepth 100000

theorem cmp_dec {w : World} {B : Nat} {A A2 : Option Addr} {n c n2 c2 : Nat} {xs ys : List Nat} (h : Nt w B A n c xs) (h2 : Nt w B A2 n2 c2 ys) :
    Calls Tryz.prog 48 #[.slice A n c, .slice A2 n2 c2] w fun e w' => ∃ s : Int, e = .returned (.int .i64 s) ∧ (s < 0 ↔ val 18446744073709551616 xs < val 18446744073709551616 ys) ∧ ∃ d, w' = w.drewN d := by
  rcases Nat.lt_trichotomy (val 18446744073709551616 xs) (val 18446744073709551616 ys) with hv | hv | hv
  · exact (cmp_lt h h2 hv).mono fun e w' ⟨he, hd⟩ => ⟨_, he, by simp [hv], hd⟩
  · exact (cmp_eq h h2 hv).mono fun e w' ⟨he, hd⟩ => ⟨_, he, by simp; omega, hd⟩
  · exact (cmp_gt h h2 hv).mono fun e w' ⟨he, hd⟩ => ⟨_, he, by simp; omega, hd⟩
theorem len_signN {s : Nat} {xs : List Nat} (hs : 27 ≤ s) : (signN s xs).length = s := by
  have h : (Sh.sha xs).length = 32 := Sh.length_sha xs
  simp only [signN, frameN, List.length_cons, List.length_append, List.length_replicate, List.length_take, h]
  omega
theorem lim_signN (s : Nat) (xs : List Nat) : Lim 256 (signN s xs) := by
  intro x hx
  simp only [signN, frameN, List.mem_cons, List.mem_append, List.mem_replicate] at hx
  rcases hx with rfl | rfl | ⟨_, rfl⟩ | rfl | hx
  · omega
  · omega
  · omega
  · omega
  · exact Sh.sha_lim xs x (List.mem_of_mem_take hx)
set_option maxHeartbeats 4000000 in
theorem fits_any {w : World} {v : Value} {N E D s : Nat} (h : Pr w v N E D) (hs : (bl N + 7) / 8 = s) (hs2 : s ≤ 500)
    {A2 : Option Addr} {c2 : Nat} {bs : List Nat} (hb : Nb w w.heap.size A2 s c2 bs) :
    Calls Tryz.prog 65 #[v, .slice A2 s c2] w fun e w' => e = .returned (.bool (decide (val 256 bs.reverse < N))) ∧ Below w.heap.size w w' := by
  have hsz := fun W (k : Pr W v N E D) => size_any k
  rw [hs] at hsz
  have Hsz := Lib.hid hsz
  have Hh := Lib.hid h
  obtain ⟨A1, n1, c1, x1, A3, n3, c3, x3, A4, n4, c4, x4, rfl, h1', e1, l1, _, _, _, _, _, _⟩ := h.ex
  clear h hsz hs
  obtain ⟨w0, e0⟩ : ∃ w0, w0 = w.alloc (.cells #[Value.slice A1 n1 c1, .slice A3 n3 c3, .slice A4 n4 c4] 30) := ⟨_, rfl⟩
  obtain ⟨hx0, b0⟩ := box_new e0
  have h1 := h1'.up b0
  have hb0 := hb.up b0
  have q0 := hx0.c0
  have q1 := hx0.c1
  have q2 := hx0.c2
  clear h1'
  go_enter Tryz.func65, Tryz.ntmps65
  go_wp2_with fail
  rw [← e0]
  clear e0
  have p0 := (Hh.out.up b0).dr 1
  have hb1 := hb0.dr 1
  have h1d := h1.drew
  have hyd : Bx w0.drew w.heap.size (.slice A1 n1 c1) (.slice A3 n3 c3) (.slice A4 n4 c4) := ⟨hx0.lt, hx0.c0, hx0.c1, hx0.c2⟩
  have bd : Below w0.heap.size w0 w0.drew := (Below.refl _ _).drew
  have z0 := hyd.c0
  have z1 := hyd.c1
  have z2 := hyd.c2
  go_region_with ((first
      | (go_at_call 62; refine (Hsz.out _ p0).mono ?_; rintro e w3 ⟨rfl, b3⟩
         have g3 := hyd.up b3
         have g30 := g3.c0
         have g31 := g3.c1
         have g32 := g3.c2)
      | (go_at_call 94; refine (read_any (hb1.up b3) (by omega)).mono ?_; rintro e w4 ⟨A5, n5, c5, x5, rfl, r5⟩
         have v5 := r5.is
         have g4 := g3.up r5.bel
         have g40 := g4.c0
         have g41 := g4.c1
         have g42 := g4.c2)
      | (go_at_call 48; refine (cmp_dec r5.nt ((h1d.up b3).up r5.bel)).mono ?_; rintro e w5 ⟨cs, rfl, hcs, d5, rfl⟩
         rw [v5, e1] at hcs
         have hdc : decide (cs < 0) = decide (val 256 bs.reverse < N) := by simp [hcs]
         have Hdc := Lib.hid hdc
         clear hdc hcs)))
  all_goals
    have B := bdr (bthen (bthen bd b3) r5.bel) d5
    go_wp2_with fail
    go_ret
    rw [Hdc.out]
    exact ⟨rfl, bthen b0 B⟩
set_option maxHeartbeats 4000000 in
theorem sign_ok {w : World} (hk : Sh.Ks w) {v : Value} {N E D s : Nat} (h : Pr w v N E D) (hN2 : N % 2 = 1) (hb1 : 16 ≤ bl N) (hb2 : bl N ≤ 1024) (hE2 : E % 2 = 1) (hE : 1 < E) (hEN : E < N) (hDN : D < N) (hD : 0 < D)
    (hs : (bl N + 7) / 8 = s) (hs1 : 27 ≤ s) {A : Option Addr} {n c : Nat} {xs : List Nat} (hx : Sh.Nb w w.heap.size A n c xs) (hn : n ≤ 1000) :
    Calls Tryz.prog 28 #[v, .slice A n c] w fun e w' => ∃ g, e = .returned (.tuple #[.slice (some ⟨g, 0, none⟩) s s, .int .i64 0]) ∧ w.heap.size ≤ g ∧ Ob w' g (bts (val 256 (signN s xs).reverse ^ D % N) s) ∧ Below w.heap.size w w' := by
  have hs2 : s ≤ 200 := by omega
  have hr := fun W (k : Pr W v N E D) => secret_any k hN2 hb1 hb2 hE2 hE hEN hDN hD
  have hsz := fun W (k : Pr W v N E D) => size_any k
  rw [hs] at hsz
  have hsg := fun W (k : Pr W v N E D) (kk : Sh.Ks W) {A n c} (kx : Sh.Nb W W.heap.size A n c xs) (kn : n ≤ 1000) => signed_any kk k hs (by omega) (by omega) kx kn
  have hN0 : 0 < N := by omega
  have hwk := fun W (k : Pr W v N E D) {A n c pw xs} (kp : Nt W W.heap.size A n c xs) (ep : val 18446744073709551616 xs = pw) (lp : n ≤ 100) {A2 m c2 bs} (kb : Nb W W.heap.size A2 m c2 bs) (km : m ≤ 1000) => work_any k hN0 hs (by omega) kp ep lp kb km
  have Hr := Lib.hid hr
  have Hsz := Lib.hid hsz
  have Hh := Lib.hid h
  have Hsg := Lib.hid hsg
  have Hwk := Lib.hid hwk
  obtain ⟨A1, n1, c1, x1, A2, n2, c2, x2, A3, n3, c3, x3, rfl, h1', e1, l1, h2', e2, l2, h3', e3, l3⟩ := h.ex
  clear h hr hsz hsg hwk
  obtain ⟨w0, e0⟩ : ∃ w0, w0 = w.alloc (.cells #[Value.slice A1 n1 c1, .slice A2 n2 c2, .slice A3 n3 c3] 30) := ⟨_, rfl⟩
  obtain ⟨hx0, b0⟩ := box_new e0
  have q0 := hx0.c0
  have q1 := hx0.c1
  have q2 := hx0.c2
  have h3 := h3'.up b0
  have hx1 := hx.go b0
  have hk1 := hk.bel b0
  clear h1' h2' h3' hb1 hb2 hs
  go_enter Tryz.func28, Tryz.ntmps28
  go_wp2_with fail
  rw [← e0]
  clear e0
  refine (Hr.out _ (Hh.out.up b0)).mono ?_
  rintro e w2 ⟨rfl, b2⟩
  have hy := hx0.up b2
  have y0 := hy.c0
  have y1 := hy.c1
  have y2 := hy.c2
  go_wp2_with fail
  refine (Hsz.out _ ((Hh.out.up b0).up b2)).mono ?_
  rintro e w3 ⟨rfl, b3⟩
  go_wp2_with fail
  have bD : Below w3.heap.size w3 w3.drew := (Below.refl _ _).drew
  have B3 := bthen (bthen b2 b3) bD
  have hz := hx0.up B3
  have z0 := hz.c0
  have z1 := hz.c1
  have z2 := hz.c2
  have h3d := h3.up B3
  have p3 := (Hh.out.up b0).up B3
  have kk3 := hk1.bel B3
  have hx3 := hx1.go B3
  go_region_with ((first
      | (go_at_call 64; refine (Hsg.out _ p3 kk3 hx3 (by omega)).mono ?_; rintro e w4 ⟨g4, rfl, hg4, ho4, b4⟩
         have y := hz.up b4
         have y0 := y.c0
         have y1 := y.c1
         have y2 := y.c2)
      | (go_at_call 63; refine (Hwk.out _ (p3.up b4) (h3d.up b4) e3 l3 (ho4.nb (len_signN hs1) (show s ≤ maxLen by unfold maxLen; omega) (lim_signN s xs)) (by omega)).mono ?_; rintro e w5 ⟨g5, rfl, hg5, ho5, b5⟩)))
  all_goals
    have B := bthen (bthen B3 b4) b5
    go_wp2_with fail
    go_ret2
    exact ⟨_, rfl, by have := b0.size; have := B3.size; have := b4.size; omega, ho5, bthen b0 B⟩
end Go.Proofs.YthipdagebijbiaaGreatDoor
namespace Go.Proofs.YthipdagebijbiaaGreatDoor
open Go.RowKit
set_option linter.unusedVariables false
set_option maxRecDepth 100000

set_option maxHeartbeats 8000000 in
theorem verify_any {w : World} (hk : Sh.Ks w) {v : Value} {N E D s : Nat} (h : Pr w v N E D) (hN2 : N % 2 = 1) (hb1 : 16 ≤ bl N) (hb2 : bl N ≤ 1024) (hE2 : E % 2 = 1) (hE : 1 < E) (hEN : E < N) (hDN : D < N)
    (hs : (bl N + 7) / 8 = s) (hs1 : 27 ≤ s) {A : Option Addr} {n c : Nat} {xs : List Nat} (hx : Sh.Nb w w.heap.size A n c xs) (hn : n ≤ 1000) {A4 : Option Addr} {c4 : Nat} {bs : List Nat} (hb : Nb w w.heap.size A4 s c4 bs) :
    Calls Tryz.prog 30 #[v, .slice A n c, .slice A4 s c4] w fun e w' => e = .returned (.bool (decide (val 256 bs.reverse < N) && ((bstr (bts (val 256 bs.reverse ^ E % N) s)).toList == (bstr (signN s xs)).toList))) ∧ Below w.heap.size w w' := by
  have hs2 : s ≤ 200 := by omega
  have hr := fun W (k : Pr W v N E D) => kright_any k hN2 hb1 hb2 hE2 hE hEN hDN
  have hsz := fun W (k : Pr W v N E D) => size_any k
  rw [hs] at hsz
  have hft := fun W (k : Pr W v N E D) {A c bs} (kb : Nb W W.heap.size A s c bs) => fits_any k hs (by omega) kb
  have hsg := fun W (k : Pr W v N E D) (kk : Sh.Ks W) {A n c} (kx : Sh.Nb W W.heap.size A n c xs) (kn : n ≤ 1000) => signed_any kk k hs (by omega) (by omega) kx kn
  have hN0 : 0 < N := by omega
  have hwk := fun W (k : Pr W v N E D) {A n c pw xs} (kp : Nt W W.heap.size A n c xs) (ep : val 18446744073709551616 xs = pw) (lp : n ≤ 100) {A2 m c2 bs} (kb : Nb W W.heap.size A2 m c2 bs) (km : m ≤ 1000) => work_any k hN0 hs (by omega) kp ep lp kb km
  have Hr := Lib.hid hr
  have Hsz := Lib.hid hsz
  have Hft := Lib.hid hft
  have Hh := Lib.hid h
  have Hsg := Lib.hid hsg
  have Hwk := Lib.hid hwk
  obtain ⟨A1, n1, c1, x1, A2, n2, c2, x2, A3, n3, c3, x3, rfl, h1', e1, l1, h2', e2, l2, h3', e3, l3⟩ := h.ex
  clear h hr hsz hsg hwk hft
  obtain ⟨w0, e0⟩ : ∃ w0, w0 = w.alloc (.cells #[Value.slice A1 n1 c1, .slice A2 n2 c2, .slice A3 n3 c3] 30) := ⟨_, rfl⟩
  obtain ⟨hx0, b0⟩ := box_new e0
  have q0 := hx0.c0
  have q1 := hx0.c1
  have q2 := hx0.c2
  have h2 := h2'.up b0
  have hx1 := hx.go b0
  have hk1 := hk.bel b0
  have hb0 := hb.up b0
  clear h1' h2' h3' hb1 hb2 hs
  obtain ⟨res, hres⟩ : ∃ res, (decide (val 256 bs.reverse < N) && ((bstr (bts (val 256 bs.reverse ^ E % N) s)).toList == (bstr (signN s xs)).toList)) = res := ⟨_, rfl⟩
  rw [hres]
  have Hres := Lib.hid hres
  clear hres
  go_enter Tryz.func30, Tryz.ntmps30
  go_wp2_with fail
  rw [← e0]
  clear e0
  refine (Hr.out _ (Hh.out.up b0)).mono ?_
  rintro e w2 ⟨rfl, b2⟩
  have hy := hx0.up b2
  have y0 := hy.c0
  have y1 := hy.c1
  have y2 := hy.c2
  go_wp2_with fail
  refine (Hsz.out _ ((Hh.out.up b0).up b2)).mono ?_
  rintro e w3 ⟨rfl, b3⟩
  have hz := hy.up b3
  have z0 := hz.c0
  have z1 := hz.c1
  have z2 := hz.c2
  go_wp2_with fail
  have hb3 := (hb0.up b2).up b3
  have hfit := Hft.out _ (((Hh.out.up b0).up b2).up b3) hb3
  by_cases hS : val 256 bs.reverse < N
  · rw [decide_eq_true hS] at hfit
    have Hfit := Lib.hid hfit
    have HS := Lib.hid hS
    clear hfit hS
    refine Hfit.out.mono ?_
    rintro e w4 ⟨rfl, b4⟩
    have bD : Below w4.heap.size w4 w4.drew := (Below.refl _ _).drew
    have B4 := bthen (bthen (bthen b2 b3) b4) bD
    have g := hx0.up B4
    have g0 := g.c0
    have g1 := g.c1
    have g2 := g.c2
    have p4 := (Hh.out.up b0).up B4
    have h24 := h2.up B4
    have kk4 := hk1.bel B4
    have hx4 := hx1.go B4
    have hb4 := hb0.up B4
    have G := hx0.up (bthen (bthen b2 b3) b4)
    have G0 := G.c0
    have G1 := G.c1
    have G2 := G.c2
    go_wp2_with fail
    go_region_with ((first
      | (go_at_call 63; refine (Hwk.out _ p4 h24 e2 l2 hb4 (by omega)).mono ?_; rintro e w5 ⟨g5, rfl, hg5, ho5, b5⟩
         have j := g.up b5
         have j0 := j.c0
         have j1 := j.c1
         have j2 := j.c2)
      | (go_at_call 64; refine (Hsg.out _ (p4.up b5) (kk4.bel b5) (hx4.go b5) (by omega)).mono ?_; rintro e w6 ⟨g6, rfl, hg6, ho6, b6⟩
         have y := j.up b6
         have y0 := y.c0
         have y1 := y.c1
         have y2 := y.c2
         have N5 := ((ho5.nb (length_bts _ _) (show s ≤ maxLen by unfold maxLen; omega) (lim_bts _ _)).up b6).sh
         have N6 := (ho6.nb (len_signN hs1) (show s ≤ maxLen by unfold maxLen; omega) (lim_signN s xs)).sh
         have heq := equal_any N5 N6
         have Heq := Lib.hid heq
         clear heq)
      | (go_at_call 66; refine Heq.out.mono ?_; rintro e w7 ⟨rfl, rfl⟩)))
    all_goals
      have B := bthen (bthen B4 b5) b6
      go_wp2_with fail
      go_ret
      have hres := Hres.out
      rw [decide_eq_true HS.out, Bool.true_and] at hres
      rw [hres]
      exact ⟨rfl, bthen b0 B⟩
  · rw [decide_eq_false hS] at hfit
    have Hfit := Lib.hid hfit
    have HS := Lib.hid hS
    clear hfit hS
    refine Hfit.out.mono ?_
    rintro e w4 ⟨rfl, b4⟩
    go_wp2_with fail
    go_ret
    have hres := Hres.out
    rw [decide_eq_false HS.out, Bool.false_and] at hres
    rw [← hres]
    exact ⟨rfl, bthen b0 (bthen (bthen b2 b3) b4)⟩
end Go.Proofs.YthipdagebijbiaaGreatDoor
namespace Go.Proofs.YthipdagebijbiaaGreatDoor
open Go.RowKit
set_option linter.unusedVariables false
set_option maxRecDepth 100000

set_option maxHeartbeats 1000000 in
theorem copied_any {w : World} {A : Option Addr} {n c : Nat} {xs : List Nat} (h : Nt w w.heap.size A n c xs) (hn : n ≤ 1000) :
    Calls Tryz.prog 31 #[.slice A n c] w fun e w' => ∃ A5, e = .returned (.slice A5 n n) ∧ Nt w' w'.heap.size A5 n n xs ∧ Below w.heap.size w w' := by
  have hr := h.rooms
  go_enter Tryz.func31, Tryz.ntmps31
  go_wp2_with (first
    | (refine wpList_make_us _ rfl _ _ rfl _ _ n rfl rfl (by omega) (by omega) (by omega) ?_; intro w1 hw1 hg1)
    | (refine wpList_copy_us rfl _ _ rfl rfl rfl hw1 (by simp) (h.below (below_none hg1 (Nat.le_refl _))) (by omega) ?_; intro w2 hw2 hg2))
  go_ret
  have hb := (below_none hg1 (Nat.le_refl _)).grown hg2 hg1.size (fun k hk => by cases hk; exact Nat.le_refl _)
  rw [List.drop_replicate, Nat.sub_self, List.replicate_zero, List.append_nil] at hw2
  exact ⟨_, rfl, (hw2.whole (by rw [h.len]; unfold maxLen; omega) h.lim h.len.symm).more hw2.lt, hb⟩
set_option maxHeartbeats 4000000 in
theorem public_any {w : World} {v : Value} {N E D : Nat} (h : Pr w v N E D) :
    Calls Tryz.prog 10 #[v] w fun e w' => ∃ v', e = .returned v' ∧ Pr w' v' N E 0 ∧ Below w.heap.size w w' := by
  obtain ⟨A1, n1, c1, x1, A2, n2, c2, x2, A3, n3, c3, x3, rfl, h1', e1, l1, h2', e2, l2, h3', e3, l3⟩ := h.ex
  clear h
  obtain ⟨w0, e0⟩ : ∃ w0, w0 = w.alloc (.cells #[Value.slice A1 n1 c1, .slice A2 n2 c2, .slice A3 n3 c3] 30) := ⟨_, rfl⟩
  obtain ⟨hx0, b0⟩ := box_new e0
  have hsz : w0.heap.size = w.heap.size + 1 := by rw [e0]; simp
  obtain ⟨wz, ez⟩ : ∃ wz, wz = w0.alloc (.cells #[Value.slice none 0 0, .slice none 0 0, .slice none 0 0] 30) := ⟨_, rfl⟩
  have hz0 : wz.heap[w.heap.size + 1]? = some (.cells #[Value.slice none 0 0, .slice none 0 0, .slice none 0 0] 30 (0, 0)) := by rw [ez, ← hsz]; exact heap_alloc_new w0 _
  have hzs : w.heap.size + 1 < wz.heap.size := by rw [ez]; simp [hsz]
  have bz : Below w0.heap.size w0 wz := ez ▸ (Below.refl _ w0).alloc (Nat.le_refl _) _
  have bd : Below wz.heap.size wz wz.drew := (Below.refl _ _).drew
  have h1 := ((h1'.up b0).up bz).drew
  have h2 := ((h2'.up b0).up bz).drew
  have hy := hx0.up bz
  have hyd : Bx wz.drew w.heap.size (.slice A1 n1 c1) (.slice A2 n2 c2) (.slice A3 n3 c3) := ⟨hy.lt, hy.c0, hy.c1, hy.c2⟩
  have z0 := hyd.c0
  have z1 := hyd.c1
  clear h1' h2' h3' hx0 hy
  go_enter Tryz.func10, Tryz.ntmps10
  go_wp2_with fail
  rw [← e0]
  clear e0
  rw [← ez]
  clear ez
  go_region_with ((first
      | (go_at_call 31; with_reducible refine (copied_any h1 (by omega)).mono ?_; rintro e w3 ⟨A5, rfl, m3, b3⟩
         have g3 := hyd.up b3
         have g30 := g3.c0
         have g31 := g3.c1)
      | (go_at_call 31; with_reducible refine (copied_any (h2.up b3) (by omega)).mono ?_; rintro e w4 ⟨A6, rfl, m4, b4⟩
         have B4 := bthen (bthen bd b3) b4
         have hx := (B4.block (w.heap.size + 1) hzs).trans hz0
         have g4 := g3.up b4
         have g40 := g4.c0
         have g41 := g4.c1
         obtain ⟨q0, q1, q2, q3, q4, q5⟩ := three_cells hx)))
  all_goals
    go_wp2_with fail
    refine bodyPost_ret (results_cell_row rfl _ _ (w.heap.size + 1) 30 _ (0, 0) _ rfl (three_fin hx) Tryz.underlying30 rfl (by kernel_rfl)) rfl ?_
    have hb := (((bthen b0 (bthen bz B4)).setCell (p := ⟨w.heap.size + 1, 0, none⟩) (by simp) (.slice A5 n1 n1)).setCell (p := ⟨w.heap.size + 1, 1, none⟩) (by simp) (.slice A6 n2 n2)).setCell (p := ⟨w.heap.size + 1, 2, none⟩) (by simp) (.slice none 0 0)
    exact ⟨_, rfl, ⟨_, _, _, _, _, _, _, _, _, _, _, _, rfl, (m3.up b4).away3 (B := 0) ((m3.up b4).not_in hx), e1, l1, m4.away3 (B := 0) (m4.not_in hx), e2, l2, nt_nil _ _, rfl, by omega⟩, hb⟩
end Go.Proofs.YthipdagebijbiaaGreatDoor
namespace Go.Proofs.YthipdagebijbiaaGreatDoor
open Go.RowKit
set_option linter.unusedVariables false
set_option maxRecDepth 100000

theorem bts_mod (v : Nat) : ∀ n, val 256 (bts v n).reverse = v % 256 ^ n
  | 0 => by simp [bts, val, Nat.mod_one]
  | n + 1 => by
    rw [bts, List.reverse_cons, val_append, bts_mod v n, List.length_reverse, length_bts]
    simp only [val, Nat.mul_zero, Nat.add_zero]
    rw [Nat.pow_succ, Nat.mod_mul]
theorem bts_back {v n : Nat} (h : v < 256 ^ n) : val 256 (bts v n).reverse = v := by rw [bts_mod, Nat.mod_eq_of_lt h]
theorem bts_val : ∀ (l : List Nat), Lim 256 l → bts (val 256 l.reverse) l.length = l
  | [], _ => rfl
  | x :: l, h => by
    have hx : x < 256 := h x (by simp)
    have hl : Lim 256 l := fun y hy => h y (List.mem_cons_of_mem _ hy)
    have hlt : val 256 l.reverse < 256 ^ l.length := by
      have := val_lt (β := 256) (xs := l.reverse) (fun y hy => hl y (List.mem_reverse.1 hy))
      rwa [List.length_reverse] at this
    have e : val 256 (x :: l).reverse = val 256 l.reverse + 256 ^ l.length * x := by
      rw [List.reverse_cons, val_append, List.length_reverse]
      simp [val]
    rw [e, List.length_cons, bts]
    have h1 : (val 256 l.reverse + 256 ^ l.length * x) / 256 ^ l.length % 256 = x := by
      rw [Nat.add_mul_div_left _ _ (Nat.pow_pos (by omega)), Nat.div_eq_of_lt hlt, Nat.zero_add, Nat.mod_eq_of_lt hx]
    have h2 : ∀ (a b n : Nat), a % 256 ^ n = b % 256 ^ n → bts a n = bts b n := by
      intro a b n
      induction n with
      | zero => intro _; rfl
      | succ n ih =>
        intro hab
        rw [bts, bts]
        have h3 : a / 256 ^ n % 256 = b / 256 ^ n % 256 := by
          have ha := Nat.mod_mul_right_div_self a (256 ^ n) 256
          have hb := Nat.mod_mul_right_div_self b (256 ^ n) 256
          rw [Nat.pow_succ] at hab
          rw [← ha, ← hb, hab]
        have h4 : a % 256 ^ n = b % 256 ^ n := by
          have := congrArg (· % 256 ^ n) hab
          simp only [Nat.pow_succ] at this
          rwa [Nat.mod_mul_right_mod, Nat.mod_mul_right_mod] at this
        rw [h3, ih h4]
    rw [h1, h2 _ (val 256 l.reverse) l.length (by rw [Nat.add_mul_mod_self_left]), bts_val l hl]
theorem val_inj {a b : List Nat} (ha : Lim 256 a) (hb : Lim 256 b) (hl : a.length = b.length) (h : val 256 a.reverse = val 256 b.reverse) : a = b := by
  rw [← bts_val a ha, ← bts_val b hb, h, hl]
/-- the texts of bytes say which they are -/
theorem bstr_inj {a b : List Nat} (ha : Lim 256 a) (hb : Lim 256 b) (h : (bstr a).toList = (bstr b).toList) : a = b := by
  unfold bstr at h
  rw [Lib.strOfNums_toList, Lib.strOfNums_toList] at h
  have back : ∀ l : List Nat, Lim 256 l → (Lib.bytesOf (l.map fun x : Nat => (x : Int))).map (fun u => u.toNat) = l := by
    intro l hl
    induction l with
    | nil => rfl
    | cons x l ih =>
      have hx := hl x (by simp)
      simp only [Lib.bytesOf, List.map_cons, List.map_map] at ih ⊢
      rw [ih (fun y hy => hl y (List.mem_cons_of_mem _ hy))]
      congr 1
      simp only [Int.toNat_natCast, UInt8.toNat_ofNat']
      omega
  rw [← back a ha, ← back b hb, h]
theorem frame_lt (s : Nat) (hs : 27 ≤ s) (xs : List Nat) : val 256 (signN s xs).reverse < 2 * 256 ^ (s - 2) := by
  have hL := lim_signN s xs
  have hlen := len_signN (xs := xs) hs
  obtain ⟨r, hr⟩ : ∃ r, signN s xs = 0 :: 1 :: r := ⟨_, rfl⟩
  rw [hr] at hL hlen ⊢
  have hl : r.length = s - 2 := by simp at hlen; omega
  have hlt : val 256 r.reverse < 256 ^ (s - 2) := by
    have := val_lt (β := 256) (xs := r.reverse) (fun y hy => hL y (List.mem_cons_of_mem _ (List.mem_cons_of_mem _ (List.mem_reverse.1 hy))))
    rwa [List.length_reverse, hl] at this
  have e : val 256 (0 :: 1 :: r).reverse = val 256 r.reverse + 256 ^ (s - 2) := by
    rw [List.reverse_cons, List.reverse_cons, val_append, val_append]
    simp [val, hl]
  rw [e]; omega
def Known (p q : Nat) : Prop := p = 2 ^ 127 - 1 ∧ q = 2 ^ 107 - 1 ∨ p = 2 ^ 89 - 1 ∧ q = 2 ^ 127 - 1
theorem known_facts {p q : Nat} (h : Known p q) : p * q % 2 = 1 ∧ 16 ≤ bl (p * q) ∧ bl (p * q) ≤ 1024 ∧ 65537 < p * q ∧ (p - 1) * (q - 1) ≤ p * q ∧ 1 < (p - 1) * (q - 1) ∧
    27 ≤ (bl (p * q) + 7) / 8 ∧ (bl (p * q) + 7) / 8 ≤ 30 ∧ 2 * 256 ^ ((bl (p * q) + 7) / 8 - 2) ≤ p * q ∧ p * q ≤ 256 ^ ((bl (p * q) + 7) / 8) := by
  rcases h with ⟨h1, h2⟩ | ⟨h1, h2⟩ <;> (rw [h1, h2]; decide +kernel)
theorem known_undo {p q d : Nat} (h : Known p q) (hd : 65537 * d % ((p - 1) * (q - 1)) = 1) (r : Nat) :
    (r ^ 65537 % (p * q)) ^ d % (p * q) = r % (p * q) ∧ (r ^ d % (p * q)) ^ 65537 % (p * q) = r % (p * q) := by
  have hp : Prm p := by
    rcases h with ⟨h, _⟩ | ⟨h, _⟩ <;> rw [h]
    · exact prm_m127
    · exact prm_m89
  have hq : Prm q := by
    rcases h with ⟨_, h⟩ | ⟨_, h⟩ <;> rw [h]
    · exact prm_m107
    · exact prm_m127
  have hne : p ≠ q := by
    rcases h with ⟨h1, h2⟩ | ⟨h1, h2⟩ <;> (rw [h1, h2]; decide)
  exact ⟨euler2 hp hq hne hd r, euler2 (e := d) (d := 65537) hp hq hne (by rw [Nat.mul_comm d]; exact hd) r⟩
end Go.Proofs.YthipdagebijbiaaGreatDoor
namespace Go.Proofs.YthipdagebijbiaaGreatDoor
open Go.RowKit
set_option linter.unusedVariables false
set_option maxRecDepth 100000
set_option exponentiation.threshold 70000

/-- Verify's answer over a signature's bytes -/
def verB (M s : Nat) (xs bs : List Nat) : Bool := decide (val 256 bs.reverse < M) && ((bstr (bts (val 256 bs.reverse ^ 65537 % M) s)).toList == (bstr (signN s xs)).toList)
theorem sig_facts {M d s : Nat} {xs : List Nat} (f7 : 27 ≤ s) (f9 : 2 * 256 ^ (s - 2) ≤ M) (f10 : M ≤ 256 ^ s) :
    val 256 (signN s xs).reverse < M ∧ val 256 (bts (val 256 (signN s xs).reverse ^ d % M) s).reverse = val 256 (signN s xs).reverse ^ d % M ∧ val 256 (signN s xs).reverse ^ d % M < M := by
  have h1 := frame_lt s f7 xs
  have h2 : val 256 (signN s xs).reverse < M := Nat.lt_of_lt_of_le h1 f9
  have h3 : val 256 (signN s xs).reverse ^ d % M < M := Nat.mod_lt _ (by omega)
  exact ⟨h2, bts_back (Nat.lt_of_lt_of_le h3 f10), h3⟩
theorem ver_same {M d s : Nat} {xs ys : List Nat} (f7 : 27 ≤ s) (f9 : 2 * 256 ^ (s - 2) ≤ M) (f10 : M ≤ 256 ^ s) (hund : ∀ r : Nat, (r ^ 65537 % M) ^ d % M = r % M ∧ (r ^ d % M) ^ 65537 % M = r % M) :
    verB M s ys (bts (val 256 (signN s xs).reverse ^ d % M) s) = ((bstr (signN s xs)).toList == (bstr (signN s ys)).toList) := by
  obtain ⟨h1, h2, h3⟩ := sig_facts (d := d) (xs := xs) f7 f9 f10
  unfold verB
  rw [h2, decide_eq_true h3, Bool.true_and, (hund _).2, Nat.mod_eq_of_lt h1]
  have := bts_val (signN s xs) (lim_signN s xs)
  rw [len_signN f7] at this
  rw [this]
theorem ver_bad {M d s j x : Nat} {xs : List Nat} (f7 : 27 ≤ s) (f9 : 2 * 256 ^ (s - 2) ≤ M) (f10 : M ≤ 256 ^ s) (hund : ∀ r : Nat, (r ^ 65537 % M) ^ d % M = r % M ∧ (r ^ d % M) ^ 65537 % M = r % M)
    (hj : j < s) (hx : x < 256) (hne : (bts (val 256 (signN s xs).reverse ^ d % M) s)[j]? ≠ some x) :
    verB M s xs ((bts (val 256 (signN s xs).reverse ^ d % M) s).set j x) = false := by
  obtain ⟨h1, h2, h3⟩ := sig_facts (d := d) (xs := xs) f7 f9 f10
  obtain ⟨Sg, hSg⟩ : ∃ v, val 256 (signN s xs).reverse ^ d % M = v := ⟨_, rfl⟩
  obtain ⟨F, hF⟩ : ∃ F, signN s xs = F := ⟨_, rfl⟩
  have hlF := len_signN (xs := xs) f7
  have hLF := lim_signN s xs
  have hu := (hund (val 256 ((bts Sg s).set j x).reverse)).1
  rw [hF] at hSg hlF hLF h1 h2 h3 hne ⊢
  rw [hSg] at h2 h3 hne ⊢
  unfold verB
  by_cases hlt : val 256 ((bts Sg s).set j x).reverse < M
  · rw [decide_eq_true hlt, Bool.true_and, Bool.eq_false_iff]
    intro hc
    have he := bstr_inj (lim_bts _ _) (lim_signN s xs) (by simpa using hc)
    rw [hF] at he
    have hr : val 256 ((bts Sg s).set j x).reverse ^ 65537 % M < 256 ^ s := Nat.lt_of_lt_of_le (Nat.mod_lt _ (by omega)) f10
    have hv := bts_back hr
    rw [he] at hv
    rw [← hv, hSg, Nat.mod_eq_of_lt hlt] at hu
    have hL' : Lim 256 ((bts Sg s).set j x) := by
      intro y hy
      rcases List.mem_or_eq_of_mem_set hy with h | h
      · exact lim_bts _ _ y h
      · rw [h]; exact hx
    have := val_inj (lim_bts Sg s) hL' (by simp) (by rw [h2]; exact hu)
    apply hne
    rw [this, List.getElem?_set_self (by rw [length_bts]; exact hj)]
  · rw [decide_eq_false hlt, Bool.false_and]
theorem sign_mark {s : Nat} {xs ys : List Nat} : ((bstr (signN s xs)).toList == (bstr (signN s ys)).toList) = decide ((Sh.sha xs).take 16 = (Sh.sha ys).take 16) := by
  rw [Bool.eq_iff_iff]
  simp only [beq_iff_eq, decide_eq_true_eq]
  constructor
  · intro h
    have := bstr_inj (lim_signN s xs) (lim_signN s ys) h
    simpa [signN, frameN] using this
  · intro h
    simp only [signN, h]
end Go.Proofs.YthipdagebijbiaaGreatDoor
