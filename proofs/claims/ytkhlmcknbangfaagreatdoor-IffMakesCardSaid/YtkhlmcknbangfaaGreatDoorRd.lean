/- nat.Write. nat.Read: the number of some bytes. bytes told as a string; bytes.Equal; from nat's bytes to sha's. -/
import Derived.Test.YtkhlmcknbangfaaGreatDoorBase
import Derived.Test.YtkhlmcknbangfaaGreatDoorMaths
import Derived.Test.YtkhlmcknbangfaaGreatDoorSh
import Derived.Laws.BytesArg
namespace Go.Proofs.YtkhlmcknbangfaaGreatDoor
set_option linter.unusedSimpArgs false
set_option linter.unusedVariables false
open Go.RowKit
set_option linter.unusedVariables false

/-- block g is just the bytes xs -/
def Ob (w : World) (g : Nat) (xs : List Nat) : Prop := w.heap[g]? = some (.cells (xs.map fun x : Nat => Value.int .u8 (x : Int)).toArray 5 (0, 0))
theorem Ob.lt {w : World} {g : Nat} {xs : List Nat} (h : Ob w g xs) : g < w.heap.size := by
  rcases Nat.lt_or_ge g w.heap.size with hlt | hge
  · exact hlt
  · unfold Ob at h; rw [Array.getElem?_eq_none hge] at h; cases h
theorem Ob.cell {w : World} {g : Nat} {xs : List Nat} (h : Ob w g xs) {j x : Nat} (hx : xs[j]? = some x) : w.cell? ⟨g, j, none⟩ = some (.int .u8 (x : Int)) := by
  rw [cell_of_row w g j _ 5 (0, 0) h]
  simp [hx]
theorem Ob.frozen {w : World} {g : Nat} {xs : List Nat} (h : Ob w g xs) (j : Nat) : w.frozen? ⟨g, j, none⟩ = false := by
  unfold Ob at h
  simp [World.frozen?, h]
theorem Ob.set_ {w : World} {g : Nat} {xs : List Nat} (h : Ob w g xs) (j x : Nat) : Ob (w.setCell ⟨g, j, none⟩ (.int .u8 (x : Int))) g (xs.set j x) := by
  unfold Ob at h ⊢
  simp [World.setCell, Array.getElem?_modify, h]
theorem Ob.drew {w : World} {g : Nat} {xs : List Nat} (h : Ob w g xs) : Ob w.drew g xs := h
theorem Ob.drewN {w : World} {g : Nat} {xs : List Nat} (h : Ob w g xs) (n : Nat) : Ob (w.drewN n) g xs := h
theorem Ob.below {w w' : World} {B g : Nat} {xs : List Nat} (h : Ob w g xs) (hb : Below B w w') (hg : g < B) : Ob w' g xs := (hb.block g hg).trans h

theorem Tryz.info5 : (Tryz.prog.info? 5).map (fun i => (i.zero, i.size, i.bytes)) = some (some (.int .u8 0), 1, 1) := by kernel_rfl
theorem run_make_ub (n : Nat) (hn : n ≤ 8796093022208) (w : World) : (Instr.makeSlice 32 (.int .i64 (n : Int)) (.int .i64 (n : Int))).run Tryz.prog w =
    .ok (.slice (some ⟨w.heap.size, 0, none⟩) n n) (w.alloc (.cells ((List.replicate n 0).map fun x : Nat => Value.int .u8 (x : Int)).toArray 5)) := by
  obtain ⟨i0, hi, hz0, hz1, hz2⟩ := info_parts Tryz.info5
  have hr := run_make (P := Tryz.prog) w 32 5 i0 (.int .u8 0) Tryz.underlying32 hi hz0 .i64 .i64 n n (by omega) (Int.le_refl _) (by rw [hz2]; omega) (by omega)
  simp only [Int.toNat_natCast] at hr
  rw [hr, hz1, Nat.mul_one]
  have : (madeCells (Value.int .u8 0).cells n) = ((List.replicate n 0).map fun x : Nat => Value.int .u8 (x : Int)).toArray := by
    apply Array.ext'
    rw [show (madeCells (Value.int .u8 0).cells n).toList = List.replicate n (.int .u8 0) from toList_madeCells_one _ _]
    simp
  rw [this]
theorem wpList_make_ub (w : World) {ops : Array Oper} {rest : List Oper} {o : Oper} {a : Act} {Q : Exit → Act → World → Prop}
    (hg : o.guard = none) (l c : Operand) (hop : o.op = Op.makeSlice 32 l c) (L C : Int) (n : Nat) (hl : a.eval l = .int .i64 L) (hc : a.eval c = .int .i64 C) (hL : L = (n : Int)) (hC : C = (n : Int)) (hn : n ≤ 8796093022208)
    (hK : ∀ w', Ob w' w.heap.size (List.replicate n 0) → w.grownBy w' none → wpList Tryz.prog ops Q rest (a.put o.dst (.slice (some ⟨w.heap.size, 0, none⟩) n n)) w') :
    wpList Tryz.prog ops Q (o :: rest) a w := by
  refine wpList_plain hg fun K hK' => ?_
  have hrun := run_make_ub n hn w
  subst hL
  subst hC
  unfold Oper.wp
  simp [execOp, hop, hl, hc, hrun, Result.andThen]
  exact hK' _ _ (hK _ (by
    have e : Array.replicate n (Value.int .u8 0) = ((List.replicate n 0).map fun x : Nat => Value.int .u8 (x : Int)).toArray := by simp
    show _ = _
    rw [e]
    exact heap_alloc_new w _) (World.grownBy_alloc w _ none))

/-- the last n bytes of a number, the greatest first -/
def bts (v : Nat) : Nat → List Nat
  | 0 => []
  | i + 1 => (v / 256 ^ i % 256) :: bts v i
theorem length_bts (v : Nat) : ∀ n, (bts v n).length = n
  | 0 => rfl
  | n + 1 => by simp [bts, length_bts v n]

theorem byte_of {xs : List Nat} (hL : Lim 18446744073709551616 xs) (i : Nat) : val 18446744073709551616 xs / 256 ^ i % 256 = xs.getD (i / 8) 0 / 2 ^ (i % 8 * 8) % 256 := by
  have hp : i % 8 * 8 ≤ 56 := by omega
  have e : 256 ^ i = 2 ^ (64 * (i / 8) + i % 8 * 8) := by
    rw [show (256 : Nat) = 2 ^ 8 from rfl, ← Nat.pow_mul]; congr 1; omega
  rw [e, two_pow_limb, Nat.mul_comm, ← Nat.div_div_eq_div_mul]
  generalize i / 8 = k at *
  generalize i % 8 * 8 = p at *
  by_cases hk2 : k < xs.length
  · rw [val_div_pow hL (by omega) k (by omega), List.drop_eq_getElem_cons hk2]
    simp only [val]
    have e2 : xs.getD k 0 = xs[k] := by simp [List.getD, List.getElem?_eq_getElem hk2]
    rw [e2, show (18446744073709551616 : Nat) = 2 ^ p * (256 * 2 ^ (56 - p)) by rw [show (256 : Nat) = 2 ^ 8 from rfl, ← Nat.pow_add, ← Nat.pow_add, show p + (8 + (56 - p)) = 64 by omega], Nat.mul_assoc, Nat.add_mul_div_left _ _ (Nat.two_pow_pos p), Nat.mul_assoc, Nat.add_mul_mod_self_left]
  · have h1 := val_lt hL
    have h2 : (18446744073709551616 : Nat) ^ xs.length ≤ 18446744073709551616 ^ k := Nat.pow_le_pow_right (by omega) (by omega)
    rw [Nat.div_eq_of_lt (show val 18446744073709551616 xs < 18446744073709551616 ^ k by omega)]
    simp [List.getD, List.getElem?_eq_none (show xs.length ≤ k by omega)]

/-- what Write hands back -/
def Wrote (v : Nat) (n : Int) (w : World) (e : Ending) (w' : World) : Prop :=
  ((n < 0 ∨ 65536 < n) ∧ e = .returned (.tuple #[.slice none 0 0, .int .i64 1]) ∧ Below w.heap.size w w') ∨
  ((0 ≤ n ∧ n ≤ 65536 ∧ 8 * n < (bl v : Int)) ∧ e = .returned (.tuple #[.slice none 0 0, .int .i64 12]) ∧ Below w.heap.size w w') ∨
  ((0 ≤ n ∧ n ≤ 65536 ∧ (bl v : Int) ≤ 8 * n) ∧ e = .returned (.tuple #[.slice (some ⟨w.heap.size, 0, none⟩) n.toNat n.toNat, .int .i64 0]) ∧ Ob w' w.heap.size (bts v n.toNat) ∧ Below w.heap.size w w')

theorem write_round {w wr : World} {m j t x p v : Nat} (hm : m = t + 1 + j) (how : Ob wr w.heap.size (List.replicate (m - j) 0 ++ bts v j)) (hbel : Below w.heap.size w wr) (hb : v / 256 ^ j % 256 = x / 2 ^ p % 256) :
    ∃ j' : Nat, j' ≤ m ∧ Value.int .i64 ((j : Int) + 1) = .int .i64 j' ∧ Ob (wr.setCell ⟨w.heap.size, t, none⟩ (.int .u8 ((x : Int) / 2 ^ p % 256))) w.heap.size (List.replicate (m - j') 0 ++ bts v j') ∧
      Below w.heap.size w (wr.setCell ⟨w.heap.size, t, none⟩ (.int .u8 ((x : Int) / 2 ^ p % 256))) := by
  refine ⟨j + 1, by omega, by simp, ?_, hbel.setCell (Nat.le_refl _) _⟩
  have e : ((x : Int) / 2 ^ p % 256) = ((x / 2 ^ p % 256 : Nat) : Int) := by simp
  rw [e, ← hb]
  have h1 := how.set_ t (v / 256 ^ j % 256)
  rw [hm, show t + 1 + j - j = t + 1 by omega, List.replicate_succ', List.append_assoc] at h1
  rw [hm, show t + 1 + j - (j + 1) = t by omega]
  have h2 : (List.replicate t 0 ++ ([0] ++ bts v j)).set t (v / 256 ^ j % 256) = List.replicate t 0 ++ bts v (j + 1) := by
    simp [bts]
  rw [h2] at h1
  exact h1

set_option maxHeartbeats 1000000 in
theorem write_any {w : World} {A : Option Addr} {n c : Nat} {xs : List Nat} (h : Nt w w.heap.size A n c xs) (hn : n ≤ 1099511627776) (k : Int) (hk0 : -9223372036854775808 ≤ k) (hk1 : k ≤ 9223372036854775807) :
    Calls Tryz.prog 135 #[.slice A n c, .int .i64 k] w (Wrote (val 18446744073709551616 xs) k w) := by
  by_cases h0 : k < 0
  · go_enter Tryz.func135, Tryz.ntmps135
    go_wp2
    go_ret2
    exact .inl ⟨.inl h0, rfl, Below.refl _ _⟩
  · by_cases h1 : 65536 < k
    · have h0' : 0 ≤ k := by omega
      go_enter Tryz.func135, Tryz.ntmps135
      go_wp2
      go_ret2
      exact .inl ⟨.inr h1, rfl, Below.refl _ _⟩
    · have h0' : 0 ≤ k := by omega
      have h1' : k ≤ 65536 := by omega
      have hbits := bits_any h hn
      by_cases h2 : 8 * k < (bl (val 18446744073709551616 xs) : Int)
      · generalize hv : bl (val 18446744073709551616 xs) = b at *
        have Hv := Lib.hid hv
        have Hb := Lib.hid hbits
        clear hv hbits h1 h0
        go_enter Tryz.func135, Tryz.ntmps135
        go_wp2_with (go_at_call 64; refine Hb.out.mono ?_; rintro e w' ⟨rfl, rfl⟩)
        go_ret2
        exact .inr (.inl ⟨⟨h0', h1', by rw [Hv.out]; exact h2⟩, rfl, Below.refl _ _⟩)
      · have h2' : (bl (val 18446744073709551616 xs) : Int) ≤ 8 * k := by omega
        generalize hv : bl (val 18446744073709551616 xs) = b at *
        have Hv := Lib.hid hv
        have Hb := Lib.hid hbits
        obtain ⟨m, rfl⟩ := Int.eq_ofNat_of_zero_le h0'
        have h0'' : (0 : Int) ≤ (m : Int) := by omega
        clear hv hbits h1 h0 h2
        have hm : m ≤ 65536 := by omega
        go_enter Tryz.func135, Tryz.ntmps135
        go_wp2_with (first
          | (go_at_call 64; refine Hb.out.mono ?_; rintro e w' ⟨rfl, rfl⟩)
          | (refine wpList_make_ub _ rfl _ _ rfl _ _ m rfl rfl rfl rfl (by omega) ?_; intro w1 hw1 hg1))
        go_loopw [0x16] (fun i wr => ∃ (j : Nat), j ≤ m ∧ i = .int .i64 j ∧ Ob wr w.heap.size (List.replicate (m - j) 0 ++ bts (val 18446744073709551616 xs) j) ∧ Below w.heap.size w wr) (fun i _ => m - (intOf i).toNat)
        case atStart => exact ⟨0, Nat.zero_le _, rfl, by simpa [bts] using hw1, below_none hg1 (Nat.le_refl _)⟩
        case round =>
          obtain ⟨j, hj, rfl, how, hbel⟩ := hrel
          by_cases hlt : j < m
          · obtain ⟨t, ht⟩ : ∃ t, m = t + 1 + j := ⟨m - 1 - j, by omega⟩
            have ei : (m : Int) - 1 - (j : Int) = (t : Int) := by omega
            have Ht := Lib.hid ht
            have htm : t < m := by omega
            have hc1 : wr.cell? ⟨w.heap.size, t, none⟩ = some (.int .u8 ((0 : Nat) : Int)) := how.cell (by
              rw [ht, show t + 1 + j - j = t + 1 by omega, List.replicate_succ', List.append_assoc]; simp)
            have hf1 := how.frozen t
            have hbr := h.below hbel
            have hlim := limb_any hbr ((j : Int) / 8) (by omega)
            rw [show ((j : Int) / 8).toNat = j / 8 by omega] at hlim
            have hby := byte_of h.lim j
            generalize hxe : xs.getD (j / 8) 0 = x at *
            have hp : ((j : Int) % 8) * 8 = ((j % 8 * 8 : Nat) : Int) := by omega
            generalize hpe : j % 8 * 8 = p at *
            have Hlim := Lib.hid hlim
            have Hby := Lib.hid hby
            have hp8 : p ≤ 56 := by omega
            clear ht hxe hlim hby hpe
            go_wp2_with (go_at_call 131; refine Hlim.out.mono ?_; rintro e w' ⟨rfl, rfl⟩)
            go_roundw
            case rel => exact write_round Ht.out how hbel Hby.out
            case measure => simp [intOf]; omega
          · have hjm : m - j = 0 := by omega
            have how' : Ob wr w.heap.size (bts (val 18446744073709551616 xs) m) := by
              have := how
              rw [hjm, show j = m by omega] at this
              simpa using this
            clear hjm how
            go_wp2
            go_ret2
            exact .inr (.inr ⟨⟨h0'', by omega, by rw [Hv.out]; exact h2'⟩, rfl, how', hbel⟩)
theorem write_ok {w : World} {A : Option Addr} {n c : Nat} {xs : List Nat} (h : Nt w w.heap.size A n c xs) (hn : n ≤ 1099511627776) (k : Nat) (x : Int) (hx : x = (k : Int)) (hk : k ≤ 65536) (hb : bl (val 18446744073709551616 xs) ≤ 8 * k) :
    Calls Tryz.prog 135 #[.slice A n c, .int .i64 x] w fun e w' => e = .returned (.tuple #[.slice (some ⟨w.heap.size, 0, none⟩) k k, .int .i64 0]) ∧ Ob w' w.heap.size (bts (val 18446744073709551616 xs) k) ∧ Below w.heap.size w w' := by
  subst hx
  exact (write_any h hn (k : Int) (by omega) (by omega)).mono fun e w' hd => by
    rcases hd with ⟨h0, _⟩ | ⟨h0, _⟩ | ⟨_, he, ho, hbl⟩
    · omega
    · omega
    · rw [Int.toNat_natCast] at he ho
      exact ⟨he, ho, hbl⟩

end Go.Proofs.YtkhlmcknbangfaaGreatDoor
namespace Go.Proofs.YtkhlmcknbangfaaGreatDoor
open Go.RowKit
set_option linter.unusedVariables false

/-- the slice value '.slice A n c' reads as the bytes xs; it lies below block B -/
structure Nb (w : World) (B : Nat) (A : Option Addr) (n c : Nat) (xs : List Nat) : Prop where
  len : xs.length = n
  cap : n ≤ c
  room : c ≤ maxLen
  lim : Lim 256 xs
  cell : 0 < n → ∃ b off, A = some ⟨b, off, none⟩ ∧ b < B ∧ ∀ j x : Nat, xs[j]? = some x → w.cell? ⟨b, off + j, none⟩ = some (.int .u8 (x : Int))
theorem Nb.at_ {w : World} {B : Nat} {A : Option Addr} {n c : Nat} {xs : List Nat} (h : Nb w B A n c xs) {k : Nat} (hk : k < n) :
    ∃ b off, A = some ⟨b, off, none⟩ ∧ b < B ∧ w.cell? ⟨b, off + k, none⟩ = some (.int .u8 ((xs.getD k 0 : Nat) : Int)) := by
  obtain ⟨b, off, e, hb, hc⟩ := h.cell (by omega)
  have hl : k < xs.length := by rw [h.len]; exact hk
  refine ⟨b, off, e, hb, ?_⟩
  have := hc k xs[k] (List.getElem?_eq_getElem hl)
  rw [this]
  simp [List.getD, List.getElem?_eq_getElem hl]
theorem Nb.keep {w w' : World} {B : Nat} {A : Option Addr} {n c : Nat} {xs : List Nat} (h : Nb w B A n c xs) (hk : ∀ p : Addr, p.block < B → w'.cell? p = w.cell? p) : Nb w' B A n c xs :=
  ⟨h.len, h.cap, h.room, h.lim, fun hn => by
    obtain ⟨b, off, e, hb, hc⟩ := h.cell hn
    exact ⟨b, off, e, hb, fun j x hx => (hk _ hb).trans (hc j x hx)⟩⟩
theorem Nb.more {w : World} {B B' : Nat} {A : Option Addr} {n c : Nat} {xs : List Nat} (h : Nb w B A n c xs) (hB : B ≤ B') : Nb w B' A n c xs :=
  ⟨h.len, h.cap, h.room, h.lim, fun hn => by
    obtain ⟨b, off, e, hb, hc⟩ := h.cell hn
    exact ⟨b, off, e, by omega, hc⟩⟩
theorem Nb.below {w w' : World} {B : Nat} {A : Option Addr} {n c : Nat} {xs : List Nat} (h : Nb w B A n c xs) (hb : Below B w w') : Nb w' B A n c xs := h.keep fun _ hp => hb.cell hp
theorem Nb.up {w w' : World} {A : Option Addr} {n c : Nat} {xs : List Nat} (h : Nb w w.heap.size A n c xs) (hb : Below w.heap.size w w') : Nb w' w'.heap.size A n c xs := (h.below hb).more hb.size
theorem Nb.dr {w : World} {A : Option Addr} {n c : Nat} {xs : List Nat} (h : Nb w w.heap.size A n c xs) (d : Nat) : Nb (w.drewN d) (w.drewN d).heap.size A n c xs := ⟨h.len, h.cap, h.room, h.lim, h.cell⟩
theorem Nb.rooms {w : World} {B : Nat} {A : Option Addr} {n c : Nat} {xs : List Nat} (h : Nb w B A n c xs) : n ≤ 9223372036854775807 ∧ c ≤ 9223372036854775807 := by
  have := h.cap
  have hr := h.room
  unfold maxLen at hr
  omega
theorem nb_nil (w : World) (B : Nat) : Nb w B none 0 0 [] := ⟨rfl, Nat.le_refl _, Nat.zero_le _, Lim.nil _, fun h => absurd h (Nat.lt_irrefl _)⟩
theorem Ob.nb {w : World} {g n : Nat} {xs : List Nat} (h : Ob w g xs) (hn : xs.length = n) (hl : n ≤ maxLen) (hx : Lim 256 xs) : Nb w w.heap.size (some ⟨g, 0, none⟩) n n xs :=
  ⟨hn, Nat.le_refl _, hl, hx, fun _ => ⟨g, 0, rfl, h.lt, fun j x hj => by rw [Nat.zero_add]; exact h.cell hj⟩⟩

theorem read_round {w wr : World} {j n d t p : Nat} {cur bs : List Nat} (hL : Lim 18446744073709551616 cur) (hi : j / 8 < cur.length) (hn : n = t + 1 + j) (hbl : bs.length = n) (hb : Lim 256 bs) (hd : bs.getD t 0 = d) (hp : j % 8 * 8 = p)
    (how : Ow wr w.heap.size cur) (hbel : Below w.heap.size w wr) (hcl : cur.length = (n + 7) / 8) (hV : val 18446744073709551616 cur = val 256 (bs.reverse.take j)) :
    ∃ (j' : Nat) (cur' : List Nat), j' ≤ n ∧ Value.int .i64 ((j : Int) + 1) = .int .i64 j' ∧ Ow (wr.setCell ⟨w.heap.size, j / 8, none⟩ (.int .u64 (bits .or .u64 ((cur.getD (j / 8) 0 : Nat) : Int) (IntKind.u64.wrap ((d : Int) * 2 ^ p))))).drew w.heap.size cur' ∧
      Below w.heap.size w (wr.setCell ⟨w.heap.size, j / 8, none⟩ (.int .u64 (bits .or .u64 ((cur.getD (j / 8) 0 : Nat) : Int) (IntKind.u64.wrap ((d : Int) * 2 ^ p))))).drew ∧ Lim 18446744073709551616 cur' ∧ Hid (cur'.length = (n + 7) / 8) ∧ Hid (val 18446744073709551616 cur' = val 256 (bs.reverse.take j')) := by
  have hd' : d < 256 := by rw [← hd]; exact hb.get (by omega) t
  have hlt : val 256 (bs.reverse.take j) < 256 ^ j := by
    have := val_lt (β := 256) (xs := bs.reverse.take j) (fun x hx => hb x (by simpa using List.mem_of_mem_take hx))
    rw [List.length_take, List.length_reverse, Nat.min_eq_left (by omega)] at this
    exact this
  obtain ⟨e1, e2, e3⟩ := byte_in hL hi hV hlt hd'
  have hw : IntKind.u64.wrap ((d : Int) * 2 ^ p) = ((d * 2 ^ p % 18446744073709551616 : Nat) : Int) := by
    rw [IntKind.wrap_u64]
    have : ((d : Int) * 2 ^ p) = ((d * 2 ^ p : Nat) : Int) := by simp
    rw [this]
    omega
  rw [hp] at e1 e2 e3
  have hv : bits .or .u64 ((cur.getD (j / 8) 0 : Nat) : Int) (IntKind.u64.wrap ((d : Int) * 2 ^ p)) = ((cur.getD (j / 8) 0 + d * 2 ^ p : Nat) : Int) := by
    rw [hw, bits_or_u64_nat _ _ (hL.get (by omega) _) (Nat.mod_lt _ (by omega)), e1]
  rw [hv]
  refine ⟨j + 1, cur.set (j / 8) (cur.getD (j / 8) 0 + d * 2 ^ p), by omega, by simp, (how.set_ _ _).drew, (hbel.setCell (Nat.le_refl _) _).drew, ?_, by simpa [Hid] using hcl, ?_⟩
  · intro x hx
    rcases List.mem_or_eq_of_mem_set hx with hx | hx
    · exact hL x hx
    · omega
  · show _ = _
    rw [e3, val_take_succ]
    congr 2
    have ht : t < bs.length := by omega
    have : bs.reverse.getD j 0 = bs.getD t 0 := by
      simp only [List.getD]
      rw [List.getElem?_reverse (by omega)]
      congr 2; omega
    rw [this, hd]

set_option maxHeartbeats 2000000 in
theorem read_any {w : World} {A : Option Addr} {n c : Nat} {bs : List Nat} (h : Nb w w.heap.size A n c bs) (hn : n ≤ 1099511627776) : Calls Tryz.prog 134 #[.slice A n c] w (Ret (val 256 bs.reverse) w) := by
  have hr := h.rooms
  have Hlen := Lib.hid h.len
  go_enter Tryz.func134, Tryz.ntmps134
  go_wp2_with (refine wpList_make_us _ rfl _ _ rfl _ _ ((n + 7) / 8) rfl rfl (by omega) (by omega) (by omega) ?_; intro w1 hw1 hg1)
  go_loopw [14] (fun i wr => ∃ (j : Nat) (cur : List Nat), j ≤ n ∧ i = .int .i64 j ∧ Ow wr w.heap.size cur ∧ Below w.heap.size w wr ∧ Lim 18446744073709551616 cur ∧ Hid (cur.length = (n + 7) / 8) ∧ Hid (val 18446744073709551616 cur = val 256 (bs.reverse.take j))) (fun i _ => n - (intOf i).toNat)
  case atStart => exact ⟨0, _, Nat.zero_le _, rfl, hw1, below_none hg1 (Nat.le_refl _), lim_replicate (by omega) _, by simp [Hid], by simp [Hid, val, val_replicate]⟩
  case round =>
    obtain ⟨j, cur, hj, rfl, how, hbel, hL, hcl, hV⟩ := hrel
    by_cases hlt : j < n
    · obtain ⟨t, ht⟩ : ∃ t, n = t + 1 + j := ⟨n - 1 - j, by omega⟩
      obtain ⟨b, off, rfl, hb, hx⟩ := (h.below hbel).at_ (show t < n by omega)
      have ei : (n : Int) - 1 - (j : Int) = (t : Int) := by omega
      have htn : t < n := by omega
      have hjl : j / 8 < (n + 7) / 8 := by omega
      have hjl2 : j / 8 < cur.length := by rw [hcl.out]; exact hjl
      have hc1 : wr.cell? ⟨w.heap.size, j / 8, none⟩ = some (.int .u64 ((cur.getD (j / 8) 0 : Nat) : Int)) := how.cell (by simp [List.getD, hjl2])
      have hf1 := how.frozen (j / 8)
      have hd256 := h.lim.get (by omega) t
      have hrnd := fun p hp => @read_round w wr j n _ t p cur bs hL hjl2 ht h.len h.lim rfl hp how hbel hcl.out hV.out
      generalize bs.getD t 0 = d at *
      generalize cur.getD (j / 8) 0 = x at *
      have hp : ((j : Int) % 8) * 8 = ((j % 8 * 8 : Nat) : Int) := by omega
      have hrnd' := hrnd _ rfl
      have hp8 : j % 8 * 8 ≤ 56 := by omega
      generalize j % 8 * 8 = p at *
      have Hrnd := Lib.hid hrnd'
      have Ht := Lib.hid ht
      clear hrnd hrnd' ht hjl2
      go_wp2
      go_region
      all_goals go_wp2
      all_goals go_roundw
      case rel => exact Hrnd.out
      case measure => simp [intOf]; omega
    · have hjn : j = n := by omega
      have hv := hV.out
      rw [List.take_of_length_le (by rw [List.length_reverse, Hlen.out]; omega)] at hv
      have Hcut := Lib.hid (cut_res how (Nat.le_refl _) hbel (by rw [hcl.out]; unfold maxLen; omega) hL hcl.out.symm hv)
      clear hv hjn
      go_wp2_with (go_at_call 82; refine Hcut.out.mono ?_; rintro e w' ⟨A', n', c', xs', rfl, hres⟩)
      go_ret
      exact ⟨_, _, _, _, rfl, hres⟩
end Go.Proofs.YtkhlmcknbangfaaGreatDoor
namespace Go.Proofs.YtkhlmcknbangfaaGreatDoor
open Go.RowKit
set_option linter.unusedVariables false
set_option maxRecDepth 100000

theorem Nb.sh {w : World} {B n c : Nat} {A : Option Addr} {xs : List Nat} (h : Nb w B A n c xs) : Sh.Nb w B A n c xs :=
  ⟨h.len, h.cap, h.rooms.2, h.lim, h.cell⟩
/-- the text of some bytes -/
def bstr (xs : List Nat) : ByteArray := strOfNums (xs.map fun x : Nat => (x : Int))
theorem conv_any {w : World} {B n c : Nat} {A : Option Addr} {xs : List Nat} (h : Sh.Nb w B A n c xs) : (convert 32 9 (.slice A n c)).run Tryz.prog w = .ok (.string (bstr xs)) w := by
  have h9 : Tryz.prog.underlying 9 = some .string := by kernel_rfl
  by_cases h0 : n = 0
  · subst h0
    rw [List.eq_nil_of_length_eq_zero h.len]
    cases A <;> rfl
  · obtain ⟨b, off, rfl, _⟩ := h.cell (by omega)
    refine run_convert_bytes_arg w 32 5 Tryz.underlying32 Tryz.underlying5 b off n c (xs.map fun x : Nat => (x : Int)) (by simp [h.len]) (fun i hi => ?_) 9 h9
    obtain ⟨b', off', e, _, hc⟩ := h.at_ hi
    cases e
    rw [hc]
    have : i < xs.length := by rw [h.len]; exact hi
    simp [List.getD, List.getElem?_eq_getElem this]
theorem eq_self (S : ByteArray) : (S.toList == S.toList) = true := by simp
set_option maxHeartbeats 1000000 in
/-- bytes.Equal -/
theorem equal_any {w : World} {B B2 : Nat} {A A2 : Option Addr} {n c n2 c2 : Nat} {xs ys : List Nat} (h : Sh.Nb w B A n c xs) (h2 : Sh.Nb w B2 A2 n2 c2 ys) :
    Calls Tryz.prog 116 #[.slice A n c, .slice A2 n2 c2] w fun e w' => e = .returned (.bool ((bstr xs).toList == (bstr ys).toList)) ∧ w = w' := by
  have k := conv_any h
  have k2 := conv_any h2
  generalize bstr xs = S at *
  generalize bstr ys = S2 at *
  go_enter Tryz.func116, Tryz.ntmps116
  go_wp2_with fail
  go_ret
  exact ⟨rfl, rfl⟩
end Go.Proofs.YtkhlmcknbangfaaGreatDoor
