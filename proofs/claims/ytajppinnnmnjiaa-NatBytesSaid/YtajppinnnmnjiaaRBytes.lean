/- clepsydraref01.Read, Write; string of some bytes. -/
import Derived.Test.YtajppinnnmnjiaaRDig
import Derived.Test.YtajppinnnmnjiaaRead
import Derived.Laws.BytesArg
namespace Go.Proofs.Ytajppinnnmnjiaa
open Go.RowKit

theorem and_one8 (x p : Nat) (hx : x < 256) : bits .and .u8 ((x : Int) / 2 ^ p) 1 = ((x / 2 ^ p % 2 : Nat) : Int) := by
  have e2 : ((x : Int) / 2 ^ p) = ((x / 2 ^ p : Nat) : Int) := by simp
  have hx' : x / 2 ^ p < 256 := Nat.lt_of_le_of_lt (Nat.div_le_self _ _) hx
  rw [e2]
  generalize x / 2 ^ p = y at *
  have h1 : (BitVec.ofInt 8 (y : Int) &&& BitVec.ofInt 8 1).toNat = y % 2 := by
    rw [BitVec.toNat_and, show (1 : Int) = ((1 : Nat) : Int) from rfl, BitVec.ofInt_natCast, BitVec.ofInt_natCast, BitVec.toNat_ofNat, BitVec.toNat_ofNat, Nat.mod_eq_of_lt (by omega : y < 2 ^ 8)]
    exact Nat.and_one_is_mod y
  show IntKind.u8.wrap ((BitVec.ofInt 8 (y : Int) &&& BitVec.ofInt 8 1).toNat : Int) = _
  rw [h1, IntKind.wrap_u8]
  omega

set_option maxHeartbeats 2000000 in
theorem rread_any {w : World} {A : Option Addr} {n c : Nat} {bs : List Nat} (h : Nb w w.heap.size A n c bs) (hn : n ≤ 1099511627) : Calls Try.prog 37 #[.slice A n c] w (RetN (val 256 bs.reverse) w) := by
  have hr := h.rooms
  have Hlen := Lib.hid h.len
  go_enter Try.func37, Try.ntmps37
  go_wp2
  go_loopw [3, 4] (fun v i wr => ∃ (t : Int) (j : Nat) (A' : Option Addr) (n' c' : Nat) (ds : List Nat), -1 ≤ t ∧ t + 1 + (j : Int) = (n : Int) ∧ i = .int .i64 t ∧ v = .slice A' n' c' ∧ Hid (n' = 8 * j) ∧ Gi wr w.heap.size A' n' c' ds ∧ Lim 2 ds ∧ Below w.heap.size w wr ∧ Hid (val 2 ds = val 256 (bs.reverse.take j))) (fun _ i _ => (intOf i + 1).toNat)
  case atStart => exact ⟨(n : Int) - 1, 0, none, 0, 0, [], by omega, by omega, rfl, rfl, rfl, Gi.nil _ _, Lim.nil _, Below.refl _ _, by simp [Hid, val]⟩
  case round =>
    obtain ⟨t, j, A', n', c', ds, ht0, htj, rfl, rfl, hn', hG, hL, hB, hV⟩ := hrel
    by_cases hpos : 0 ≤ t
    · obtain ⟨k0, rfl⟩ := Int.eq_ofNat_of_zero_le hpos
      have hlt : k0 < n := by omega
      have hjn : j < n := by omega
      obtain ⟨wo, rfl⟩ : ∃ wo : World, wo = wr := ⟨_, rfl⟩
      have hxl := h.lim.get (by omega) k0
      obtain ⟨x, hx⟩ : ∃ x, bs.getD k0 0 = x := ⟨_, rfl⟩
      have Hx := Lib.hid hx
      rw [hx] at hxl
      have hrev : bs.reverse.getD j 0 = x := by
        rw [← hx]
        simp only [List.getD]
        rw [List.getElem?_reverse (by rw [Hlen.out]; omega)]
        congr 2; rw [Hlen.out]; omega
      have Hrev := Lib.hid hrev
      have hpos' : (0 : Int) ≤ (k0 : Int) := by omega
      clear hx hrev hpos
      go_wp2
      go_loopw [3, 5] (fun v i wi => ∃ (k : Nat) (A2 : Option Addr) (n2 c2 : Nat), k ≤ 8 ∧ i = .int .i64 k ∧ v = .slice A2 n2 c2 ∧ Hid (n2 = 8 * j + k) ∧ Gi wi w.heap.size A2 n2 c2 (ds ++ lbits x k) ∧ Below w.heap.size w wi) (fun _ i _ => 8 - (intOf i).toNat)
      case atStart => exact ⟨0, A', n', c', Nat.zero_le _, rfl, rfl, hn'.out, by simpa [lbits] using hG, hB⟩
      case round =>
        obtain ⟨k, A2, n2, c2, hk, rfl, rfl, hn2, hG2, hB2⟩ := hrel
        by_cases hlk : k < 8
        · obtain ⟨b, off, rfl, hb, hcell⟩ := (h.below hB2).at_ hlt
          rw [Hx.out] at hcell
          obtain ⟨y, hy⟩ : ∃ y, x / 2 ^ k % 2 = y := ⟨_, rfl⟩
          have ho := and_one8 x k hxl
          rw [hy] at ho
          have hy2 : y < 2 := by omega
          have Hy := Lib.hid hy
          have hs := hB2.size
          have hn2b : n2 ≤ 1099511627776 := by have := hn2.out; omega
          clear hy
          go_wp2_with (refine wpList_app_i (y := y) _ rfl _ _ rfl rfl (hG2.alloc _) rfl (cell_new _ _ _) hn2b (hB2.alloc hs _) (by simp; omega) ?_; intro A3 c3 w3 hG3 hB3)
          go_roundw
          case rel => exact ⟨k + 1, A3, n2 + 1, c3, by omega, by go_num, rfl, by show _ = _; have := hn2.out; omega, by rw [lbits, Hy.out, ← List.append_assoc]; exact hG3, hB3⟩
          case measure => simp [intOf]; omega
        · obtain rfl : k = 8 := by omega
          go_wp2
          go_roundw
          case rel =>
            refine ⟨(k0 : Int) - 1, j + 1, A2, n2, c2, ds ++ lbits x 8, by omega, by omega, rfl, rfl, by show _ = _; have := hn2.out; omega, hG2, hL.append (lim_lbits x 8), hB2, ?_⟩
            show _ = _
            have hl : ds.length = 8 * j := by rw [hG.1]; exact hn'.out
            rw [val_append, val_lbits, hV.out, val_take_succ, Hrev.out, hl, show (2 : Nat) ^ 8 = 256 from rfl, Nat.mod_eq_of_lt hxl, show (2 : Nat) ^ (8 * j) = 256 ^ j by rw [show (256 : Nat) = 2 ^ 8 from rfl, ← Nat.pow_mul]]
          case measure => simp [intOf]
    · have hjn : j = n := by omega
      have hv := hV.out
      rw [hjn, List.take_of_length_le (by rw [List.length_reverse, Hlen.out]; exact Nat.le_refl _)] at hv
      have hn2b : n' ≤ 1099511627776 := by have := hn'.out; omega
      have hnum := number_any (hG.ni hL) hn2b
      rw [hv] at hnum
      have Hnum := Lib.hid hnum
      clear hv hjn hnum
      go_wp2_with fail
      refine Hnum.out.mono ?_
      rintro e w5 ⟨A5, n5, c5, x5, rfl, h5, t5, v5, b5⟩
      go_wp2_with fail
      go_ret
      exact ⟨_, _, _, _, rfl, h5, t5, v5, bthen hB b5⟩
/-- the cells of a row of bytes -/
def vb (xs : List Nat) : List Value := xs.map fun x : Nat => .int .u8 (x : Int)
theorem vb_append (xs ys : List Nat) : vb (xs ++ ys) = vb xs ++ vb ys := by simp [vb]
/-- a row of bytes of the call's own -/
def Gb (w : World) (base : Nat) (A : Option Addr) (n c : Nat) (xs : List Nat) : Prop := xs.length = n ∧ w.ownsRow base 5 1 (.slice A n c) n (vb xs)
theorem Gb.nil (w : World) (base : Nat) : Gb w base none 0 0 [] := ⟨rfl, World.ownsRow_nil w base 5 1⟩
theorem Gb.alloc {w : World} {base n c : Nat} {A : Option Addr} {xs : List Nat} (h : Gb w base A n c xs) (o : Obj) : Gb (w.alloc o) base A n c xs := ⟨h.1, h.2.alloc o⟩
theorem Gb.nb {w : World} {base n c : Nat} {A : Option Addr} {xs : List Nat} (h : Gb w base A n c xs) (hx : Lim 256 xs) : Nb w w.heap.size A n c xs := by
  obtain ⟨hl, ho⟩ := h
  rcases ho.2 with ⟨e, rfl⟩ | ⟨g, cap, cur, e, hg, hh, hnc, hcm, hsz, htk⟩
  · injection e with e1 e2 e3
    subst e1; subst e3
    exact ⟨hl, Nat.le_refl _, Nat.zero_le _, hx, fun h => absurd h (Nat.lt_irrefl _)⟩
  · injection e with e1 e2 e3
    subst e1; subst e3
    refine ⟨hl, hnc, hcm, hx, fun _ => ⟨g, 0, rfl, ho.lt g rfl |>.2, fun j x hj => ?_⟩⟩
    have := ho.cells (g := g) rfl j (.int .u8 (x : Int)) (by simp [vb, hj])
    by_cases hj0 : j = 0
    · subst hj0; simpa [Addr.add] using this
    · simpa [Addr.add, hj0] using this
theorem Gb.plain {w : World} {base n c : Nat} {A : Option Addr} {xs : List Nat} (h : Gb w base A n c xs) : A = none ∧ n = 0 ∨ ∃ b, A = some ⟨b, 0, none⟩ := by
  rcases h.2.2 with ⟨e, h0⟩ | ⟨g, cap, cur, e, _⟩
  · injection e with e1 e2 e3
    exact .inl ⟨e1, h0⟩
  · injection e with e1 e2 e3
    exact .inr ⟨g, e1⟩
/-- one more byte -/
theorem wpList_app_b (w : World) {ops : Array Oper} {rest : List Oper} {o : Oper} {a : Act} {Q : Exit → Act → World → Prop} (hgd : o.guard = none) (s x : Operand)
    (ho : o.op = .call { callee := .builtin .append, args := #[s, x], argTypes := #[39, 39] }) {base n c g y : Nat} {A : Option Addr} {xs : List Nat} {w0 : World}
    (hs : a.eval s = .slice A n c) (hown : Gb w base A n c xs) (hx : a.eval x = .slice (some ⟨g, 0, none⟩) 1 1) (hc : w.cell? ⟨g, 0, none⟩ = some (.int .u8 (y : Int)))
    (hn : n ≤ 1099511627776) (hb : Below base w0 w) (hbase : base ≤ w.heap.size)
    (h : ∀ A' c' w', Gb w' base A' (n + 1) c' (xs ++ [y]) → Below base w0 w' → wpList Try.prog ops Q rest (a.put o.dst (.slice A' (n + 1) c')) w') : wpList Try.prog ops Q (o :: rest) a w := by
  obtain ⟨i0, hi, hz0, hz1, hz2⟩ := info_parts Try.info5
  refine wpList_append_own w hgd s x 39 ho base 5 i0 (.int .u8 0) 1 1 Try.underlying39 hi hz0 hz1 hz2 rfl (by decide) _ n (vb xs) hs hown.2 ⟨g, 0, none⟩ 1 1 [.int .u8 (y : Int)] hx rfl ?_ ?_ (by unfold maxLen; omega) (by omega) hbase ?_
  · intro j u hj
    match j, hj with
    | 0, hj => simp at hj; subst hj; simpa [Addr.add] using hc
  · intro u hu; simp at hu; subst hu; rfl
  · intro v' w' hown' hgrow _
    obtain ⟨A', c', rfl⟩ := own_shape hown'
    refine h A' c' w' ⟨by simp [hown.1], by rw [vb_append]; exact hown'⟩ (hb.grown hgrow hbase fun k hk => (hown.2.lt k hk).1)

theorem lim_bts8 (v : Nat) : ∀ n, Lim 256 (bts v n)
  | 0 => Lim.nil _
  | n + 1 => fun x hx => by
    rcases List.mem_cons.1 hx with rfl | hx
    · exact Nat.mod_lt _ (by omega)
    · exact lim_bts8 v n x hx
theorem bit_step (q m : Nat) : q / 2 % 2 ^ m * 2 + q % 2 = q % 2 ^ (m + 1) := by
  rw [Nat.pow_succ', Nat.mod_mul]
  omega
/-- what Write hands back, in whatever memory -/
def RWrote (v : Nat) (n : Int) (w : World) (e : Ending) (w' : World) : Prop :=
  ((n < 0 ∨ 65536 < n) ∧ e = .returned (.tuple #[.slice none 0 0, .int .i64 1]) ∧ Below w.heap.size w w') ∨
  ((0 ≤ n ∧ n ≤ 65536 ∧ 8 * n < (bl v : Int)) ∧ e = .returned (.tuple #[.slice none 0 0, .int .i64 12]) ∧ Below w.heap.size w w') ∨
  ((0 ≤ n ∧ n ≤ 65536 ∧ (bl v : Int) ≤ 8 * n) ∧ ∃ A c, e = .returned (.tuple #[.slice A n.toNat c, .int .i64 0]) ∧ Nb w' w'.heap.size A n.toNat c (bts v n.toNat) ∧ (A = none ∧ n.toNat = 0 ∨ ∃ b, A = some ⟨b, 0, none⟩) ∧ Below w.heap.size w w')

set_option maxHeartbeats 2000000 in
theorem rwrite_any {w : World} {A : Option Addr} {n c : Nat} {xs : List Nat} (h : Nt w w.heap.size A n c xs) (hn : n ≤ 1000000) (k : Int) (hk0 : -9223372036854775808 ≤ k) (hk1 : k ≤ 9223372036854775807) :
    Calls Try.prog 35 #[.slice A n c, .int .i64 k] w (RWrote (val 18446744073709551616 xs) k w) := by
  by_cases h0 : k < 0
  · go_enter Try.func35, Try.ntmps35
    go_wp2
    go_ret2
    exact .inl ⟨.inl h0, rfl, Below.refl _ _⟩
  by_cases h1 : 65536 < k
  · go_enter Try.func35, Try.ntmps35
    go_wp2
    go_ret2
    exact .inl ⟨.inr h1, rfl, Below.refl _ _⟩
  obtain ⟨m, rfl⟩ := Int.eq_ofNat_of_zero_le (show 0 ≤ k by omega)
  have hm : m ≤ 65536 := by omega
  have hmn : ¬ ((m : Int) < 0) := by omega
  obtain ⟨v, hv⟩ : ∃ v, val 18446744073709551616 xs = v := ⟨_, rfl⟩
  rw [hv]
  have Hv := Lib.hid hv
  clear hv h0 hk0 hk1
  go_enter Try.func35, Try.ntmps35
  go_wp2_with fail
  refine (digits_any h (by omega)).mono ?_
  rintro e w1 ⟨Ax, nx, cx, xb, rfl, hx1, tx, vx, bx⟩
  have hl := bl_len tx hx1.lim
  rw [vx, hx1.len, Hv.out] at hl
  have Hl := Lib.hid hl
  rw [Hv.out] at vx
  have Vx := Lib.hid vx
  have hr := hx1.rooms
  clear hl vx tx
  by_cases hw : 8 * m < nx
  · have hw' : (8 : Int) * (m : Int) < (nx : Int) := by omega
    go_wp2
    go_ret2
    exact .inr (.inl ⟨⟨by omega, by omega, by rw [← Hl.out]; omega⟩, rfl, bx⟩)
  · have hw' : ¬ ((8 : Int) * (m : Int) < (nx : Int)) := by omega
    have hble : Hid ((bl v : Int) ≤ 8 * (m : Int)) := by show _ ≤ _; rw [← Hl.out]; omega
    clear hw
    go_wp2
    go_loopw [7, 8] (fun v' i wr => ∃ (t : Int) (j : Nat) (A' : Option Addr) (c' : Nat) (os : List Nat), -1 ≤ t ∧ t + 1 + (j : Int) = (m : Int) ∧ i = .int .i64 t ∧ v' = .slice A' j c' ∧ Gb wr w1.heap.size A' j c' os ∧ Below w1.heap.size w1 wr ∧ Hid (os ++ bts v (t + 1).toNat = bts v m)) (fun _ i _ => (intOf i + 1).toNat)
    case atStart => exact ⟨(m : Int) - 1, 0, none, 0, [], by omega, by omega, rfl, rfl, Gb.nil _ _, Below.refl _ _, by show _ = _; rw [show ((m : Int) - 1 + 1).toNat = m by omega]; rfl⟩
    case round =>
      obtain ⟨t, j, A', c', os, ht0, htj, rfl, rfl, hG, hB, hE⟩ := hrel
      by_cases hpos : 0 ≤ t
      · obtain ⟨i0, rfl⟩ := Int.eq_ofNat_of_zero_le hpos
        have hi0 : i0 < m := by omega
        have hjm : j < m := by omega
        have hpos' : (0 : Int) ≤ (i0 : Int) := by omega
        have hE' := hE.out
        rw [show ((i0 : Int) + 1).toNat = i0 + 1 by omega] at hE'
        have HE := Lib.hid hE'
        clear hE hE' hpos
        obtain ⟨wo, rfl⟩ : ∃ wo : World, wo = wr := ⟨_, rfl⟩
        go_wp2
        go_loopw [9, 10] (fun xv kv wi => ∃ (s : Int) (p : Nat), -1 ≤ s ∧ s ≤ 7 ∧ kv = .int .i64 s ∧ xv = .int .i64 (p : Int) ∧ p < 256 ∧ wi = wo ∧ Hid (p = v / 2 ^ (8 * i0 + (s + 1).toNat) % 2 ^ (8 - (s + 1).toNat)) ∧ Hid (p < 2 ^ (8 - (s + 1).toNat))) (fun _ kv _ => (intOf kv + 1).toNat)
        case atStart => exact ⟨7, 0, by omega, by omega, rfl, rfl, by omega, rfl, by simp [Hid, Nat.mod_one], by simp [Hid]⟩
        case round =>
          obtain ⟨s, p, hs0, hs1, rfl, rfl, hp, rfl, hP, hP2⟩ := hrel
          by_cases hsp : 0 ≤ s
          · obtain ⟨q, rfl⟩ := Int.eq_ofNat_of_zero_le hsp
            have hat := rat_any (hx1.below hB) (8 * (i0 : Int) + (q : Int))
            rw [if_neg (by omega), show (8 * (i0 : Int) + (q : Int)).toNat = 8 * i0 + q by omega, limb_of (by omega) hx1.lim, Vx.out] at hat
            obtain ⟨y, hy⟩ : ∃ y, v / 2 ^ (8 * i0 + q) % 2 = y := ⟨_, rfl⟩
            rw [hy] at hat
            have hy2 : y < 2 := by omega
            have hP' := hP.out
            have hP2' := hP2.out
            rw [show ((q : Int) + 1).toNat = q + 1 by omega] at hP' hP2'
            have hnew : p * 2 + y = v / 2 ^ (8 * i0 + q) % 2 ^ (8 - q) := by
              rw [← hy, hP', ← Nat.add_assoc, Nat.pow_succ, ← Nat.div_div_eq_div_mul, bit_step]
              congr 2; omega
            have hlt : p * 2 + y < 256 := by
              rw [hnew]
              have a1 := Nat.mod_lt (v / 2 ^ (8 * i0 + q)) (Nat.two_pow_pos (8 - q))
              have a2 : 2 ^ (8 - q) ≤ 2 ^ 8 := Nat.pow_le_pow_right (by omega) (by omega)
              omega
            have Hat := Lib.hid hat
            have Hnew := Lib.hid hnew
            have hsp' : (0 : Int) ≤ (q : Int) := by omega
            clear hat hy hP' hP2' hnew hsp hP hP2
            go_wp2_with (go_at_call 55; refine Hat.out.mono ?_; rintro e w' ⟨rfl, rfl⟩)
            go_roundw
            case rel =>
              refine ⟨(q : Int) - 1, p * 2 + y, by omega, by omega, rfl, by congr 1; omega, hlt, by first | rfl | trivial, ?_, ?_⟩
              · show _ = _
                rw [show ((q : Int) - 1 + 1).toNat = q by omega]
                exact Hnew.out
              · show _ < _
                rw [show ((q : Int) - 1 + 1).toNat = q by omega, Hnew.out]
                exact Nat.mod_lt _ (Nat.two_pow_pos _)
            case measure => simp [intOf]
          · have hPe := hP.out
            rw [show (s + 1).toNat = 0 by omega] at hPe
            have HPe : Hid (p = v / 256 ^ i0 % 256) := by
              show _ = _
              rw [hPe, show (256 : Nat) = 2 ^ 8 from rfl, ← Nat.pow_mul]; rfl
            have hs := hB.size
            clear hPe
            go_wp2_with (refine wpList_app_b (y := p) _ rfl _ _ rfl rfl (hG.alloc _) rfl (cell_new _ _ _) (by omega) (hB.alloc hs _) (by simp; omega) ?_; intro A3 c3 w3 hG3 hB3)
            go_roundw
            case rel =>
              refine ⟨(i0 : Int) - 1, j + 1, A3, c3, os ++ [p], by omega, by omega, rfl, rfl, hG3, hB3, ?_⟩
              show _ = _
              rw [show ((i0 : Int) - 1 + 1).toNat = i0 by omega, HPe.out, List.append_assoc]
              exact HE.out
            case measure => simp [intOf]
      · have hos : os = bts v m := by
          have := hE.out
          rw [show (t + 1).toNat = 0 by omega] at this
          simpa [bts] using this
        have Hos := Lib.hid hos
        have hjm : j = m := by omega
        subst hjm
        clear hos
        go_wp2
        go_ret2
        refine .inr (.inr ⟨⟨by omega, by omega, hble.out⟩, A', c', rfl, ?_, hG.plain, bthen bx hB⟩)
        have := hG.nb (by rw [Hos.out]; exact lim_bts8 v j)
        rw [Hos.out] at this
        exact this
/-- the text of some bytes -/
def bstr (xs : List Nat) : ByteArray := strOfNums (xs.map fun x : Nat => (x : Int))
theorem conv_nb {w : World} {B n c : Nat} {A : Option Addr} {xs : List Nat} (h : Nb w B A n c xs) (hA : A = none ∧ n = 0 ∨ ∃ b, A = some ⟨b, 0, none⟩) : (convert 39 9 (.slice A n c)).run Try.prog w = .ok (.string (bstr xs)) w := by
  have h9 : Try.prog.underlying 9 = some .string := by kernel_rfl
  rcases hA with ⟨rfl, rfl⟩ | ⟨b, rfl⟩
  · rw [List.eq_nil_of_length_eq_zero h.len]
    exact run_convert_bytes_nil w 39 5 Try.underlying39 Try.underlying5 0 c 9 h9
  · refine run_convert_bytes_arg w 39 5 Try.underlying39 Try.underlying5 b 0 n c (xs.map fun x : Nat => (x : Int)) (by simp [h.len]) (fun i hi => ?_) 9 h9
    obtain ⟨b', off, e, _, hc⟩ := h.at_ hi
    injection e with e1
    injection e1 with e2 e3
    subst e2; subst e3
    rw [hc]
    have : i < xs.length := by rw [h.len]; exact hi
    simp [List.getD, List.getElem?_eq_getElem this]
end Go.Proofs.Ytajppinnnmnjiaa
