/- Bytes told as a string; the beginning of a block. The document's own digest: its constants, its first words, the padded text. The document's own schedule. A row of eight words that a call builds and then turns in place. The document's own digest. Any bytes told as a string; the statements' own length test; the reference's Keyed. sha.Expand. The reference's Slice, Keyed, Trunc. -/
import Derived.Test.YtkeejhkjbmegkaaGreatDoorSh
import Derived.Laws.BytesArg
import Derived.BigRegion
namespace Go.Proofs.YtkeejhkjbmegkaaGreatDoor.Sh
open Go.RowKit
set_option linter.unusedVariables false
set_option maxRecDepth 100000

/-- the text of some bytes -/
def bstr (xs : List Nat) : ByteArray := strOfNums (xs.map fun x : Nat => (x : Int))
theorem conv_bb {w : World} {g : Nat} {xs : List Nat} (h : Bb w g 5 xs) (n c : Nat) (hn : n ≤ xs.length) : (convert 25 9 (.slice (some ⟨g, 0, none⟩) n c)).run Tryz.prog w = .ok (.string (bstr (xs.take n))) w := by
  have h9 : Tryz.prog.underlying 9 = some .string := by kernel_rfl
  refine run_convert_bytes_arg w 25 5 Tryz.underlying25 Tryz.underlying5 g 0 n c ((xs.take n).map fun x : Nat => (x : Int)) (by simp; omega) (fun i hi => ?_) 9 h9
  have hc := h.cellD (j := i) (by omega)
  have hl : i < xs.length := by omega
  rw [Nat.zero_add, hc]
  simp [List.getD, hi, List.getElem?_eq_getElem hl]
theorem conv_nb {w : World} {B n c b off : Nat} {xs : List Nat} (h : Nb w B (some ⟨b, off, none⟩) n c xs) : (convert 25 9 (.slice (some ⟨b, off, none⟩) n c)).run Tryz.prog w = .ok (.string (bstr xs)) w := by
  have h9 : Tryz.prog.underlying 9 = some .string := by kernel_rfl
  refine run_convert_bytes_arg w 25 5 Tryz.underlying25 Tryz.underlying5 b off n c (xs.map fun x : Nat => (x : Int)) (by simp [h.len]) (fun i hi => ?_) 9 h9
  obtain ⟨b', off', e, _, hc⟩ := h.at_ hi
  cases e
  rw [hc]
  have : i < xs.length := by rw [h.len]; exact hi
  simp [List.getD, List.getElem?_eq_getElem this]
end Go.Proofs.YtkeejhkjbmegkaaGreatDoor.Sh
namespace Go.Proofs.YtkeejhkjbmegkaaGreatDoor.Sh
open Go.RowKit
set_option linter.unusedVariables false
set_option maxRecDepth 100000

theorem Wb.nw {w : World} {g : Nat} {xs : List Nat} (h : Wb w g 132 xs) (n : Nat) (hn : xs.length = n) (hm : n ≤ 1000) (hL : Lim 4294967296 xs) : Nw w w.heap.size (some ⟨g, 0, none⟩) n n xs :=
  ⟨hn, Nat.le_refl _, by omega, hL, fun h0 => ⟨g, 0, rfl, h.lt, fun j x hj => by
    have hl : j < xs.length := by
      rcases Nat.lt_or_ge j xs.length with h' | h'
      · exact h'
      · rw [List.getElem?_eq_none h'] at hj; cases hj
    have := h.cell (j := j) hl
    rw [Nat.zero_add, this]
    simp [List.getD, hj]⟩⟩
theorem constants_any (w : World) : Calls Tryz.prog 165 #[] w fun e w' => e = .returned (.slice (some ⟨w.heap.size, 0, none⟩) 64 64) ∧ Wb w' w.heap.size 132 kk ∧ Below w.heap.size w w' := by
  have h1 : Wb (w.alloc (Ob 132 kk)) w.heap.size 132 kk := alloc_ob w _ _
  have b1 : Below w.heap.size w (w.alloc (Ob 132 kk)) := (Below.refl _ _).alloc (Nat.le_refl _) _
  go_enter Tryz.func165, Tryz.ntmps165
  go_wp2
  change bodyPost _ _ _ _ _ (w.alloc (Ob 132 kk))
  go_ret
  exact ⟨rfl, h1, b1⟩
theorem rfirst_any (w : World) : Calls Tryz.prog 166 #[] w fun e w' => e = .returned (.slice (some ⟨w.heap.size, 0, none⟩) 8 8) ∧ Wb w' w.heap.size 132 (words first) ∧ Below w.heap.size w w' := by
  have h1 : Wb (w.alloc (Ob 132 (words first))) w.heap.size 132 (words first) := alloc_ob w _ _
  have b1 : Below w.heap.size w (w.alloc (Ob 132 (words first))) := (Below.refl _ _).alloc (Nat.le_refl _) _
  go_enter Tryz.func166, Tryz.ntmps166
  go_wp2
  change bodyPost _ _ _ _ _ (w.alloc (Ob 132 (words first)))
  go_ret
  exact ⟨rfl, h1, b1⟩
/-- the padded text, as far as it is laid -/
theorem sub_z (n z : Nat) (hz : (119 - n % 64) % 64 = z) (k : Nat) (hk : k ≤ z) : ((n + 1 + k : Nat) : Int) % 64 = 56 ↔ k = z := by omega
theorem by8_at (N k : Nat) (hk : k < 8) : (by8 N).take (k + 1) = (by8 N).take k ++ [(by8 N).getD k 0] := by
  have hl : k < (by8 N).length := hk
  rw [List.take_succ_eq_append_getElem hl]
  simp [List.getD, List.getElem?_eq_getElem hl]
theorem by8_int (N k : Nat) (hk : k < 8) (hN : N < 9223372036854775808) : ((N : Int) / 2 ^ (8 * (7 - k))) % 256 = (((by8 N).getD k 0 : Nat) : Int) := by
  have := by8_get N (7 - k) (by omega)
  rw [this]
  congr 2
  omega
set_option maxHeartbeats 1000000 in
theorem padded_any {w : World} {A : Option Addr} {n c : Nat} {xs : List Nat} (hx : Nb w w.heap.size A n c xs) (hn : n ≤ 1000000) :
    Calls Tryz.prog 167 #[.slice A n c] w fun e w' => ∃ A' c', e = .returned (.slice A' (n + (pad n).length) c') ∧ Nb w' w'.heap.size A' (n + (pad n).length) c' (xs ++ pad n) ∧ (∃ g off, A' = some ⟨g, off, none⟩ ∧ w.heap.size ≤ g) ∧ Below w.heap.size w w' := by
  have hr := hx.room
  have hLx := hx.lim
  have g0 := Gb.nil w w.heap.size
  obtain ⟨z, hz⟩ : ∃ z, (119 - n % 64) % 64 = z := ⟨_, rfl⟩
  have hz64 : z < 64 := by omega
  have HP : Hid (pad n = 128 :: (List.replicate z 0 ++ by8 (8 * n))) := Lib.hid (by unfold pad; rw [hz])
  have HZ := Lib.hid (sub_z n z hz)
  clear hz
  go_enter Tryz.func167, Tryz.ntmps167
  go_wp2_with (first
    | (refine wpList_app_row_b _ rfl (.tmp 6) (.tmp 7) rfl rfl g0 rfl hx (by omega) (Below.refl _ _) (Nat.le_refl _) ?_; intro A3 c3 w3 hG3 hB3; have hs3 := hB3.size; rw [Nat.zero_add, List.nil_append] at hG3; rw [Nat.zero_add]; have hG3' := hG3.alloc (.cells #[.int .u8 128] 5); have hB3' := hB3.alloc hs3 (.cells #[.int .u8 128] 5); have hc3 := cell_new w3 (.int .u8 ((128 : Nat) : Int)) 5)
    | (refine wpList_app_b _ rfl (.tmp 9) (.tmp 10) rfl rfl hG3' rfl hc3 (by omega) hB3' (by simp; omega) ?_; intro A4 c4 w4 hG4 hB4))
  clear hG3 hG3' hB3 hB3' hc3
  go_loopw [3] (fun v wr => ∃ k : Nat, k ≤ z ∧ ∃ A c, v = .slice A (n + 1 + k) c ∧ Gb wr w.heap.size A (n + 1 + k) c (xs ++ [128] ++ List.replicate k 0) ∧ Below w.heap.size w wr) (fun v _ => match v with | .slice _ l _ => n + 1 + z - l | _ => 0)
  case atStart => exact ⟨0, by omega, _, _, rfl, by simpa using hG4, hB4⟩
  case round =>
    clear hG4 hB4 hs3
    obtain ⟨k, hk, A5, c5, rfl, hG, hB⟩ := hrel
    have hZk := HZ.out k hk
    have hs := hB.size
    by_cases hlt : k = z
    · subst hlt
      have e56 : ((n + 1 + k : Nat) : Int) % 64 = 56 := hZk.2 rfl
      have e56' : ((n : Int) + 1 + (k : Int)) % 64 = 56 := by omega
      clear hZk HZ
      go_wp2
      go_loopw [5, 3] (fun i v wr => ∃ j : Nat, j ≤ 8 ∧ i = .int .i64 (7 - (j : Int)) ∧ ∃ A c, v = .slice A (n + 1 + k + j) c ∧ Gb wr w.heap.size A (n + 1 + k + j) c (xs ++ [128] ++ List.replicate k 0 ++ (by8 (8 * n)).take j) ∧ Below w.heap.size w wr) (fun i _ _ => ((intOf i) + 1).toNat)
      case atStart => exact ⟨0, by omega, rfl, _, _, rfl, by simpa using hG, hB⟩
      case round =>
        clear hG hB hs
        obtain ⟨j, hj, rfl, A6, c6, rfl, hG, hB⟩ := hrel
        have hs := hB.size
        by_cases hl8 : j < 8
        · have Hb := Lib.hid (by8_int (8 * n) j hl8 (by omega))
          have Ht := Lib.hid (by8_at (8 * n) j hl8)
          obtain ⟨i, hi⟩ : ∃ i : Nat, 7 - j = i := ⟨_, rfl⟩
          have hi2 : 7 - (j : Int) = (i : Int) := by omega
          rw [hi] at Hb
          have h8 : (8 * (i : Int)).toNat = 8 * i := by omega
          have hv : 8 * (n : Int) / 2 ^ (8 * i) % 256 = (((by8 (8 * n)).getD j 0 : Nat) : Int) := by
            have := Hb.out
            rw [show ((8 * n : Nat) : Int) = 8 * (n : Int) by omega] at this
            exact this
          rw [hi2]
          generalize (by8 (8 * n)).getD j 0 = y at *
          have hG' := hG.alloc (.cells #[.int .u8 (y : Int)] 5)
          have hB' := hB.alloc hs (.cells #[.int .u8 (y : Int)] 5)
          have hc := cell_new wr (.int .u8 (y : Int)) 5
          have hi7 : i ≤ 7 := by omega
          have hr1 : Hid ((i : Int) - 1 = 7 - ((j + 1 : Nat) : Int)) := Lib.hid (by omega)
          have hm1 : Hid ((i : Int) = 7 - (j : Int)) := Lib.hid (by omega)
          clear hi hi2 e56 e56'
          go_wp2_with (refine wpList_app_b _ rfl (.tmp 26) (.tmp 33) rfl rfl hG' rfl hc (by omega) hB' (by simp; omega) ?_; intro A7 c7 w7 hG7 hB7)
          go_roundw
          case rel => exact ⟨j + 1, by omega, by rw [hr1.out], A7, c7, rfl, by rw [Ht.out, ← List.append_assoc]; exact hG7, hB7⟩
          case measure => show ((i : Int) - 1 + 1).toNat < ((i : Int) + 1).toNat; omega
        · have e8 : j = 8 := by omega
          subst e8
          have hL : Lim 256 (xs ++ pad n) := hLx.append (pad_lim n)
          have e : xs ++ [128] ++ List.replicate k 0 ++ (by8 (8 * n)).take 8 = xs ++ pad n := by rw [HP.out]; simp [by8]
          have el : n + 1 + k + 8 = n + (pad n).length := by rw [HP.out]; simp [by8]; omega
          rw [e] at hG
          have HG := Lib.hid (hG.nb hL)
          have HN := Lib.hid (hG.new (by omega))
          have HEL := Lib.hid el
          clear hG e el hl8 e56 e56' hL
          go_wp2
          go_ret
          exact ⟨A6, c6, by rw [← HEL.out]; rfl, by rw [← HEL.out]; exact HG.out, HN.out, hB⟩
    · have hne : ¬ ((n + 1 + k : Nat) : Int) % 64 = 56 := fun e => hlt (hZk.1 e)
      have hne' : (((n : Int) + 1 + (k : Int)) % 64 == 56) = false := by rw [beq_eq_false_iff_ne]; omega
      have hG' := hG.alloc (.cells #[.int .u8 0] 5)
      have hB' := hB.alloc hs (.cells #[.int .u8 0] 5)
      have hc := cell_new wr (.int .u8 ((0 : Nat) : Int)) 5
      have hRep : xs ++ [128] ++ List.replicate k 0 ++ [0] = xs ++ [128] ++ List.replicate (k + 1) 0 := by rw [List.replicate_succ', ← List.append_assoc]
      have HR := Lib.hid hRep
      clear hZk hRep
      go_wp2_with (refine wpList_app_b _ rfl (.tmp 16) (.tmp 17) rfl rfl hG' rfl hc (by omega) hB' (by simp; omega) ?_; intro A6 c6 w6 hG6 hB6)
      go_roundw
      case rel => exact ⟨k + 1, by omega, A6, c6, rfl, by rw [← HR.out]; exact hG6, hB6⟩
      case measure => show n + 1 + z - (n + 1 + k + 1) < n + 1 + z - (n + 1 + k); omega
end Go.Proofs.YtkeejhkjbmegkaaGreatDoor.Sh
namespace Go.Proofs.YtkeejhkjbmegkaaGreatDoor.Sh
open Go.RowKit
set_option linter.unusedVariables false
set_option maxRecDepth 100000
attribute [local go_sem] bits_wx bits_wa bits_wo bits_wn add_ad wrap_ad div_8 div_1024

section
variable {P : Program} {ops : Array Oper} {Q : Exit → Act → World → Prop} {md : Region.Mode}
theorem take_op {i d : Nat} {o : Oper} {v : Value} {fuel : Nat} {listed : Array Bool} {a a' : Act} {w : World} (hi : ops[i]? = some o)
    (hs : Region.noSelect ops = true) (hf : Region.free md ops listed i = true) (hr : (Region.ready md ops listed).contains i = true)
    (hQ : ∀ c a w, Q (.panic c) (a.put (some d) v) w → Q (.panic c) a w) (hdst : o.dst = some d)
    (hw : Region.wanted o (yielded ops a.tmps) = true) (hy : ∀ w, (execOp a.eval o).run P w = .ok (.value v) w) (hd : a.put (some d) v = a')
    (g : wpAny P md ops Q fuel (listed.setIfInBounds i true) a' w) : wpAny P md ops Q (fuel + 1) listed a w :=
  wpAny_take hi hs hf hr (by rw [hdst]; exact hQ) (Or.inl ⟨hw, hy⟩) (by rw [hdst, hd]; exact g)
end

/-- append of one word to a row of the call's own, as one operation -/
theorem wp_app_w (w : World) {o : Oper} {a : Act} {K : Act → World → Prop} {Q : Exit → Act → World → Prop} (s x : Operand)
    (ho : o.op = .call { callee := .builtin .append, args := #[s, x], argTypes := #[138, 138] }) {base n c g y : Nat} {A : Option Addr} {xs : List Nat} {w0 : World}
    (hs : a.eval s = .slice A n c) (hown : Gw w base A n c xs) (hx : a.eval x = .slice (some ⟨g, 0, none⟩) 1 1) (hc : w.cell? ⟨g, 0, none⟩ = some (.int .u32 (y : Int)))
    (hn : n ≤ 1099511627776) (hb : Below base w0 w) (hbase : base ≤ w.heap.size)
    (h : ∀ A' c' w', Gw w' base A' (n + 1) c' (xs ++ [y]) → Below base w0 w' → K (a.put o.dst (.slice A' (n + 1) c')) w') : Oper.wp Tryz.prog o a w K Q := by
  obtain ⟨i0, hi, hz0, hz1, hz2⟩ := info_parts Tryz.info132'
  obtain ⟨v', w', hr, h2, h3, _⟩ := run_append_own (P := Tryz.prog) w base 138 o.type 132 i0 (.int .u32 0) 1 4 Tryz.underlying138 hi hz0 hz1 hz2 rfl (by decide) _ n (wv xs) hown.2 ⟨g, 0, none⟩ 1 1 [.int .u32 (y : Int)] rfl (by
    intro j u hj
    match j, hj with
    | 0, hj => simp at hj; subst hj; simpa [Addr.add] using hc) (by intro u hu; simp at hu; subst hu; rfl) (by unfold maxLen; omega) (by omega) hbase
  obtain ⟨A', c', rfl⟩ := own_shape h2
  unfold Oper.wp execOp
  simp only [ho, resolve, invoke, builtin, Sem.run_bind, Sem.run_pure, Result.andThen_ok, List.map_toArray, List.map_cons, List.map_nil, hs, hx, hr]
  exact h A' c' w' ⟨by simp [hown.1], by rw [wv_append]; exact h2⟩ (hb.grown h3 hbase fun k hk => (hown.2.lt k hk).1)
/-- a word, as far as its bytes are read -/
def acc (a b c d : Nat) : Nat → Nat
  | 0 => 0
  | 1 => a
  | 2 => a * 256 + b
  | 3 => (a * 256 + b) * 256 + c
  | _ => word a b c d
theorem sched1_succ (p : List Nat) (t : Nat) : sched1 p (t + 1) = sched1 p t ++ [wordAt p t] := by rw [sched1]
theorem gw_drew {w : World} {base n c : Nat} {A : Option Addr} {xs : List Nat} (h : Gw w base A n c xs) : Gw w.drew base A n c xs := h
theorem gw_drewN {w : World} {base n c : Nat} {A : Option Addr} {xs : List Nat} (h : Gw w base A n c xs) (q : Nat) : Gw (w.drewN q) base A n c xs := h
set_option maxHeartbeats 1000000 in
theorem rsched_any {w : World} {c : Nat} {A : Option Addr} {xs : List Nat} (h : Nb w w.heap.size A 64 c xs) :
    Calls Tryz.prog 168 #[.slice A 64 c] w fun e w' => ∃ A' c', e = .returned (.slice A' 64 c') ∧ Nw w' w'.heap.size A' 64 c' (sched xs) ∧ Below w.heap.size w w' := by
  have hc := h.cap
  have hr := h.room
  obtain ⟨b, off, rfl, hb, -⟩ := h.cell (by omega)
  have g0 := Gw.nil w w.heap.size
  go_enter Tryz.func168, Tryz.ntmps168
  go_wp2
  go_loopw [4, 3] (fun i v wr => ∃ k : Nat, k ≤ 16 ∧ i = .int .i64 k ∧ ∃ A c, v = .slice A k c ∧ Gw wr w.heap.size A k c (sched1 xs k) ∧ Below w.heap.size w wr) (fun i _ _ => 16 - (intOf i).toNat)
  case atStart => exact ⟨0, by omega, rfl, none, 0, rfl, by rw [sched1]; exact g0, Below.refl _ _⟩
  case round =>
    obtain ⟨k, hk, rfl, A5, c5, rfl, hG, hB⟩ := hrel
    have hs := hB.size
    by_cases hlt : k < 16
    · have hx := h.below hB
      obtain ⟨b0, off0, e0, _, h0⟩ := hx.at_ (k := 4 * k) (by omega)
      obtain ⟨b1, off1, e1, _, h1⟩ := hx.at_ (k := 4 * k + 1) (by omega)
      obtain ⟨b2, off2, e2, _, h2⟩ := hx.at_ (k := 4 * k + 2) (by omega)
      obtain ⟨b3, off3, e3, _, h3⟩ := hx.at_ (k := 4 * k + 3) (by omega)
      simp only [Option.some.injEq, Addr.mk.injEq, and_true] at e0 e1 e2 e3
      obtain ⟨rfl, rfl⟩ := e0
      obtain ⟨rfl, rfl⟩ := e1
      obtain ⟨rfl, rfl⟩ := e2
      obtain ⟨rfl, rfl⟩ := e3
      have l0 := hx.lim.get (by omega) (4 * k)
      have l1 := hx.lim.get (by omega) (4 * k + 1)
      have l2 := hx.lim.get (by omega) (4 * k + 2)
      have l3 := hx.lim.get (by omega) (4 * k + 3)
      have HW : Hid (sched1 xs (k + 1) = sched1 xs k ++ [word (xs.getD (4 * k) 0) (xs.getD (4 * k + 1) 0) (xs.getD (4 * k + 2) 0) (xs.getD (4 * k + 3) 0)]) := Lib.hid (by rw [sched1_succ]; rfl)
      generalize xs.getD (4 * k) 0 = x0 at *
      generalize xs.getD (4 * k + 1) 0 = x1 at *
      generalize xs.getD (4 * k + 2) 0 = x2 at *
      generalize xs.getD (4 * k + 3) 0 = x3 at *
      go_wp2
      go_loopw [6, 5] (fun i x w2 => ∃ m : Nat, m ≤ 4 ∧ i = .int .i64 m ∧ x = .int .u32 ((acc x0 x1 x2 x3 m : Nat) : Int) ∧ w2 = wr) (fun i _ _ => 4 - (intOf i).toNat)
      case atStart => exact ⟨0, by omega, rfl, rfl, rfl⟩
      case round =>
        obtain ⟨m, hm, rfl, rfl, rfl⟩ := hrel
        have hh : m = 0 ∨ m = 1 ∨ m = 2 ∨ m = 3 ∨ m = 4 := by omega
        rcases hh with rfl | rfl | rfl | rfl | rfl
        · go_wp2
          go_roundw
          case rel => exact ⟨1, by omega, rfl, by congr 1; simp only [acc]; omega, trivial⟩
          case measure => simp [intOf]
        · go_wp2
          go_roundw
          case rel => exact ⟨2, by omega, rfl, by congr 1; simp only [acc]; omega, trivial⟩
          case measure => simp [intOf]
        · go_wp2
          go_roundw
          case rel => exact ⟨3, by omega, rfl, by congr 1; simp only [acc]; omega, trivial⟩
          case measure => simp [intOf]
        · go_wp2
          go_roundw
          case rel => exact ⟨4, by omega, rfl, by congr 1; simp only [acc, word]; omega, trivial⟩
          case measure => simp [intOf]
        · have ha : acc x0 x1 x2 x3 4 = word x0 x1 x2 x3 := rfl
          rw [ha]
          have hwl := word_lt l0 l1 l2 l3
          generalize word x0 x1 x2 x3 = y at *
          have hG' := hG.alloc (.cells #[.int .u32 (y : Int)] 132)
          have hB' := hB.alloc hs (.cells #[.int .u32 (y : Int)] 132)
          have hc9 := cell_new wr (.int .u32 (y : Int)) 132
          go_wp2_with (refine wpList_app_w _ rfl (.tmp 31) (.tmp 33) rfl rfl hG' rfl hc9 (by omega) hB' (by simp; omega) ?_; intro A7 c7 w7 hG7 hB7)
          go_roundw
          case rel => exact ⟨k + 1, by omega, by go_num, A7, c7, rfl, by rw [HW.out]; exact hG7, hB7⟩
          case measure => simp [intOf]; omega
    · have e : k = 16 := by omega
      subst e
      have hL1 := lim_sched1 h.lim 16
      have hl1 := length_sched1 xs 16
      obtain ⟨W1, hW1⟩ : ∃ W1, sched1 xs 16 = W1 := ⟨_, rfl⟩
      have HS : Hid (sched xs = sched2 W1 48) := Lib.hid (by rw [sched, hW1])
      rw [hW1] at hG hL1 hl1
      clear hW1 hlt
      rw [show ((16 : Nat) : Int) = 16 from rfl]
      go_wp2
      go_loopw [7, 3] (fun i v wr => ∃ k : Nat, k ≤ 48 ∧ i = .int .i64 (k + 16 : Nat) ∧ ∃ A c, v = .slice A (k + 16) c ∧ Gw wr w.heap.size A (k + 16) c (sched2 W1 k) ∧ Below w.heap.size w wr) (fun i _ _ => 64 - (intOf i).toNat)
      case atStart => exact ⟨0, by omega, rfl, _, _, rfl, by rw [sched2]; exact hG, hB⟩
      case round =>
        clear hG hB hs
        obtain ⟨k, hk, rfl, A6, c6, rfl, hG, hB⟩ := hrel
        have hs := hB.size
        have hL := lim_sched2 hL1 k
        by_cases hlt : k < 48
        · have hN := hG.nw hL
          obtain ⟨b1, off1, e1, _, h1⟩ := hN.at_ (k := k + 1) (by omega)
          obtain ⟨b2, off2, e2, _, h2⟩ := hN.at_ (k := k + 14) (by omega)
          obtain ⟨b3, off3, e3, _, h3⟩ := hN.at_ (k := k + 9) (by omega)
          obtain ⟨b4, off4, e4, _, h4⟩ := hN.at_ (k := k) (by omega)
          rw [e1] at e2 e3 e4
          simp only [Option.some.injEq, Addr.mk.injEq, and_true] at e2 e3 e4
          obtain ⟨rfl, rfl⟩ := e2
          obtain ⟨rfl, rfl⟩ := e3
          obtain ⟨rfl, rfl⟩ := e4
          subst e1
          have p2 := hL.get (by omega) (k + 14)
          have p1 := hL.get (by omega) (k + 1)
          have Hn : Hid (sched2 W1 (k + 1) = sched2 W1 k ++ [ad (ad (ad (sg1 ((sched2 W1 k).getD (k + 14) 0)) ((sched2 W1 k).getD (k + 9) 0)) (sg0 ((sched2 W1 k).getD (k + 1) 0))) ((sched2 W1 k).getD k 0)]) := Lib.hid (by
            rw [sched2, nextW, length_sched2, hl1, show 16 + k - 2 = k + 14 by omega, show 16 + k - 7 = k + 9 by omega, show 16 + k - 15 = k + 1 by omega, show 16 + k - 16 = k by omega])
          generalize (sched2 W1 k).getD (k + 14) 0 = x2 at *
          generalize (sched2 W1 k).getD (k + 9) 0 = x7 at *
          generalize (sched2 W1 k).getD (k + 1) 0 = x15 at *
          generalize (sched2 W1 k).getD k 0 = x16 at *
          have z2 : IntKind.i64.wrap ((k : Int) + 16 - 2) = (k : Int) + 14 := (IntWalk.i64_in _ (by omega)).trans (by omega)
          go_wp2
          go_quiet (fail)
          replace hB := below_drewN hB nq
          have hG1 : Gw (wr.drewN nq) w.heap.size (some ⟨b1, off1, none⟩) (k + 16) c6 (sched2 W1 k) := gw_drewN hG nq
          replace h3 : (wr.drewN nq).cell? _ = _ := h3
          replace h4 : (wr.drewN nq).cell? _ = _ := h4
          have hs1 : w.heap.size ≤ (wr.drewN nq).heap.size := hs
          generalize wr.drewN nq = w8 at *
          clear hG h1 h2 hN hs
          go_wp2_with (go_at_call 169; refine (rturned_any _ (by omega) _ (by omega) (by omega) _).mono ?_; rintro e w' ⟨rfl, rfl⟩)
          obtain ⟨s0, e0⟩ : ∃ s0, sg0 x15 = s0 := ⟨_, rfl⟩
          obtain ⟨s1, e1⟩ : ∃ s1, sg1 x2 = s1 := ⟨_, rfl⟩
          rw [e0, e1] at Hn
          rw [show wx (wx (rt x15 7) (rt x15 18)) (dn x15 3) = s0 from e0, show wx (wx (rt x2 17) (rt x2 19)) (dn x2 10) = s1 from e1]
          clear e0 e1
          have hG9 := (gw_drew hG1).alloc (.cells #[.int .u32 ((ad (ad (ad s1 x7) s0) x16 : Nat) : Int)] 132)
          have hB9 := (below_drew hB).alloc hs1 (.cells #[.int .u32 ((ad (ad (ad s1 x7) s0) x16 : Nat) : Int)] 132)
          have hc9 := cell_new w8.drew (.int .u32 ((ad (ad (ad s1 x7) s0) x16 : Nat) : Int)) 132
          have hs9 : w.heap.size ≤ (w8.drew.alloc (.cells #[.int .u32 ((ad (ad (ad s1 x7) s0) x16 : Nat) : Int)] 132)).heap.size := by rw [World.size_alloc]; exact Nat.le_succ_of_le hs1
          have z7 : IntKind.i64.wrap ((k : Int) + 16 - 7) = (k : Int) + 9 := (IntWalk.i64_in _ (by omega)).trans (by omega)
          have z16 : IntKind.i64.wrap ((k : Int) + 16 - 16) = (k : Int) := (IntWalk.i64_in _ (by omega)).trans (by omega)
          have y7 : IntKind.i64.wrap ((k : Int) + 9) = (k : Int) + 9 := IntWalk.i64_in _ (by omega)
          have y16 : IntKind.i64.wrap (k : Int) = (k : Int) := IntWalk.i64_in _ (by omega)
          have i1 : 0 ≤ (k : Int) + 9 ∧ (k : Int) + 9 < (k : Int) + 16 := by omega
          have i3 : ((k : Int) + 9).toNat = k + 9 := by omega
          have i4 : 0 ≤ (k : Int) ∧ (k : Int) < (k : Int) + 16 := by omega
          have h3' : w8.drew.cell? _ = _ := h3
          have h4' : w8.drew.cell? _ = _ := h4
          clear h3 h4
          refine wp_region_any (by kernel_rfl) ?_
          change wpAny _ _ _ _ _ _ _ (World.drew _)
          refine take_op (i := 0) (d := 65) (v := .slice (some ⟨b1, off1, none⟩) (k + 16) c6) (a' := _) (by rfl) (by kernel_rfl) (by kernel_rfl) (by kernel_rfl) (fun _ _ _ h => h) (by rfl) (by rfl) (fun W => by go_simp; try rfl) (by go_simp; exact rfl) ?_
          refine take_op (i := 1) (d := 66) (v := .int .u32 (s1 : Int)) (a' := _) (by rfl) (by kernel_rfl) (by kernel_rfl) (by kernel_rfl) (fun _ _ _ h => h) (by rfl) (by rfl) (fun W => by go_simp; try rfl) (by go_simp; exact rfl) ?_
          refine take_op (i := 2) (d := 67) (v := .slice (some ⟨b1, off1, none⟩) (k + 16) c6) (a' := _) (by rfl) (by kernel_rfl) (by kernel_rfl) (by kernel_rfl) (fun _ _ _ h => h) (by rfl) (by rfl) (fun W => by go_simp; try rfl) (by go_simp; exact rfl) ?_
          refine take_op (i := 3) (d := 68) (v := .int .i64 ((k : Int) + 16)) (a' := _) (by rfl) (by kernel_rfl) (by kernel_rfl) (by kernel_rfl) (fun _ _ _ h => h) (by rfl) (by rfl) (fun W => by go_simp; try rfl) (by go_simp; exact rfl) ?_
          refine take_op (i := 4) (d := 69) (v := .int .i64 ((k : Int) + 9)) (a' := _) (by rfl) (by kernel_rfl) (by kernel_rfl) (by kernel_rfl) (fun _ _ _ h => h) (by rfl) (by rfl) (fun W => by go_simp; try rfl) (by go_simp; exact rfl) ?_
          refine take_op (i := 5) (d := 70) (v := .pointer (some ⟨b1, off1 + (k + 9), none⟩)) (a' := _) (by rfl) (by kernel_rfl) (by kernel_rfl) (by kernel_rfl) (fun _ _ _ h => h) (by rfl) (by rfl) (fun W => by go_simp; try rfl) (by go_simp; exact rfl) ?_
          refine take_op (i := 8) (d := 73) (v := .int .u32 (s0 : Int)) (a' := _) (by rfl) (by kernel_rfl) (by kernel_rfl) (by kernel_rfl) (fun _ _ _ h => h) (by rfl) (by rfl) (fun W => by go_simp; try rfl) (by go_simp; exact rfl) ?_
          refine take_op (i := 10) (d := 75) (v := .slice (some ⟨b1, off1, none⟩) (k + 16) c6) (a' := _) (by rfl) (by kernel_rfl) (by kernel_rfl) (by kernel_rfl) (fun _ _ _ h => h) (by rfl) (by rfl) (fun W => by go_simp; try rfl) (by go_simp; exact rfl) ?_
          refine take_op (i := 11) (d := 76) (v := .int .i64 ((k : Int) + 16)) (a' := _) (by rfl) (by kernel_rfl) (by kernel_rfl) (by kernel_rfl) (fun _ _ _ h => h) (by rfl) (by rfl) (fun W => by go_simp; try rfl) (by go_simp; exact rfl) ?_
          refine take_op (i := 12) (d := 77) (v := .int .i64 (k : Int)) (a' := _) (by rfl) (by kernel_rfl) (by kernel_rfl) (by kernel_rfl) (fun _ _ _ h => h) (by rfl) (by rfl) (fun W => by go_simp; try rfl) (by go_simp; exact rfl) ?_
          refine take_op (i := 13) (d := 78) (v := .pointer (some ⟨b1, off1 + k, none⟩)) (a' := _) (by rfl) (by kernel_rfl) (by kernel_rfl) (by kernel_rfl) (fun _ _ _ h => h) (by rfl) (by rfl) (fun W => by go_simp; try rfl) (by go_simp; exact rfl) ?_
          refine wpAny_ready (rs := [6, 14]) (by kernel_rfl) (by simp) ?_
          refine BigFrame.allReady_want rfl rfl (fun K hK => ?PA) (BigFrame.allReady_want rfl rfl (fun K hK => ?PB) AllReady.nil)
          case PA =>
            change Oper.wp _ ⟨some 71, Op.load 132 (.tmp 70), _, _, _, _⟩ _ _ _ _
            go_big_op
            refine hK _ _ ?_
            clear hK K
            refine take_op (i := 7) (d := 72) (v := .int .u32 ((ad s1 x7 : Nat) : Int)) (a' := _) (by rfl) (by kernel_rfl) (by kernel_rfl) (by kernel_rfl) (fun _ _ _ h => h) (by rfl) (by rfl) (fun W => by go_simp; try rfl) (by go_simp; exact rfl) ?_
            refine take_op (i := 9) (d := 74) (v := .int .u32 ((ad (ad s1 x7) s0 : Nat) : Int)) (a' := _) (by rfl) (by kernel_rfl) (by kernel_rfl) (by kernel_rfl) (fun _ _ _ h => h) (by rfl) (by rfl) (fun W => by go_simp; try rfl) (by go_simp; exact rfl) ?_
            refine wpAny_ready (rs := [14]) (by kernel_rfl) (by simp) ?_
            refine BigFrame.allReady_want rfl rfl (fun K hK => ?_) AllReady.nil
            change Oper.wp _ ⟨some 79, Op.load 132 (.tmp 78), _, _, _, _⟩ _ _ _ _
            go_big_op
            refine hK _ _ ?_
            clear hK K
            refine take_op (i := 15) (d := 80) (v := .int .u32 ((ad (ad (ad s1 x7) s0) x16 : Nat) : Int)) (a' := _) (by rfl) (by kernel_rfl) (by kernel_rfl) (by kernel_rfl) (fun _ _ _ h => h) (by rfl) (by rfl) (fun W => by go_simp; try rfl) (by go_simp; exact rfl) ?_
            refine wpAny_ready (rs := [16]) (by kernel_rfl) (by simp) ?_
            refine BigFrame.allReady_want rfl rfl (fun K hK => ?_) AllReady.nil
            change Oper.wp _ ⟨some 81, Op.buildSlice 138 1 #[(0, .tmp 80)], _, _, _, _⟩ _ _ _ _
            go_big_op
            refine hK _ _ ?_
            clear hK K
            refine wpAny_ready (rs := [17]) (by kernel_rfl) (by simp) ?_
            refine BigFrame.allReady_want rfl rfl (fun K hK => ?_) AllReady.nil
            refine wp_app_w _ (.tmp 65) (.tmp 81) rfl rfl hG9 rfl hc9 (by omega) hB9 hs9 ?_
            intro A7 c7 w7 hG7 hB7
            refine hK _ _ ?_
            clear hK K
            refine take_op (i := 18) (d := 3) (v := .slice A7 (k + 16 + 1) c7) (a' := _) (by rfl) (by kernel_rfl) (by kernel_rfl) (by kernel_rfl) (fun _ _ _ h => h) (by rfl) (by rfl) (fun W => by go_simp; try rfl) (by go_simp; exact rfl) ?_
            refine wpAny_done (by kernel_rfl) ?_ _
            go_wp2
            go_roundw
            case rel => exact ⟨k + 1, by omega, by go_num, A7, c7, rfl, by rw [Hn.out]; exact hG7, hB7⟩
            case measure => simp [intOf]; omega
          case PB =>
            change Oper.wp _ ⟨some 79, Op.load 132 (.tmp 78), _, _, _, _⟩ _ _ _ _
            go_big_op
            refine hK _ _ ?_
            clear hK K
            refine wpAny_ready (rs := [6]) (by kernel_rfl) (by simp) ?_
            refine BigFrame.allReady_want rfl rfl (fun K hK => ?_) AllReady.nil
            change Oper.wp _ ⟨some 71, Op.load 132 (.tmp 70), _, _, _, _⟩ _ _ _ _
            go_big_op
            refine hK _ _ ?_
            clear hK K
            refine take_op (i := 7) (d := 72) (v := .int .u32 ((ad s1 x7 : Nat) : Int)) (a' := _) (by rfl) (by kernel_rfl) (by kernel_rfl) (by kernel_rfl) (fun _ _ _ h => h) (by rfl) (by rfl) (fun W => by go_simp; try rfl) (by go_simp; exact rfl) ?_
            refine take_op (i := 9) (d := 74) (v := .int .u32 ((ad (ad s1 x7) s0 : Nat) : Int)) (a' := _) (by rfl) (by kernel_rfl) (by kernel_rfl) (by kernel_rfl) (fun _ _ _ h => h) (by rfl) (by rfl) (fun W => by go_simp; try rfl) (by go_simp; exact rfl) ?_
            refine take_op (i := 15) (d := 80) (v := .int .u32 ((ad (ad (ad s1 x7) s0) x16 : Nat) : Int)) (a' := _) (by rfl) (by kernel_rfl) (by kernel_rfl) (by kernel_rfl) (fun _ _ _ h => h) (by rfl) (by rfl) (fun W => by go_simp; try rfl) (by go_simp; exact rfl) ?_
            refine wpAny_ready (rs := [16]) (by kernel_rfl) (by simp) ?_
            refine BigFrame.allReady_want rfl rfl (fun K hK => ?_) AllReady.nil
            change Oper.wp _ ⟨some 81, Op.buildSlice 138 1 #[(0, .tmp 80)], _, _, _, _⟩ _ _ _ _
            go_big_op
            refine hK _ _ ?_
            clear hK K
            refine wpAny_ready (rs := [17]) (by kernel_rfl) (by simp) ?_
            refine BigFrame.allReady_want rfl rfl (fun K hK => ?_) AllReady.nil
            refine wp_app_w _ (.tmp 65) (.tmp 81) rfl rfl hG9 rfl hc9 (by omega) hB9 hs9 ?_
            intro A7 c7 w7 hG7 hB7
            refine hK _ _ ?_
            clear hK K
            refine take_op (i := 18) (d := 3) (v := .slice A7 (k + 16 + 1) c7) (a' := _) (by rfl) (by kernel_rfl) (by kernel_rfl) (by kernel_rfl) (fun _ _ _ h => h) (by rfl) (by rfl) (fun W => by go_simp; try rfl) (by go_simp; exact rfl) ?_
            refine wpAny_done (by kernel_rfl) ?_ _
            go_wp2
            go_roundw
            case rel => exact ⟨k + 1, by omega, by go_num, A7, c7, rfl, by rw [Hn.out]; exact hG7, hB7⟩
            case measure => simp [intOf]; omega
        · have e : k = 48 := by omega
          subst e
          rw [← HS.out] at hG hL
          have HN := Lib.hid (hG.nw hL)
          clear hG hL hlt
          go_wp2
          go_ret
          exact ⟨_, _, rfl, HN.out, hB⟩
end Go.Proofs.YtkeejhkjbmegkaaGreatDoor.Sh
namespace Go.Proofs.YtkeejhkjbmegkaaGreatDoor.Sh
open Go.RowKit
set_option linter.unusedVariables false
set_option maxRecDepth 100000

/-- block g begins with the eight words xs -/
def Vw (w : World) (g : Nat) (xs : List Nat) : Prop := ∃ cur : Array Value, w.heap[g]? = some (.cells cur 132 (0, 0)) ∧ cur.toList.take 8 = wv xs ∧ xs.length = 8
theorem Vw.lt {w : World} {g : Nat} {xs : List Nat} (h : Vw w g xs) : g < w.heap.size := by
  obtain ⟨cur, h1, _⟩ := h
  rcases Nat.lt_or_ge g w.heap.size with hlt | hge
  · exact hlt
  · rw [Array.getElem?_eq_none hge] at h1; cases h1
theorem Vw.cell {w : World} {g : Nat} {xs : List Nat} (h : Vw w g xs) {j : Nat} (hj : j < 8) : w.cell? ⟨g, j, none⟩ = some (.int .u32 ((xs.getD j 0 : Nat) : Int)) := by
  obtain ⟨cur, h1, h2, h3⟩ := h
  rw [cell_of_row w g j cur 132 (0, 0) h1]
  have : (cur.toList.take 8)[j]? = (wv xs)[j]? := by rw [h2]
  rw [List.getElem?_take, if_pos hj] at this
  have e : cur[j]? = cur.toList[j]? := by simp
  rw [e, this]
  have hl : j < xs.length := by omega
  simp [wv, List.getD, List.getElem?_eq_getElem hl]
theorem Vw.frozen {w : World} {g : Nat} {xs : List Nat} (h : Vw w g xs) (j : Nat) : w.frozen? ⟨g, j, none⟩ = false := by
  obtain ⟨cur, h1, _⟩ := h
  simp [World.frozen?, h1]
theorem Vw.set_ {w : World} {g : Nat} {xs : List Nat} (h : Vw w g xs) (j x : Nat) : Vw (w.setCell ⟨g, j, none⟩ (.int .u32 (x : Int))) g (xs.set j x) := by
  obtain ⟨cur, h1, h2, h3⟩ := h
  refine ⟨cur.setIfInBounds j (.int .u32 (x : Int)), ?_, ?_, by simp [h3]⟩
  · simp [World.setCell, Array.getElem?_modify, h1]
  · rw [Array.toList_setIfInBounds, List.take_set, h2]
    simp [wv]
theorem Vw.drewN {w : World} {g : Nat} {xs : List Nat} (h : Vw w g xs) (q : Nat) : Vw (w.drewN q) g xs := h
theorem Vw.drew {w : World} {g : Nat} {xs : List Nat} (h : Vw w g xs) : Vw w.drew g xs := h
theorem Vw.other {w : World} {g : Nat} {xs : List Nat} (h : Vw w g xs) {p : Addr} (hp : p.block ≠ g) (v : Value) : Vw (w.setCell p v) g xs := by
  obtain ⟨cur, h1, h2⟩ := h
  exact ⟨cur, (Below.heap_setCell w p v g (fun e => hp e.symm)).trans h1, h2⟩
theorem Vw.below {w w' : World} {B g : Nat} {xs : List Nat} (h : Vw w g xs) (hb : Below B w w') (hg : g < B) : Vw w' g xs := by
  obtain ⟨cur, h1, h2⟩ := h
  exact ⟨cur, (hb.block g hg).trans h1, h2⟩
theorem Gw.vw {w : World} {base c : Nat} {A : Option Addr} {xs : List Nat} (h : Gw w base A 8 c xs) : ∃ g, A = some ⟨g, 0, none⟩ ∧ base ≤ g ∧ Vw w g xs ∧ 8 ≤ c := by
  rcases h.2.2 with ⟨he, _⟩ | ⟨g, cap, cur, e, hg, hh, hn, hm, hs, ht⟩
  · cases he
  · cases e
    exact ⟨g, rfl, hg, ⟨cur, hh, by simpa using ht, h.1⟩, hn⟩
theorem nw_drewN {w : World} {B n c : Nat} {A : Option Addr} {xs : List Nat} (h : Nw w B A n c xs) (q : Nat) : Nw (w.drewN q) B A n c xs := ⟨h.len, h.cap, h.room, h.lim, h.cell⟩
theorem nw_other {w : World} {B n c g : Nat} {A : Option Addr} {xs : List Nat} (h : Nw w B A n c xs) (hg : B ≤ g) (j : Nat) (v : Value) : Nw (w.setCell ⟨g, j, none⟩ v) B A n c xs :=
  h.keep fun p hp => (((Below.refl B w).setCell (p := ⟨g, j, none⟩) hg v).cell hp)

/-- the words of a state, those behind place i moved on -/
def moved (ws : List Nat) (i : Nat) : List Nat := ws.take (i + 1) ++ (ws.drop i).take (7 - i)
theorem words_8 (s : St) : (words s).length = 8 := rfl
theorem moved_7 (s : St) : moved (words s) 7 = words s := rfl
theorem moved_step (s : St) (i : Nat) (h1 : 1 ≤ i) (h2 : i ≤ 7) : (moved (words s) i).set i ((moved (words s) i).getD (i - 1) 0) = moved (words s) (i - 1) := by
  have hh : i = 1 ∨ i = 2 ∨ i = 3 ∨ i = 4 ∨ i = 5 ∨ i = 6 ∨ i = 7 := by omega
  rcases hh with rfl | rfl | rfl | rfl | rfl | rfl | rfl <;> rfl
theorem moved_done (s : St) (k w : Nat) : ((moved (words s) 0).set 0 (ad (t1 s k w) (t2 s))).set 4 (ad ((moved (words s) 0).getD 4 0) (t1 s k w)) = words (rnd s k w) := rfl
/-- the first i words of the sum, the others as they were -/
def plusN (x y : St) (i : Nat) : List Nat := (words (plus x y)).take i ++ (words x).drop i
theorem plusN_0 (x y : St) : plusN x y 0 = words x := rfl
theorem plusN_8 (x y : St) : plusN x y 8 = words (plus x y) := rfl
theorem plusN_step (x y : St) (i : Nat) (h : i < 8) : (plusN x y i).set i (ad ((plusN x y i).getD i 0) ((words y).getD i 0)) = plusN x y (i + 1) := by
  have hh : i = 0 ∨ i = 1 ∨ i = 2 ∨ i = 3 ∨ i = 4 ∨ i = 5 ∨ i = 6 ∨ i = 7 := by omega
  rcases hh with rfl | rfl | rfl | rfl | rfl | rfl | rfl | rfl <;> rfl
end Go.Proofs.YtkeejhkjbmegkaaGreatDoor.Sh
namespace Go.Proofs.YtkeejhkjbmegkaaGreatDoor.Sh
open Go.RowKit
set_option linter.unusedVariables false
set_option maxRecDepth 100000
attribute [local go_sem] bits_wx bits_wa bits_wo bits_wn bits_wn2 add_ad wrap_ad div_8 div_1024

/-- what is known while the blocks are gone through -/
structure At (W : World) (w : World) (base gk gh R : Nat) (A5 : Option Addr) (L c5 : Nat) (T : List Nat) : Prop where
  kk_ : Wb w gk 132 kk
  text : Nb w base A5 L c5 T
  out : Bb w R 111 (List.replicate 32 0)
  bel : Below W.heap.size W w
  hk : gk < base
  hR : R < base
  hb : base ≤ w.heap.size
  hh : gh < w.heap.size
  hW : W.heap.size ≤ R
  hWk : W.heap.size ≤ gk
  nh : gh ≠ gk
  nR : gh ≠ R
  nT : ∃ g off, A5 = some ⟨g, off, none⟩ ∧ g ≠ gh
  hg : gh < base
theorem At.far {W w w' : World} {base gk gh R : Nat} {A5 : Option Addr} {L c5 : Nat} {T : List Nat} (h : At W w base gk gh R A5 L c5 T) (b : Below w.heap.size w w') : At W w' base gk gh R A5 L c5 T := by
  have h1 := h.hk
  have h2 := h.hR
  have h3 := h.hb
  have h4 := b.size
  exact ⟨h.kk_.below b (by omega), h.text.keep fun p hp => b.cell (by omega), h.out.below b (by omega), h.bel.trans (b.mono h.bel.size), h.hk, h.hR, by omega, by have := h.hh; omega, h.hW, h.hWk, h.nh, h.nR, h.nT, h.hg⟩
theorem At.drewN {W w : World} {base gk gh R : Nat} {A5 : Option Addr} {L c5 : Nat} {T : List Nat} (h : At W w base gk gh R A5 L c5 T) (q : Nat) : At W (w.drewN q) base gk gh R A5 L c5 T :=
  ⟨h.kk_.drewN q, h.text.drewN q, h.out.drewN q, below_drewN h.bel q, h.hk, h.hR, h.hb, h.hh, h.hW, h.hWk, h.nh, h.nR, h.nT, h.hg⟩
theorem size_setCell' (w : World) (p : Addr) (v : Value) : (w.setCell p v).heap.size = w.heap.size := by simp [World.setCell]
theorem At.setv {W w : World} {base gk gh R : Nat} {A5 : Option Addr} {L c5 : Nat} {T : List Nat} (h : At W w base gk gh R A5 L c5 T) {g : Nat} (hg : base ≤ g) (j : Nat) (v : Value) : At W (w.setCell ⟨g, j, none⟩ v) base gk gh R A5 L c5 T := by
  have b : Below base w (w.setCell ⟨g, j, none⟩ v) := (Below.refl _ _).setCell (p := ⟨g, j, none⟩) hg v
  have h1 := h.hk
  have h2 := h.hR
  have hs := size_setCell' w ⟨g, j, none⟩ v
  exact ⟨h.kk_.below b h1, h.text.below b, h.out.below b h2, h.bel.setCell (p := ⟨g, j, none⟩) (by have := h.hW; show W.heap.size ≤ g; omega) v, h.hk, h.hR, by rw [hs]; exact h.hb, by rw [hs]; exact h.hh, h.hW, h.hWk, h.nh, h.nR, h.nT, h.hg⟩
theorem At.seth {W w : World} {base gk gh R : Nat} {A5 : Option Addr} {L c5 : Nat} {T : List Nat} (h : At W w base gk gh R A5 L c5 T) (j : Nat) (v : Value) (hW : W.heap.size ≤ gh) : At W (w.setCell ⟨gh, j, none⟩ v) base gk gh R A5 L c5 T := by
  have hs := size_setCell' w ⟨gh, j, none⟩ v
  obtain ⟨g, off, e, hne⟩ := h.nT
  exact ⟨h.kk_.other (p := ⟨gh, j, none⟩) h.nh v, h.text.kept (q := gh) h.hb (fun _ => ⟨g, off, e, hne⟩) (grown_setCell w ⟨gh, j, none⟩ v), (Below.heap_setCell w ⟨gh, j, none⟩ v R (fun e => h.nR e.symm)).trans h.out, h.bel.setCell (p := ⟨gh, j, none⟩) hW v, h.hk, h.hR, by rw [hs]; exact h.hb, by rw [hs]; exact h.hh, h.hW, h.hWk, h.nh, h.nR, h.nT, h.hg⟩
theorem length_dig (s : St) : (dig s).length = 32 := rfl
theorem dig_get (s : St) (q r : Nat) (hq : q < 8) (hr : r < 4) : (dig s).getD (4 * q + r) 0 = (by4 ((words s).getD q 0)).getD r 0 := by
  have h1 : q = 0 ∨ q = 1 ∨ q = 2 ∨ q = 3 ∨ q = 4 ∨ q = 5 ∨ q = 6 ∨ q = 7 := by omega
  have h2 : r = 0 ∨ r = 1 ∨ r = 2 ∨ r = 3 := by omega
  rcases h1 with rfl | rfl | rfl | rfl | rfl | rfl | rfl | rfl <;> rcases h2 with rfl | rfl | rfl | rfl <;> rfl
theorem dig_put (s : St) (i : Nat) (h : i < 32) : ((dig s).take i ++ List.replicate (32 - i) 0).set i ((dig s).getD i 0) = (dig s).take (i + 1) ++ List.replicate (32 - (i + 1)) 0 := by
  have hl : i < (dig s).length := by rw [length_dig]; exact h
  have ht : ((dig s).take i).length = i := by rw [List.length_take, length_dig]; omega
  rw [List.set_append, if_neg (by omega), ht, Nat.sub_self, show 32 - i = (32 - (i + 1)) + 1 by omega, List.replicate_succ, List.set_cons_zero, List.take_succ_eq_append_getElem hl, List.append_assoc]
  congr 1
  simp [List.getD, List.getElem?_eq_getElem hl]
theorem Lim.words {s : St} (h : s.Ok) : Lim 4294967296 (words s) := by
  intro x hx
  simp only [Go.Proofs.YtkeejhkjbmegkaaGreatDoor.Sh.words, List.mem_cons, List.not_mem_nil, or_false] at hx
  obtain ⟨h0, h1, h2, h3, h4, h5, h6, h7⟩ := h
  omega
set_option maxHeartbeats 4000000 in
theorem rsum_any {w : World} {A : Option Addr} {n c : Nat} {xs : List Nat} (hx : Nb w w.heap.size A n c xs) (hn : n ≤ 1000000) :
    Calls Tryz.prog 134 #[.slice A n c] w fun e w' => e = .returned (.agg (bs (sha xs)).toArray) ∧ Below w.heap.size w w' := by
  have hr := hx.room
  obtain ⟨L, hL⟩ : ∃ L, n + (pad n).length = L := ⟨_, rfl⟩
  obtain ⟨m, hm⟩ : ∃ m, L = 64 * m := ⟨L / 64, by have := pad_whole n; omega⟩
  have hLs : L ≤ 1000100 := by have := length_pad n; omega
  obtain ⟨T, hT⟩ : ∃ T, xs ++ pad n = T := ⟨_, rfl⟩
  have HS : Hid (sha xs = dig (chgN first T m)) := Lib.hid (by
    rw [sha_is, hx.len, hT, hL, hm, Nat.mul_div_cancel_left m (by decide)])
  obtain ⟨D, hD⟩ : ∃ D, sha xs = D := ⟨_, rfl⟩
  rw [hD] at HS ⊢
  have o1 : Bb (w.alloc (Yb 111 (List.replicate 32 0))) w.heap.size 111 (List.replicate 32 0) := alloc_bb w 111 _
  have b1 : Below w.heap.size w (w.alloc (Yb 111 (List.replicate 32 0))) := (Below.refl _ _).alloc (Nat.le_refl _) _
  have hs1 : (w.alloc (Yb 111 (List.replicate 32 0))).heap.size = w.heap.size + 1 := by simp
  obtain ⟨w1, hw1⟩ : ∃ w1, w.alloc (Yb 111 (List.replicate 32 0)) = w1 := ⟨_, rfl⟩
  rw [hw1] at o1 b1 hs1
  have Hs1 := Lib.hid hs1
  have Hm := Lib.hid hm
  have hp := fun w' h => padded_any (w := w') (A := A) (n := n) (c := c) (xs := xs) h hn
  rw [hL, hT] at hp
  have HP := Lib.hid hp
  have HW := Lib.hid hw1
  have Hx := Lib.hid hx
  have HD := Lib.hid hD
  clear hL hT hw1 hp hx hD hs1 hm
  go_enter Tryz.func134, Tryz.ntmps134
  go_wp2_with fail
  change Calls _ _ _ (w.alloc (Yb 111 (List.replicate 32 0))) _
  rw [HW.out]
  refine (constants_any w1).mono ?_
  rintro e w2 ⟨rfl, k2, b2⟩
  have B2 := then_ b1 b2
  have o2 := o1.below b2 o1.lt
  go_wp2_with fail
  refine (rfirst_any w2).mono ?_
  rintro e w3 ⟨rfl, k3, b3⟩
  have B3 := then_ B2 b3
  have o3 := o2.below b3 o2.lt
  have k2' := k2.below b3 k2.lt
  go_wp2_with fail
  refine (HP.out w3 (Hx.out.far B3)).mono ?_
  rintro e w4 ⟨A5, c5, rfl, n4, ⟨gt, ot, et, gt1⟩, b4⟩
  have B4 := then_ B3 b4
  have o4 := o3.below b4 o3.lt
  have k4 := k2'.below b4 k2'.lt
  have f4 := k3.below b4 k3.lt
  have lt1 := k2.lt
  have lt2 := k3.lt
  have sz3 := b3.size
  have sz4 := b4.size
  clear o1 o2 o3 k2 k2' k3 b1 b2 b3 b4 B2 B3
  have hs1 := Hs1.out
  clear Hs1
  generalize hgk : w1.heap.size = gk at *
  generalize hgh : w2.heap.size = gh at *
  have hAt : At w w4 w4.heap.size gk gh w.heap.size A5 L c5 T := ⟨k4, n4, o4, B4, by omega, by omega, Nat.le_refl _, by omega, Nat.le_refl _, by omega, by omega, by omega, ⟨gt, ot, et, by omega⟩, by omega⟩
  have hWh : w.heap.size ≤ gh := by omega
  obtain ⟨base, hbase⟩ : ∃ base, w4.heap.size = base := ⟨_, rfl⟩
  rw [hbase] at hAt
  clear k4 n4 o4 B4 hgk hgh lt1 lt2 sz3 sz4 et gt1 hs1
  go_wp2_with fail
  go_loopw [6] (fun v wr => ∃ j : Nat, j ≤ m ∧ v = .int .i64 (64 * j : Nat) ∧ Wb wr gh 132 (words (chgN first T j)) ∧ At w wr base gk gh w.heap.size A5 L c5 T) (fun v _ => 64 * m - (intOf v).toNat)
  case atStart => exact ⟨0, by omega, rfl, by rw [chgN_zero]; exact f4, hAt⟩
  case round =>
    clear f4 hAt
    obtain ⟨j, hj, rfl, hH, hA⟩ := hrel
    by_cases hlt : j < m
    · have hm := Hm.out
      have hb := hA.hb
      have lt6 : 64 * (j : Int) < (L : Int) := by omega
      have le6 : 64 * (j : Int) + 64 ≤ (L : Int) := by omega
      obtain ⟨A6, c6, q6, n6⟩ := cut_lh hA.text (64 * j) (64 * j + 64) (by omega) (by omega)
      rw [show 64 * j + 64 - 64 * j = 64 by omega] at n6
      have q6' : ∀ W, (Instr.sliceAt 25 (.slice A5 L c5) (some (.int .i64 (64 * (j : Int)))) (some (.int .i64 (64 * (j : Int) + 64))) none).run Tryz.prog W = .ok (.slice A6 64 c6) W := fun W => by
        have := q6 W
        rw [show 64 * j + 64 - 64 * j = 64 by omega, show ((64 * j : Nat) : Int) = 64 * (j : Int) by omega, show ((64 * j + 64 : Nat) : Int) = 64 * (j : Int) + 64 by omega] at this
        exact this
      have HC : Hid (chgN first T (j + 1) = plus (chgN first T j) (rnds kk (sched ((T.drop (64 * j)).take 64)) (chgN first T j) 64)) := Lib.hid (by rw [chgN_succ, chg_is])
      have hok := chgN_ok first_ok T j
      obtain ⟨p, hp⟩ : ∃ p, (T.drop (64 * j)).take 64 = p := ⟨_, rfl⟩
      rw [hp] at HC n6
      generalize hS : chgN first T j = S at *
      have hlp := sched_lim n6.lim
      obtain ⟨V, hV⟩ : ∃ V, sched p = V := ⟨_, rfl⟩
      have HSch := Lib.hid (rsched_any (n6.more hA.hb))
      rw [hV] at HC hlp HSch
      clear hS hp q6 n6 hV hm
      go_wp2_with fail
      refine HSch.out.mono ?_
      rintro e w7 ⟨A7, c7, rfl, n7, b7⟩
      have hA7 := hA.far b7
      have hH7 := hH.below b7 hH.lt
      have s7 := b7.size
      have gn := Gw.nil w7 w7.heap.size
      have hN7 := hH7.nw 8 (words_8 S) (by omega) (Lim.words hok)
      clear hA hH b7 q6'
      go_wp2_with (refine wpList_app_row_w _ rfl (.tmp 34) (.tmp 35) rfl rfl gn rfl hN7 (by omega) (Below.refl _ _) (Nat.le_refl _) ?_; intro A8 c8 w8 hG8 hB8)
      obtain ⟨gv, rfl, hgv, hV8, hc8⟩ := hG8.vw
      have hA8 := hA7.far hB8
      have hH8 := hH7.below hB8 (by have := hA7.hh; omega)
      have hN8 := n7.below hB8
      have hb7 := hA7.hb
      generalize w7.heap.size = B7 at *
      have s7' : B7 ≤ gv := hgv
      have hgb : base ≤ gv := by omega
      have hgh : gv ≠ gh := by have := hA7.hg; omega
      have hgk : gv ≠ gk := by have := hA7.hk; omega
      clear hG8 hB8 gn hN7 hH7 n7 hA7
      go_wp2_with fail
      go_loopw [9] (fun v wr => ∃ t : Nat, t ≤ 64 ∧ v = .int .i64 t ∧ Vw wr gv (words (rnds kk V S t)) ∧ Wb wr gh 132 (words S) ∧ Nw wr B7 A7 64 c7 V ∧ At w wr base gk gh w.heap.size A5 L c5 T) (fun v _ => 64 - (intOf v).toNat)
      case atStart => exact ⟨0, by omega, rfl, by rw [rnds_zero]; exact hV8, hH8, hN8, hA8⟩
      case round =>
        clear hV8 hH8 hN8 hA8 s7
        obtain ⟨t, ht, rfl, hv, hH, hN, hA⟩ := hrel
        by_cases ht64 : t < 64
        · have HR : Hid (rnds kk V S (t + 1) = rnd (rnds kk V S t) (kk.getD t 0) (V.getD t 0)) := Lib.hid (rnds_succ kk V S t)
          have hso := rnds_ok hok kk V t
          obtain ⟨s, hs⟩ : ∃ s, rnds kk V S t = s := ⟨_, rfl⟩
          rw [hs] at HR hso hv
          clear hs
          obtain ⟨b7, off7, e7, hb7', cv⟩ := hN.at_ ht64
          have ck := hA.kk_.cell (j := t) (by show t < 64; exact ht64)
          have lV := hlp.get (by omega) t
          have lK := kk_lt t
          generalize kk.getD t 0 = kt at *
          generalize V.getD t 0 = vt at *
          subst e7
          have d0 : wr.cell? ⟨gv, 0, none⟩ = some (.int .u32 (s.a : Int)) := hv.cell (j := 0) (by omega)
          have d1 : wr.cell? ⟨gv, 1, none⟩ = some (.int .u32 (s.b : Int)) := hv.cell (j := 1) (by omega)
          have d2 : wr.cell? ⟨gv, 2, none⟩ = some (.int .u32 (s.c : Int)) := hv.cell (j := 2) (by omega)
          have d3 : wr.cell? ⟨gv, 3, none⟩ = some (.int .u32 (s.d : Int)) := hv.cell (j := 3) (by omega)
          have d4 : wr.cell? ⟨gv, 4, none⟩ = some (.int .u32 (s.e : Int)) := hv.cell (j := 4) (by omega)
          have d5 : wr.cell? ⟨gv, 5, none⟩ = some (.int .u32 (s.f : Int)) := hv.cell (j := 5) (by omega)
          have d6 : wr.cell? ⟨gv, 6, none⟩ = some (.int .u32 (s.g : Int)) := hv.cell (j := 6) (by omega)
          have d7 : wr.cell? ⟨gv, 7, none⟩ = some (.int .u32 (s.h : Int)) := hv.cell (j := 7) (by omega)
          obtain ⟨l0, l1, l2, l3, l4, l5, l6, l7⟩ := hso
          go_wp2_with fail
          go_quiet (fail)
          replace hv := hv.drewN nq
          replace hH := hH.drewN nq
          replace hN := nw_drewN hN nq
          replace hA := hA.drewN nq
          replace d0 : (wr.drewN nq).cell? _ = _ := d0
          replace d1 : (wr.drewN nq).cell? _ = _ := d1
          replace d2 : (wr.drewN nq).cell? _ = _ := d2
          replace d3 : (wr.drewN nq).cell? _ = _ := d3
          replace d4 : (wr.drewN nq).cell? _ = _ := d4
          replace d5 : (wr.drewN nq).cell? _ = _ := d5
          replace d6 : (wr.drewN nq).cell? _ = _ := d6
          replace d7 : (wr.drewN nq).cell? _ = _ := d7
          replace ck : (wr.drewN nq).cell? _ = _ := ck
          replace cv : (wr.drewN nq).cell? _ = _ := cv
          generalize wr.drewN nq = w9 at *
          clear nq
          go_wp2_with fail
          go_quiet ((go_at_call 169; exact Calls.quiet_of_same ((rturned_any _ (by omega) _ (by omega) (by omega) _).mono fun _ _ ⟨he, hw⟩ => ⟨he, hw.symm⟩)))
          replace hv := hv.drewN nq
          replace hH := hH.drewN nq
          replace hN := nw_drewN hN nq
          replace hA := hA.drewN nq
          replace d0 : (w9.drewN nq).cell? _ = _ := d0
          replace d1 : (w9.drewN nq).cell? _ = _ := d1
          replace d2 : (w9.drewN nq).cell? _ = _ := d2
          replace d3 : (w9.drewN nq).cell? _ = _ := d3
          replace d4 : (w9.drewN nq).cell? _ = _ := d4
          replace d5 : (w9.drewN nq).cell? _ = _ := d5
          replace d6 : (w9.drewN nq).cell? _ = _ := d6
          replace d7 : (w9.drewN nq).cell? _ = _ := d7
          replace ck : (w9.drewN nq).cell? _ = _ := ck
          replace cv : (w9.drewN nq).cell? _ = _ := cv
          generalize w9.drewN nq = w10 at *
          clear nq
          obtain ⟨X, hX⟩ : ∃ X, t1 s kt vt = X := ⟨_, rfl⟩
          rw [show ad (ad (ad (ad s.h (wx (wx (rt s.e 6) (rt s.e 11)) (rt s.e 25))) (wx (wa s.e s.f) (wa (wn s.e) s.g))) kt) vt = X from hX]
          go_wp2_with fail
          go_quiet ((go_at_call 169; exact Calls.quiet_of_same ((rturned_any _ (by omega) _ (by omega) (by omega) _).mono fun _ _ ⟨he, hw⟩ => ⟨he, hw.symm⟩)))
          replace hv := hv.drewN nq
          replace hH := hH.drewN nq
          replace hN := nw_drewN hN nq
          replace hA := hA.drewN nq
          replace d0 : (w10.drewN nq).cell? _ = _ := d0
          replace d1 : (w10.drewN nq).cell? _ = _ := d1
          replace d2 : (w10.drewN nq).cell? _ = _ := d2
          replace d3 : (w10.drewN nq).cell? _ = _ := d3
          replace d4 : (w10.drewN nq).cell? _ = _ := d4
          replace d5 : (w10.drewN nq).cell? _ = _ := d5
          replace d6 : (w10.drewN nq).cell? _ = _ := d6
          replace d7 : (w10.drewN nq).cell? _ = _ := d7
          replace ck : (w10.drewN nq).cell? _ = _ := ck
          replace cv : (w10.drewN nq).cell? _ = _ := cv
          generalize w10.drewN nq = w11 at *
          clear nq
          obtain ⟨Y, hY⟩ : ∃ Y, t2 s = Y := ⟨_, rfl⟩
          rw [show ad (wx (wx (rt s.a 2) (rt s.a 13)) (rt s.a 22)) (wx (wx (wa s.a s.b) (wa s.a s.c)) (wa s.b s.c)) = Y from hY]
          have HX := Lib.hid hX
          have HY := Lib.hid hY
          clear hX hY d0 d1 d2 d3 d4 d5 d6 d7 ck cv
          have hm7 : Vw w11 gv (moved (words s) 7) := hv
          clear hv
          go_wp2_with fail
          go_loopw [14] (fun v w2 => ∃ i : Nat, i ≤ 7 ∧ v = .int .i64 i ∧ Vw w2 gv (moved (words s) i) ∧ Wb w2 gh 132 (words S) ∧ Nw w2 B7 (some ⟨b7, off7, none⟩) 64 c7 V ∧ At w w2 base gk gh w.heap.size A5 L c5 T) (fun v _ => (intOf v).toNat)
          case atStart => exact ⟨7, by omega, rfl, hm7, hH, hN, hA⟩
          case round =>
            clear hm7 hH hN hA
            obtain ⟨i, hi, rfl, hv, hH, hN, hA⟩ := hrel
            by_cases h0 : 0 < i
            · obtain ⟨i, rfl⟩ : ∃ i', i = i' + 1 := ⟨i - 1, by omega⟩
              have r1 := hv.cell (j := i) (by omega)
              have r2 := hv.cell (j := i + 1) (by omega)
              have f2 := hv.frozen (i + 1)
              have Hst := Lib.hid (moved_step s (i + 1) (by omega) (by omega))
              rw [Nat.add_sub_cancel] at Hst
              generalize (moved (words s) (i + 1)).getD i 0 = y at *
              go_wp2_with fail
              go_roundw
              case rel => exact ⟨i, by omega, by go_num, by rw [← Hst.out]; exact hv.set_ (i + 1) y, hH.other (p := ⟨gv, i + 1, none⟩) hgh _, nw_other hN s7' (i + 1) _, hA.setv hgb (i + 1) _⟩
              case measure => simp [intOf]
            · have e : i = 0 := by omega
              subst e
              have d0 : wr.cell? ⟨gv, 0, none⟩ = some (.int .u32 (s.a : Int)) := hv.cell (j := 0) (by omega)
              have d4 : wr.cell? ⟨gv, 4, none⟩ = some (.int .u32 (s.d : Int)) := hv.cell (j := 4) (by omega)
              have f0 := hv.frozen 0
              have f4 := hv.frozen 4
              go_wp2_with fail
              have Hdone : Hid (((moved (words s) 0).set 0 (ad X Y)).set 4 (ad s.d X) = words (rnds kk V S (t + 1))) := Lib.hid (by rw [HR.out, ← HX.out, ← HY.out]; rfl)
              go_roundw
              case rel => exact ⟨t + 1, by omega, by go_num, by rw [← Hdone.out]; exact (hv.set_ 0 (ad X Y)).set_ 4 (ad s.d X), (hH.other (p := ⟨gv, 0, none⟩) hgh _).other (p := ⟨gv, 4, none⟩) hgh _, nw_other (nw_other hN s7' 0 _) s7' 4 _, (hA.setv hgb 0 _).setv hgb 4 _⟩
              case measure => simp [intOf]; omega
        · have e : t = 64 := by omega
          subst e
          obtain ⟨Z, hZ⟩ : ∃ Z, rnds kk V S 64 = Z := ⟨_, rfl⟩
          rw [hZ] at hv HC
          clear hN hZ ht64
          rw [show ((64 : Nat) : Int) = 64 from rfl]
          go_wp2_with fail
          go_loopw [15] (fun v w2 => ∃ i : Nat, i ≤ 8 ∧ v = .int .i64 i ∧ Vw w2 gv (words Z) ∧ Wb w2 gh 132 (plusN S Z i) ∧ At w w2 base gk gh w.heap.size A5 L c5 T) (fun v _ => 8 - (intOf v).toNat)
          case atStart => exact ⟨0, by omega, rfl, hv, by rw [plusN_0]; exact hH, hA⟩
          case round =>
            clear hv hH hA
            obtain ⟨i, hi, rfl, hv, hH, hA⟩ := hrel
            by_cases h8 : i < 8
            · have r1 := hH.drew.cell (j := i) (by simp [plusN, words]; omega)
              have r2 := hv.drew.cell (j := i) h8
              have f1 := hH.drew.frozen i
              have Hst := Lib.hid (plusN_step S Z i h8)
              generalize (plusN S Z i).getD i 0 = x at *
              generalize (words Z).getD i 0 = y at *
              go_wp2_with fail
              go_region
              go_wp2
              go_roundw
              case rel => exact ⟨i + 1, by omega, by go_num, hv.drew.other (p := ⟨gh, i, none⟩) (fun e => hgh e.symm) _, by rw [← Hst.out]; exact hH.drew.set_ i (ad x y), (hA.drewN 1).seth i _ hWh⟩
              case measure => simp [intOf]; omega
            · have e8 : i = 8 := by omega
              subst e8
              rw [plusN_8, ← HC.out] at hH
              rw [show ((8 : Nat) : Int) = 8 from rfl]
              have hm := Hm.out
              go_wp2_with fail
              go_roundw
              case rel => exact ⟨j + 1, by omega, by first | (congr 1; omega) | congr 1, hH, hA⟩
              case measure => simp [intOf]; omega
    · have e : j = m := by omega
      subst e
      have hm := Hm.out
      have hDS := HS.out
      obtain ⟨S, hS⟩ : ∃ S, chgN first T j = S := ⟨_, rfl⟩
      have hok := chgN_ok first_ok T j
      rw [hS] at hH hDS hok
      have l64 : (64 * j : Nat) = L := by omega
      rw [l64]
      have hR0 := hA.out
      have hB0 := hA.bel
      have hsz := hA.hb
      have hsh := hA.hh
      have hsR := hA.hR
      have hlk := Lim.words hok
      have HDS := Lib.hid hDS
      clear hA hS hm l64 hDS hlt Hm HS
      have o9 : Bb (wr.alloc (Yb 111 (List.replicate 32 0))) wr.heap.size 111 (List.replicate 32 0) := alloc_bb wr 111 _
      have b9 := hB0.alloc hB0.size (Yb 111 (List.replicate 32 0))
      have R9 := hR0.alloc (Yb 111 (List.replicate 32 0))
      have H9 := hH.alloc (Yb 111 (List.replicate 32 0))
      obtain ⟨w9, hw9⟩ : ∃ w9, wr.alloc (Yb 111 (List.replicate 32 0)) = w9 := ⟨_, rfl⟩
      rw [hw9] at o9 b9 R9 H9
      have HW9 := Lib.hid hw9
      have hgo : wr.heap.size ≠ w.heap.size := by omega
      have hgo2 : wr.heap.size ≠ gh := by omega
      have hgo3 : w.heap.size ≤ wr.heap.size := by omega
      clear hw9 hH hR0 hB0
      go_wp2_with fail
      change Code.wp _ _ _ _ (wr.alloc (Yb 111 (List.replicate 32 0)))
      rw [HW9.out]
      generalize wr.heap.size = g9 at *
      go_loopw [17] (fun v w2 => ∃ i : Nat, i ≤ 32 ∧ v = .int .i64 i ∧ Bb w2 g9 111 ((dig S).take i ++ List.replicate (32 - i) 0) ∧ Bb w2 w.heap.size 111 (List.replicate 32 0) ∧ Wb w2 gh 132 (words S) ∧ Below w.heap.size w w2) (fun v _ => 32 - (intOf v).toNat)
      case atStart => exact ⟨0, by omega, rfl, by simpa using o9, R9, H9, b9⟩
      case round =>
        clear o9 b9 R9 H9
        obtain ⟨i, hi, rfl, ho, hR, hH, hB⟩ := hrel
        by_cases h32 : i < 32
        · obtain ⟨q, r, hq, hr4, hi4⟩ : ∃ q r : Nat, q < 8 ∧ r < 4 ∧ i = 4 * q + r := ⟨i / 4, i % 4, by omega, by omega, by omega⟩
          have Hg := Lib.hid (dig_get S q r hq hr4)
          rw [← hi4] at Hg
          have Hst := Lib.hid (dig_put S i h32)
          have cx := hH.cell (j := q) hq
          have lx := hlk.get (by omega) q
          have co := ho.cellD (j := i) (by rw [List.length_append, List.length_take, length_dig, List.length_replicate]; omega)
          have fo := ho.frozen i
          have e1 : (i : Int) / 4 = (q : Int) := by omega
          have e2 : (i : Int) % 4 = (r : Int) := by omega
          have n1 : i / 4 = q := by omega
          have n2 : i % 4 = r := by omega
          generalize (words S).getD q 0 = x at *
          have hh : r = 0 ∨ r = 1 ∨ r = 2 ∨ r = 3 := by omega
          clear hi4 hr4
          rcases hh with rfl | rfl | rfl | rfl
          · have ev : (x : Int) / 16777216 = (((by4 x).getD 0 0 : Nat) : Int) := by
              simp only [by4, List.getD, List.getElem?_cons_zero, Option.getD_some]; omega
            rw [← Hg.out] at ev
            generalize (dig S).getD i 0 = y at *
            go_wp2
            go_roundw
            case rel =>
              first | rw [ev] | skip
              exact ⟨i + 1, by omega, by go_num, by rw [← Hst.out]; exact ho.set_ i y, (Below.heap_setCell wr ⟨g9, i, none⟩ _ w.heap.size (fun e => hgo e.symm)).trans hR, hH.other (p := ⟨g9, i, none⟩) hgo2 _, hB.setCell (p := ⟨g9, i, none⟩) hgo3 _⟩
            case measure => simp [intOf]; omega
          · have ev : (x : Int) / 65536 % 256 = (((by4 x).getD 1 0 : Nat) : Int) := by
              simp only [by4, List.getD, List.getElem?_cons_zero, List.getElem?_cons_succ, Option.getD_some]; omega
            rw [← Hg.out] at ev
            generalize (dig S).getD i 0 = y at *
            go_wp2
            go_roundw
            case rel =>
              first | rw [ev] | skip
              exact ⟨i + 1, by omega, by go_num, by rw [← Hst.out]; exact ho.set_ i y, (Below.heap_setCell wr ⟨g9, i, none⟩ _ w.heap.size (fun e => hgo e.symm)).trans hR, hH.other (p := ⟨g9, i, none⟩) hgo2 _, hB.setCell (p := ⟨g9, i, none⟩) hgo3 _⟩
            case measure => simp [intOf]; omega
          · have ev : (x : Int) / 256 % 256 = (((by4 x).getD 2 0 : Nat) : Int) := by
              simp only [by4, List.getD, List.getElem?_cons_zero, List.getElem?_cons_succ, Option.getD_some]; omega
            rw [← Hg.out] at ev
            generalize (dig S).getD i 0 = y at *
            go_wp2
            go_roundw
            case rel =>
              first | rw [ev] | skip
              exact ⟨i + 1, by omega, by go_num, by rw [← Hst.out]; exact ho.set_ i y, (Below.heap_setCell wr ⟨g9, i, none⟩ _ w.heap.size (fun e => hgo e.symm)).trans hR, hH.other (p := ⟨g9, i, none⟩) hgo2 _, hB.setCell (p := ⟨g9, i, none⟩) hgo3 _⟩
            case measure => simp [intOf]; omega
          · have ev : (x : Int) % 256 = (((by4 x).getD 3 0 : Nat) : Int) := by
              simp only [by4, List.getD, List.getElem?_cons_zero, List.getElem?_cons_succ, Option.getD_some]; omega
            rw [← Hg.out] at ev
            generalize (dig S).getD i 0 = y at *
            go_wp2
            go_roundw
            case rel =>
              first | rw [ev] | skip
              exact ⟨i + 1, by omega, by go_num, by rw [← Hst.out]; exact ho.set_ i y, (Below.heap_setCell wr ⟨g9, i, none⟩ _ w.heap.size (fun e => hgo e.symm)).trans hR, hH.other (p := ⟨g9, i, none⟩) hgo2 _, hB.setCell (p := ⟨g9, i, none⟩) hgo3 _⟩
            case measure => simp [intOf]; omega
        · have e : i = 32 := by omega
          subst e
          rw [List.take_of_length_le (Nat.le_of_eq (length_dig _)), ← HDS.out] at ho
          have hDl : (bs D).length = 32 := by rw [HDS.out, length_bs, length_dig]
          have HDl := Lib.hid hDl
          have ho2 : Bb wr g9 111 D := by simpa using ho
          rw [show ((32 : Nat) : Int) = 32 from rfl]
          clear ho hH h32 hDl
          go_wp2_with (first
            | (refine wpList_load_row rfl 111 (.tmp 16) rfl g9 rfl 111 (bs D).toArray (0, 0) _ ho2 Tryz.underlying111 rfl (by rw [List.size_toArray, HDl.out]; kernel_rfl) ?_)
            | (refine wpList_store_row rfl rfl 111 (.tmp 2) (.tmp 168) rfl w.heap.size rfl (bs D) rfl 111 _ hR (bs_one _) (by rw [HDl.out]; simp [bs]) (by rw [HDl.out]; kernel_rfl) ?_))
          have hr1 := setRow_heap wr w.heap.size _ (bs D).toArray 111 (0, 0) hR
          exact bodyPost_ret (v := .agg (bs D).toArray) (results_cell_row rfl _ _ w.heap.size 111 _ (0, 0) _ rfl hr1 Tryz.underlying111 rfl (by rw [List.size_toArray, HDl.out]; kernel_rfl)) rfl ⟨rfl, below_setRow hB (Nat.le_refl _) _⟩
end Go.Proofs.YtkeejhkjbmegkaaGreatDoor.Sh
namespace Go.Proofs.YtkeejhkjbmegkaaGreatDoor.Sh
open Go.RowKit
set_option linter.unusedVariables false
set_option maxRecDepth 100000

theorem conv_zero (A : Option Addr) (c : Nat) (w : World) : (convert 25 9 (.slice A 0 c)).run Tryz.prog w = .ok (.string (bstr [])) w := by
  cases A <;> rfl
theorem conv_any {w : World} {B n c : Nat} {A : Option Addr} {xs : List Nat} (h : Nb w B A n c xs) : (convert 25 9 (.slice A n c)).run Tryz.prog w = .ok (.string (bstr xs)) w := by
  by_cases h0 : n = 0
  · subst h0
    rw [List.eq_nil_of_length_eq_zero h.len]
    exact conv_zero A c w
  · obtain ⟨b, off, rfl, _⟩ := h.cell (by omega)
    exact conv_nb h
theorem eq_self (S : ByteArray) : (S.toList == S.toList) = true := by simp
end Go.Proofs.YtkeejhkjbmegkaaGreatDoor.Sh
namespace Go.Proofs.YtkeejhkjbmegkaaGreatDoor.Sh
open Go.RowKit
set_option linter.unusedVariables false
set_option maxRecDepth 100000

theorem by4_lim (k : Nat) : Lim 256 (by4 k) := by
  intro x hx
  simp only [by4, List.mem_cons, List.not_mem_nil, or_false] at hx
  omega

end Go.Proofs.YtkeejhkjbmegkaaGreatDoor.Sh
namespace Go.Proofs.YtkeejhkjbmegkaaGreatDoor.Sh
open Go.RowKit
set_option linter.unusedVariables false
set_option maxRecDepth 100000

theorem take_next (D : List Nat) (k : Nat) (h : k < D.length) : D.take (k + 1) = D.take k ++ [D.getD k 0] := by
  rw [List.take_succ_eq_append_getElem h]
  simp [List.getD, List.getElem?_eq_getElem h]
theorem rslice_any (D : List Nat) (hD : D.length = 32) (hL : Lim 256 D) (w : World) : Calls Tryz.prog 133 #[.agg (bs D).toArray] w fun e w' => ∃ A' c', e = .returned (.slice A' 32 c') ∧ Nb w' w'.heap.size A' 32 c' D ∧ Below w.heap.size w w' := by
  have x0 : Bb (w.alloc (Yb 111 D)) w.heap.size 111 D := alloc_bb w 111 D
  have b0 : Below w.heap.size w (w.alloc (Yb 111 D)) := (Below.refl _ _).alloc (Nat.le_refl _) _
  have s0 : (w.alloc (Yb 111 D)).heap.size = w.heap.size + 1 := by simp
  obtain ⟨w1, hw1⟩ : ∃ w1, w.alloc (Yb 111 D) = w1 := ⟨_, rfl⟩
  rw [hw1] at x0 b0 s0
  have gn := Gb.nil w1 w1.heap.size
  have HW := Lib.hid hw1
  have HD := Lib.hid hD
  have HN := Lib.hid (take_next D)
  have hlt : w.heap.size < w1.heap.size := by omega
  clear hw1 hD s0
  go_enter Tryz.func133, Tryz.ntmps133
  go_wp2
  change Code.wp _ _ _ _ (w.alloc (Yb 111 D))
  rw [HW.out]
  clear HW
  go_loopw [4, 3] (fun i v wr => ∃ k : Nat, k ≤ 32 ∧ i = .int .i64 k ∧ ∃ A c, v = .slice A k c ∧ Gb wr w1.heap.size A k c (D.take k) ∧ Below w1.heap.size w1 wr) (fun i _ _ => 32 - (intOf i).toNat)
  case atStart => exact ⟨0, by omega, rfl, none, 0, rfl, by simpa using gn, Below.refl _ _⟩
  case round =>
    obtain ⟨k, hk, rfl, A5, c5, rfl, hG, hB⟩ := hrel
    have hs := hB.size
    by_cases h32 : k < 32
    · have r1 := (x0.below hB hlt).cellD (j := k) (by rw [HD.out]; exact h32)
      have Hn := Lib.hid (HN.out k (by rw [HD.out]; exact h32))
      generalize D.getD k 0 = y at *
      have hG' := hG.alloc (.cells #[.int .u8 (y : Int)] 5)
      have hB' := hB.alloc hs (.cells #[.int .u8 (y : Int)] 5)
      have hc := cell_new wr (.int .u8 (y : Int)) 5
      go_wp2_with (refine wpList_app_b _ rfl (.tmp 9) (.tmp 13) rfl rfl hG' rfl hc (by omega) hB' (by simp; omega) ?_; intro A7 c7 w7 hG7 hB7)
      go_roundw
      case rel => exact ⟨k + 1, by omega, by go_num, A7, c7, rfl, by rw [Hn.out]; exact hG7, hB7⟩
      case measure => simp [intOf]; omega
    · have e : k = 32 := by omega
      subst e
      rw [List.take_of_length_le (Nat.le_of_eq HD.out)] at hG
      have HNb := Lib.hid (hG.nb hL)
      clear hG h32
      go_wp2
      go_ret
      exact ⟨_, _, rfl, HNb.out, b0.trans (hB.mono (by omega))⟩
theorem rtrunc_out (A : Option Addr) (n c : Nat) (m : Int) (h : m < 0 ∨ 32 < m) (w : World) : Calls Tryz.prog 88 #[.slice A n c, .int .i64 m] w fun e w' => e = .returned (.tuple #[.slice none 0 0, .int .i64 1]) ∧ w = w' := by
  by_cases h1 : m < 0
  · go_enter Tryz.func88, Tryz.ntmps88
    go_wp2
    go_ret2
    exact ⟨rfl, rfl⟩
  · have h2 : 32 < m := by omega
    go_enter Tryz.func88, Tryz.ntmps88
    go_wp2
    go_ret2
    exact ⟨rfl, rfl⟩
theorem trunc_out (A : Option Addr) (n c : Nat) (m : Int) (h : m < 0 ∨ 32 < m) (w : World) : Calls Tryz.prog 84 #[.slice A n c, .int .i64 m] w fun e w' => e = .returned (.tuple #[.slice none 0 0, .int .i64 1]) ∧ w = w' := by
  by_cases h1 : m < 0
  · go_enter Tryz.func84, Tryz.ntmps84
    go_wp2
    go_ret2
    exact ⟨rfl, rfl⟩
  · have h2 : 32 < m := by omega
    go_enter Tryz.func84, Tryz.ntmps84
    go_wp2
    go_ret2
    exact ⟨rfl, rfl⟩
theorem rtrunc_in {w : World} {A : Option Addr} {n c : Nat} {xs : List Nat} (hx : Nb w w.heap.size A n c xs) (hn : n ≤ 1000000) (m : Nat) (hm : m ≤ 32) :
    Calls Tryz.prog 88 #[.slice A n c, .int .i64 (m : Int)] w fun e w' => ∃ A' c', e = .returned (.tuple #[.slice A' m c', .int .i64 0]) ∧ Nb w' w'.heap.size A' m c' ((sha xs).take m) ∧ Below w.heap.size w w' := by
  have hr := hx.room
  have hl := length_sha xs
  have hL := sha_lim xs
  have H := Lib.hid (rsum_any hx hn)
  obtain ⟨D, hD⟩ : ∃ D, sha xs = D := ⟨_, rfl⟩
  rw [hD] at hl hL H ⊢
  have HS := Lib.hid (rslice_any D hl hL)
  clear hD hl
  go_enter Tryz.func88, Tryz.ntmps88
  go_wp2_with fail
  refine H.out.mono ?_
  rintro e w1 ⟨rfl, b1⟩
  go_wp2_with fail
  refine (HS.out _).mono ?_
  rintro e w2 ⟨A2, c2, rfl, n2, b2⟩
  have B2 := then_ b1 b2
  obtain ⟨A3, c3, q3, n3⟩ := cut_h n2 m hm
  clear b1 b2 n2
  go_wp2_with fail
  go_ret2
  exact ⟨_, _, rfl, n3, B2⟩
end Go.Proofs.YtkeejhkjbmegkaaGreatDoor.Sh
