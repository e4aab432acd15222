/- sha.padding. -/
import Derived.Test.YtonfpomgkgljiaaDoorDigest
namespace Go.Proofs.YtonfpomgkgljiaaDoor
open Go.RowKit
set_option linter.unusedVariables false
set_option maxRecDepth 100000

theorem Tryd.info5 : (Tryd.prog.info? 5).map (fun i => (i.zero, i.size, i.bytes)) = some (some (.int .u8 0), 1, 1) := by kernel_rfl
theorem bs_replicate (n : Nat) : bs (List.replicate n 0) = List.replicate n (.int .u8 0) := by simp [bs]
theorem run_make_bs (n : Nat) (hn : n ≤ 70368744177664) (w : World) : (Instr.makeSlice 23 (.int .i64 (n : Int)) (.int .i64 (n : Int))).run Tryd.prog w =
    .ok (.slice (some ⟨w.heap.size, 0, none⟩) n n) (w.alloc (Yb 5 (List.replicate n 0))) := by
  obtain ⟨i0, hi, hz0, hz1, hz2⟩ := info_parts Tryd.info5
  have hr := run_make (P := Tryd.prog) w 23 5 i0 (.int .u8 0) Tryd.underlying23 hi hz0 .i64 .i64 n n (by omega) (Int.le_refl _) (by rw [hz2]; omega) (by omega)
  simp only [Int.toNat_natCast] at hr
  rw [hr, hz1, Nat.mul_one]
  have : (madeCells (Value.int .u8 0).cells n) = (bs (List.replicate n 0)).toArray := by
    rw [bs_replicate]
    apply Array.ext'
    exact toList_madeCells_one _ _
  rw [this]
  rfl
theorem wpList_make_bs (w : World) {ops : Array Oper} {rest : List Oper} {o : Oper} {a : Act} {Q : Exit → Act → World → Prop}
    (hg : o.guard = none) (l c : Operand) (hop : o.op = Op.makeSlice 23 l c) (L C : Int) (n : Nat) (hl : a.eval l = .int .i64 L) (hc : a.eval c = .int .i64 C) (hL : L = (n : Int)) (hC : C = (n : Int)) (hn : n ≤ 70368744177664)
    (hK : ∀ w', Bb w' w.heap.size 5 (List.replicate n 0) → Below w.heap.size w w' → wpList Tryd.prog ops Q rest (a.put o.dst (.slice (some ⟨w.heap.size, 0, none⟩) n n)) w') :
    wpList Tryd.prog ops Q (o :: rest) a w := by
  refine wpList_plain hg fun K hK' => ?_
  have hrun := run_make_bs n hn w
  subst hL
  subst hC
  unfold Oper.wp
  simp [execOp, hop, hl, hc, hrun, Result.andThen]
  exact hK' _ _ (hK _ (alloc_bb _ _ _) ((Below.refl _ _).alloc (Nat.le_refl _) _))

/-- the padding, as far as k of the last eight bytes are laid from behind -/
def padN (n k : Nat) : List Nat := 128 :: (List.replicate ((119 - n % 64) % 64) 0 ++ (List.replicate (8 - k) 0 ++ (by8 (8 * n)).drop (8 - k)))
theorem padN_all (n : Nat) : padN n 8 = pad n := rfl
theorem padN_zero (n : Nat) : padN n 0 = (List.replicate (9 + (119 - n % 64) % 64) 0).set 0 128 := by
  unfold padN
  rw [show 9 + (119 - n % 64) % 64 = ((119 - n % 64) % 64 + 8) + 1 by omega, List.replicate_succ (n := (119 - n % 64) % 64 + 8), List.set_cons_zero, List.replicate_append_replicate.symm]
  rfl
theorem length_padN (n k : Nat) (hk : k ≤ 8) : (padN n k).length = 9 + (119 - n % 64) % 64 := by
  simp [padN, by8]; omega
theorem padN_succ (n k : Nat) (hk : k < 8) : (padN n k).set (8 + (119 - n % 64) % 64 - k) ((by8 (8 * n)).getD (7 - k) 0) = padN n (k + 1) := by
  unfold padN
  obtain ⟨z, hz⟩ : ∃ z, (119 - n % 64) % 64 = z := ⟨_, rfl⟩
  rw [hz, show 8 + z - k = (z + (7 - k)) + 1 by omega, List.set_cons_succ, List.set_append, if_neg (by simp), List.length_replicate, show z + (7 - k) - z = 7 - k by omega]
  have hh : k = 0 ∨ k = 1 ∨ k = 2 ∨ k = 3 ∨ k = 4 ∨ k = 5 ∨ k = 6 ∨ k = 7 := by omega
  rcases hh with rfl | rfl | rfl | rfl | rfl | rfl | rfl | rfl <;> rfl
theorem by8_get (N k : Nat) (hk : k < 8) : (N : Int) / 2 ^ (8 * k) % 256 = (((by8 N).getD (7 - k) 0 : Nat) : Int) := by
  have hh : k = 0 ∨ k = 1 ∨ k = 2 ∨ k = 3 ∨ k = 4 ∨ k = 5 ∨ k = 6 ∨ k = 7 := by omega
  rcases hh with rfl | rfl | rfl | rfl | rfl | rfl | rfl | rfl <;> simp [by8]
theorem pad_lim (n : Nat) : Lim 256 (pad n) := by
  intro x hx
  unfold pad at hx
  simp only [List.mem_cons, List.mem_append, List.mem_replicate, by8, List.not_mem_nil, or_false] at hx
  omega

theorem padding_any (n : Nat) (hn : n ≤ 1099511627776) (w : World) : Calls Tryd.prog 43 #[.int .i64 (n : Int)] w fun e w' => ∃ g, e = .returned (.slice (some ⟨g, 0, none⟩) (9 + (119 - n % 64) % 64) (9 + (119 - n % 64) % 64)) ∧ w.heap.size ≤ g ∧ Bb w' g 5 (pad n) ∧ Below w.heap.size w w' := by
  obtain ⟨z, hz⟩ : ∃ z, (119 - n % 64) % 64 = z := ⟨_, rfl⟩
  rw [hz]
  have ez : (119 - (n : Int) % 64) % 64 = (z : Int) := by omega
  have hz64 : z < 64 := by omega
  have Hz := Lib.hid hz
  clear hz
  go_enter Tryd.func43, Tryd.ntmps43
  go_wp2_with (refine wpList_make_bs _ rfl (.tmp 13) (.tmp 13) rfl _ _ (9 + z) rfl rfl (by omega) (by omega) (by omega) ?_; intro w1 hm hb1; have hc0 := hm.cell (j := 0) (x := 0) (by rw [List.getElem?_replicate, if_pos (by omega)]); have hf0 := hm.frozen 0)
  have hm2 := hm.set_ 0 128
  have hB2 := hb1.setCell (p := ⟨w.heap.size, 0, none⟩) (Nat.le_refl _) (.int .u8 (128 : Nat))
  rw [← Hz.out, ← padN_zero] at hm2
  change Bb (w1.setCell ⟨w.heap.size, 0, none⟩ (.int .u8 128)) _ _ _ at hm2
  change Below _ _ (w1.setCell ⟨w.heap.size, 0, none⟩ (.int .u8 128)) at hB2
  generalize w1.setCell ⟨w.heap.size, 0, none⟩ (.int .u8 128) = w2 at *
  clear hm hb1 hc0 hf0
  go_loopw [20] (fun i wr => ∃ k : Nat, k ≤ 8 ∧ i = .int .i64 k ∧ Bb wr w.heap.size 5 (padN n k) ∧ Below w.heap.size w wr) (fun i _ => 8 - (intOf i).toNat)
  case atStart => exact ⟨0, by omega, rfl, hm2, hB2⟩
  case round =>
    clear hm2 hB2
    obtain ⟨k, hk, rfl, hm, hB⟩ := hrel
    by_cases hlt : k < 8
    · have hl := length_padN n k hk
      rw [Hz.out] at hl
      have hc := hm.cellD (j := 8 + z - k) (by omega)
      have hf := hm.frozen (8 + z - k)
      have Hs := Lib.hid (padN_succ n k hlt)
      have Hg := Lib.hid (by8_get (8 * n) k hlt)
      have h8 : (8 * (k : Int)).toNat = 8 * k := by omega
      have h9 : (↑9 + ↑z - 1 - (k : Int)).toNat = 8 + z - k := by omega
      clear hl
      go_wp2
      go_roundw
      case rel =>
        refine ⟨k + 1, by omega, by go_num, ?_, hB.setCell (p := ⟨w.heap.size, 8 + z - k, none⟩) (Nat.le_refl _) _⟩
        have e : (n : Int) * 8 = ((8 * n : Nat) : Int) := by omega
        rw [e, Hg.out, ← Hs.out, Hz.out]
        exact hm.set_ _ _
      case measure => simp [intOf]; omega
    · have hf : Bb wr w.heap.size 5 (pad n) := by
        rw [show k = 8 by omega, padN_all] at hm
        exact hm
      have hge : 8 ≤ k := by omega
      clear hlt hm
      go_wp2
      go_ret
      exact ⟨w.heap.size, rfl, Nat.le_refl _, hf, hB⟩
end Go.Proofs.YtonfpomgkgljiaaDoor
