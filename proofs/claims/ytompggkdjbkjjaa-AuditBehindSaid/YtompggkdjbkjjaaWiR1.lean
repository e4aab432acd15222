/- wire: parts of bytes, and the numbers that they tell. -/
import Derived.Test.YtompggkdjbkjjaaWiW1
import Derived.Laws.BitsAllLaws
namespace Go.Proofs.Ytompggkdjbkjjaa.Wi
open Go.RowKit
set_option linter.unusedVariables false
set_option maxRecDepth 100000
theorem addr_add (g off j : Nat) : (⟨g, off, none⟩ : Addr).add j = ⟨g, off + j, none⟩ := by
  unfold Addr.add
  split
  · simp_all
  · rfl
/-- the address of a part -/
def pa (A : Option Addr) (c i : Nat) : Option Addr := if c = i then A else A.map fun a => a.add i
theorem sl_both (A : Option Addr) (n c i j : Nat) (k k' : IntKind) (h1 : i ≤ j) (h2 : j ≤ c) (W : World) : (Instr.slice 52 (.slice A n c) (some (.int k (i : Int))) (some (.int k' (j : Int))) none).run Try.prog W = .ok (.slice (pa A c i) (j - i) (c - i)) W := by
  have hz : (Go.sizeOf 5).run Try.prog W = .ok 1 W := by kernel_rfl
  simp [Instr.slice, run_underlying Try.underlying52, Instr.sliceBounds, Instr.sliceBound, asIntOf, h1, h2, hz, pa]
theorem sl_from (A : Option Addr) (n c i : Nat) (k : IntKind) (h1 : i ≤ n) (W : World) : (Instr.slice 52 (.slice A n c) (some (.int k (i : Int))) none none).run Try.prog W = .ok (.slice (pa A c i) (n - i) (c - i)) W := by
  have hz : (Go.sizeOf 5).run Try.prog W = .ok 1 W := by kernel_rfl
  simp [Instr.slice, run_underlying Try.underlying52, Instr.sliceBounds, Instr.sliceBound, asIntOf, h1, hz, pa]
theorem sl_to (A : Option Addr) (n c j : Nat) (k' : IntKind) (h2 : j ≤ c) (W : World) : (Instr.slice 52 (.slice A n c) none (some (.int k' (j : Int))) none).run Try.prog W = .ok (.slice (pa A c 0) j c) W := by
  have hz : (Go.sizeOf 5).run Try.prog W = .ok 1 W := by kernel_rfl
  simp [Instr.slice, run_underlying Try.underlying52, Instr.sliceBounds, Instr.sliceBound, asIntOf, h2, hz, pa]
theorem sl_at (A : Option Addr) (n c : Nat) (lo hi : Option Value) (W : World) : (Instr.sliceAt 52 (.slice A n c) lo hi none).run Try.prog W = (Instr.slice 52 (.slice A n c) lo hi none).run Try.prog W := run_sliceAt_slice W 52 _ _ _ _ Try.underlying52
theorem pa_zero (A : Option Addr) (c : Nat) (h : ∀ ad, A = some ad → ∃ g off, ad = ⟨g, off, none⟩) : pa A c 0 = A := by
  unfold pa
  split
  · rfl
  · cases A with
    | none => rfl
    | some ad => obtain ⟨g, off, rfl⟩ := h ad rfl; simp [addr_add]
theorem Nb.part {w : World} {B n c : Nat} {A : Option Addr} {xs : List Nat} (h : Nb w B A n c xs) (i j : Nat) (h1 : i ≤ j) (h2 : j ≤ n) : Nb w B (pa A c i) (j - i) (c - i) ((xs.drop i).take (j - i)) := by
  have hc := h.cap
  refine ⟨?_, by omega, by have := h.room; omega, fun x hx => h.lim x (List.mem_of_mem_drop (List.mem_of_mem_take hx)), fun h0 => ?_⟩
  · rw [List.length_take, List.length_drop, h.len]; omega
  · obtain ⟨b, off, rfl, hb, hcell⟩ := h.cell (by omega)
    refine ⟨b, off + i, ?_, hb, fun q x hq => ?_⟩
    · unfold pa
      rw [if_neg (by omega)]
      simp [addr_add]
    · rw [List.getElem?_take] at hq
      split at hq
      · rw [List.getElem?_drop] at hq
        have := hcell (i + q) x hq
        rw [show off + i + q = off + (i + q) by omega]
        exact this
      · cases hq
/-- the number of some bytes, the greatest first -/
def num (xs : List Nat) : Nat := xs.foldl (fun n x => n * 256 + x) 0
theorem num_snoc (xs : List Nat) (x : Nat) : num (xs ++ [x]) = num xs * 256 + x := by unfold num; simp
theorem num_lt (xs : List Nat) (h : Lim 256 xs) : num xs < 256 ^ xs.length := by
  have key : ∀ n (xs : List Nat), xs.length = n → Lim 256 xs → num xs < 256 ^ n := by
    intro n
    induction n with
    | zero => intro xs hx _; rw [List.eq_nil_of_length_eq_zero hx]; decide
    | succ n ih =>
      intro xs hx hl
      rcases List.eq_nil_or_concat xs with rfl | ⟨ys, y, rfl⟩
      · cases hx
      · rw [List.concat_eq_append] at hx hl ⊢
        rw [num_snoc]
        have h1 := ih ys (by simpa using hx) (fun z hz => hl z (List.mem_append_left _ hz))
        have h2 := hl y (by simp)
        rw [Nat.pow_succ]
        omega
  exact key _ xs rfl h
theorem num_take {xs : List Nat} {k : Nat} (h : k < xs.length) : num (xs.take (k + 1)) = num (xs.take k) * 256 + xs.getD k 0 := by
  rw [take_next xs k h, num_snoc]
theorem orl_shl (a x : Nat) (h : x < 256) : a <<< 8 ||| x = a * 256 + x := by
  rw [Nat.shiftLeft_eq, show (2 : Nat) ^ 8 = 256 from rfl, Nat.mul_comm]
  exact (Nat.two_pow_add_eq_or_of_lt (i := 8) (by simpa using h) a).symm
theorem pow_le8 {k : Nat} (h : k ≤ 7) : 256 ^ k ≤ 256 ^ 7 := Nat.pow_le_pow_right (by omega) h
theorem or_u8 {k x : Nat} (hk : k < 256 ^ 7) (hx : x < 256) : bits .or .u64 (IntKind.u64.wrap ((k : Int) * 256)) (IntKind.u64.wrap (x : Int)) = ((k * 256 + x : Nat) : Int) := by
  have h7 : (256 : Nat) ^ 7 = 72057594037927936 := by decide
  rw [h7] at hk
  have e1 : IntKind.u64.wrap ((k : Int) * 256) = ((k * 256 : Nat) : Int) := by rw [IntKind.wrap_u64]; omega
  have e2 : IntKind.u64.wrap (x : Int) = (x : Int) := by rw [IntKind.wrap_u64]; omega
  rw [e1, e2]
  rw [u64_or_nat _ _ (by omega) (by omega), ← orl_shl k x hx, Nat.shiftLeft_eq]
set_option maxHeartbeats 1000000 in
theorem number_any {w : World} {B n c : Nat} {A : Option Addr} {xs : List Nat} (h : Nb w B A n c xs) (hn : n ≤ 8) : Calls Try.prog 53 #[.slice A n c] w fun e w' => e = .returned (.int .u64 (num xs : Nat)) ∧ w' = w := by
  have HN := Lib.hid h
  clear h
  go_enter Try.func53, Try.ntmps53
  go_wp2_with fail
  go_loop [3, 8] (fun v i => ∃ j : Nat, j ≤ n ∧ i = .int .i64 (j : Int) ∧ v = .int .u64 ((num (xs.take j) : Nat) : Int)) (fun _ i => (n - (match i with | .int _ z => z.toNat | _ => 0)))
  case atStart => exact ⟨0, by omega, rfl, rfl⟩
  case round =>
    obtain ⟨j, hjn, rfl, rfl⟩ := hrel
    by_cases hj : j < n
    · have e1 : (j : Int) < (n : Int) := by omega
      obtain ⟨b, off, rfl, hb, hc⟩ := HN.out.at_ hj
      have hl : j < xs.length := by have := HN.out.len; omega
      have hx := HN.out.lim.get (by omega : 0 < 256) j
      have HT := Lib.hid (num_take hl)
      have hlim := num_lt (xs.take j) (HN.out.lim.take j)
      rw [List.length_take, Nat.min_eq_left (Nat.le_of_lt hl)] at hlim
      have hk : num (xs.take j) < 256 ^ 7 := Nat.lt_of_lt_of_le hlim (pow_le8 (by omega))
      generalize xs.getD j 0 = x at *
      have HO := Lib.hid (orl_shl (num (xs.take j)) x hx)
      generalize num (xs.take j) = k at *
      have s0 : wrap64 ((j : Int) + 1) = ((j + 1 : Nat) : Int) := by unfold wrap64; omega
      have HJ := Lib.hid hj
      have HX := Lib.hid hx
      have HK := Lib.hid hk
      clear hl hlim hj hx hk
      go_wp2_with fail
      refine ⟨⟨j + 1, HJ.out, by go_num, ?_⟩, by show n - ((j : Int) + 1).toNat < n - (j : Int).toNat; have := HJ.out; omega⟩
      rw [HT.out, or_u8 HK.out HX.out]
    · have e1' : ((j : Int) < (n : Int)) = False := by simp only [eq_iff_iff, iff_false]; omega
      have hall : xs.take j = xs := List.take_of_length_le (by have := HN.out.len; omega)
      rw [hall]
      go_wp2_with fail
      go_ret
      exact ⟨rfl, rfl⟩
theorem pow4 {xs : List Nat} (h : Lim 256 xs) (hl : xs.length ≤ 4) : num xs < 4294967296 :=
  Nat.lt_of_lt_of_le (num_lt xs h) (Nat.le_trans (Nat.pow_le_pow_right (by omega) hl) (by decide))
theorem word_any {w : World} {B n c : Nat} {A : Option Addr} {xs : List Nat} (h : Nb w B A n c xs) (hn : n ≤ 4) : Calls Try.prog 52 #[.slice A n c] w fun e w' => e = .returned (.int .u32 (num xs : Nat)) ∧ w' = w := by
  have HN := Lib.hid (number_any h (by omega))
  have hl := pow4 h.lim (by rw [h.len]; exact hn)
  clear h
  generalize num xs = k at *
  have hw : IntKind.u32.wrap (k : Int) = (k : Int) := by rw [IntKind.wrap_u32]; omega
  go_enter Try.func52, Try.ntmps52
  go_wp2_with (go_at_call 53; refine HN.out.mono ?_; rintro e w1 ⟨rfl, rfl⟩)
  go_ret
  exact ⟨by first | rfl | (rw [hw]), rfl⟩
end Go.Proofs.Ytompggkdjbkjjaa.Wi
