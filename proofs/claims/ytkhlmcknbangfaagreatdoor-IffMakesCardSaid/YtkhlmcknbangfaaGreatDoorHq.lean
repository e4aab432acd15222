/- prime: a number's binary digits in its bytes. No program but the rows of bytes. bytes.Repeat of one byte. pkey: framed, signed, work, fits. prime: setDigit, candidate. prime: candidate. -/
import Derived.Test.YtkhlmcknbangfaaGreatDoorRd
import Derived.Test.YtkhlmcknbangfaaGreatDoorSmall
import Derived.Test.YtkhlmcknbangfaaGreatDoorPk
import Derived.Test.YtkhlmcknbangfaaGreatDoorMul64
import Derived.Lib.MakeNoZero
import Derived.Deep.RegionLawGrows
import Derived.Laws.CopyOwn
import Derived.Laws.Externs
import Derived.Deep.RegionHeld3
namespace Go.Proofs.YtkhlmcknbangfaaGreatDoor
open Go.RowKit
set_option linter.unusedVariables false
set_option maxRecDepth 100000
theorem tb_val : ∀ zs : List Nat, Lim 256 zs → ∀ i, (val 256 zs).testBit i = (zs.getD (i / 8) 0).testBit (i % 8)
  | [], _, i => by simp [val]
  | z :: zs, h, i => by
    have hz : z < 2 ^ 8 := h z (by simp)
    have ih := tb_val zs (fun x hx => h x (by simp [hx]))
    rw [val, Nat.add_comm, show (256 : Nat) = 2 ^ 8 from rfl, Nat.testBit_two_pow_mul_add _ hz]
    split
    · rw [show i / 8 = 0 by omega, show i % 8 = i by omega]; rfl
    · rw [ih, show i / 8 = (i - 8) / 8 + 1 by omega, show i % 8 = (i - 8) % 8 by omega]; simp
theorem lim_set {zs : List Nat} (h : Lim 256 zs) (k : Nat) {x : Nat} (hx : x < 256) : Lim 256 (zs.set k x) := by
  intro y hy
  rcases List.mem_or_eq_of_mem_set hy with h1 | h1
  · exact h y h1
  · omega
theorem or_lt {x r : Nat} (hx : x < 256) (hr : r < 8) : x ||| 2 ^ r < 256 := Nat.or_lt_two_pow (n := 8) hx (Nat.pow_lt_pow_right (by omega) hr)
theorem getD_set (zs : List Nat) (k j x : Nat) (hk : k < zs.length) : (zs.set k x).getD j 0 = if k = j then x else zs.getD j 0 := by
  simp only [List.getD_eq_getElem?_getD, List.getElem?_set]
  by_cases h : k = j
  · subst h; simp [hk]
  · simp [h]
theorem val_or {zs : List Nat} (h : Lim 256 zs) {k r : Nat} (hk : k < zs.length) (hr : r < 8) (hx : zs.getD k 0 < 256) : val 256 (zs.set k (zs.getD k 0 ||| 2 ^ r)) = val 256 zs ||| 2 ^ (8 * k + r) := by
  refine Nat.eq_of_testBit_eq fun i => ?_
  rw [tb_val _ (lim_set h k (or_lt hx hr)), Nat.testBit_or, tb_val _ h, Nat.testBit_two_pow, getD_set _ _ _ _ hk]
  split
  · rename_i e
    rw [Nat.testBit_or, Nat.testBit_two_pow, ← e]
    congr 1
    rw [decide_eq_decide]
    omega
  · rename_i e
    rw [show decide (8 * k + r = i) = false from decide_eq_false (by omega), Bool.or_false]
theorem val_mask {zs : List Nat} (h : Lim 256 zs) {m : Nat} (hl : 0 < zs.length) (hm : m ≤ 8) : val 256 (zs.set (zs.length - 1) (zs.getD (zs.length - 1) 0 % 2 ^ m)) = val 256 zs % 2 ^ (8 * (zs.length - 1) + m) := by
  have hx : zs.getD (zs.length - 1) 0 < 256 := by
    rw [List.getD_eq_getElem?_getD, List.getElem?_eq_getElem (by omega)]
    exact h _ (List.getElem_mem _)
  refine Nat.eq_of_testBit_eq fun i => ?_
  rw [tb_val _ (lim_set h _ (Nat.lt_of_le_of_lt (Nat.mod_le _ _) hx)), Nat.testBit_mod_two_pow, tb_val _ h, getD_set _ _ _ _ (by omega)]
  split
  · rename_i e
    rw [Nat.testBit_mod_two_pow, ← e]
    congr 1
    rw [decide_eq_decide]
    omega
  · rename_i e
    rcases Nat.lt_or_ge (i / 8) zs.length with h1 | h1
    · rw [show decide (i < 8 * (zs.length - 1) + m) = true from decide_eq_true (by omega), Bool.true_and]
    · rw [List.getD_eq_getElem?_getD, List.getElem?_eq_none h1]
      simp
/-- the greatest byte first -/
def nb (bs : List Nat) : Nat := val 256 bs.reverse
theorem rev_set (bs : List Nat) (k x : Nat) (hk : k < bs.length) : (bs.set (bs.length - 1 - k) x).reverse = bs.reverse.set k x := by
  refine List.ext_getElem? fun i => ?_
  rw [List.getElem?_set]
  rcases Nat.lt_or_ge i bs.length with h | h
  · rw [List.getElem?_reverse (by simpa using h), List.length_set, List.getElem?_set, List.getElem?_reverse h, List.length_reverse]
    by_cases e : k = i
    · subst e
      rw [if_pos rfl, if_pos (by omega), if_pos rfl, if_pos h]
    · rw [if_neg (by omega), if_neg e]
  · rw [List.getElem?_eq_none (by simpa using h), if_neg (by omega), List.getElem?_eq_none (by simpa using h)]
theorem getD_rev (bs : List Nat) (k : Nat) (hk : k < bs.length) : bs.reverse.getD k 0 = bs.getD (bs.length - 1 - k) 0 := by
  simp only [List.getD_eq_getElem?_getD, List.getElem?_reverse hk]
theorem nb_or {bs : List Nat} (h : Lim 256 bs) {i : Nat} (hi : i / 8 < bs.length) : nb (bs.set (bs.length - 1 - i / 8) (bs.getD (bs.length - 1 - i / 8) 0 ||| 2 ^ (i % 8))) = nb bs ||| 2 ^ i ∧ Lim 256 (bs.set (bs.length - 1 - i / 8) (bs.getD (bs.length - 1 - i / 8) 0 ||| 2 ^ (i % 8))) := by
  have hx : bs.getD (bs.length - 1 - i / 8) 0 < 256 := by
    rw [List.getD_eq_getElem?_getD, List.getElem?_eq_getElem (by omega)]
    exact h _ (List.getElem_mem _)
  refine ⟨?_, lim_set h _ (or_lt hx (Nat.mod_lt _ (by omega)))⟩
  have hr : Lim 256 bs.reverse := fun x hx => h x (List.mem_reverse.1 hx)
  unfold nb
  rw [rev_set bs _ _ hi, ← getD_rev bs _ hi, val_or hr (by simpa using hi) (Nat.mod_lt _ (by omega)) (by rw [getD_rev bs _ hi]; exact hx), Nat.div_add_mod]
theorem nb_mask {bs : List Nat} (h : Lim 256 bs) {m : Nat} (hl : 0 < bs.length) (hm : m ≤ 8) : nb (bs.set 0 (bs.getD 0 0 % 2 ^ m)) = nb bs % 2 ^ (8 * (bs.length - 1) + m) ∧ Lim 256 (bs.set 0 (bs.getD 0 0 % 2 ^ m)) := by
  have hx : bs.getD 0 0 < 256 := by
    rw [List.getD_eq_getElem?_getD, List.getElem?_eq_getElem (by omega)]
    exact h _ (List.getElem_mem _)
  refine ⟨?_, lim_set h _ (Nat.lt_of_le_of_lt (Nat.mod_le _ _) hx)⟩
  have hr : Lim 256 bs.reverse := fun x hx => h x (List.mem_reverse.1 hx)
  unfold nb
  have e := val_mask hr (m := m) (by simpa using hl) hm
  rw [List.length_reverse] at e
  rw [← e]
  have e2 := rev_set bs (bs.length - 1) (bs.getD 0 0 % 2 ^ m) (by omega)
  rw [show bs.length - 1 - (bs.length - 1) = 0 by omega] at e2
  rw [e2, getD_rev bs _ (by omega), show bs.length - 1 - (bs.length - 1) = 0 by omega]
/-- the highest digits are set -/
def sets (V d : Nat) : Nat → Nat
  | 0 => V
  | k + 1 => sets V d k ||| 2 ^ (d - 1 - k)
/-- a candidate of a number of drawn bytes -/
def candV (V d s : Nat) : Nat := sets (V % 2 ^ d ||| 1) d s
theorem sets_lt {V d : Nat} (h : V < 2 ^ d) : ∀ k, k ≤ d → sets V d k < 2 ^ d
  | 0, _ => h
  | k + 1, hk => Nat.or_lt_two_pow (sets_lt h k (by omega)) (Nat.pow_lt_pow_right (by omega) (by omega))
theorem sets_bit (V d : Nat) : ∀ k i, V.testBit i = true → (sets V d k).testBit i = true
  | 0, i, h => h
  | k + 1, i, h => by rw [sets, Nat.testBit_or, sets_bit V d k i h, Bool.true_or]
theorem cand_facts {V d s : Nat} (hd : 1 ≤ d) (hs : s ≤ d) : candV V d s < 2 ^ d ∧ candV V d s % 2 = 1 ∧ ∀ k, k < s → (candV V d s).testBit (d - 1 - k) = true := by
  unfold candV
  have h0 : V % 2 ^ d ||| 1 < 2 ^ d := Nat.or_lt_two_pow (Nat.mod_lt _ (Nat.two_pow_pos d)) (Nat.one_lt_two_pow (by omega))
  refine ⟨sets_lt h0 s hs, ?_, ?_⟩
  · have := sets_bit (V % 2 ^ d ||| 1) d s 0 (by rw [Nat.testBit_or]; simp)
    rw [Nat.testBit_zero] at this
    simpa using this
  · generalize V % 2 ^ d ||| 1 = U
    intro k hk
    induction s with
    | zero => omega
    | succ s ih =>
      rw [sets, Nat.testBit_or]
      rcases Nat.lt_or_ge k s with h | h
      · rw [ih (by omega) h, Bool.true_or]
      · rw [show k = s by omega, Nat.testBit_two_pow_self, Bool.or_true]
theorem cand_bl {V d s : Nat} (hd : 1 ≤ d) (hs : 1 ≤ s) (hsd : s ≤ d) : bl (candV V d s) = d := by
  obtain ⟨h1, _, h3⟩ := cand_facts (V := V) hd hsd
  have h4 : 2 ^ (d - 1) ≤ candV V d s := Nat.ge_two_pow_of_testBit (h3 0 (by omega))
  unfold bl
  have h0 : candV V d s ≠ 0 := fun e => by rw [e] at h4; have := Nat.two_pow_pos (d - 1); omega
  rw [if_neg h0]
  have h5 := (Nat.le_log2 h0).2 h4
  have h6 := (Nat.log2_lt h0).2 h1
  omega
end Go.Proofs.YtkhlmcknbangfaaGreatDoor
namespace Go.Proofs.YtkhlmcknbangfaaGreatDoor
open Go.RowKit
set_option linter.unusedVariables false
set_option maxRecDepth 100000

set_option maxHeartbeats 1000000 in
theorem mul1_any (n : Nat) (hn : n ≤ 1000) (w : World) : Calls Tryz.prog 169 #[.int .u64 1, .int .u64 (n : Int)] w fun e w' => e = .returned (.tuple #[.int .u64 0, .int .u64 (n : Int)]) ∧ w = w' := by
  have hm := mul64_any 1 n (by omega) (by omega) w
  have e1 : mhi 1 n = 0 := by unfold mhi; omega
  have e2 : mlo 1 n = n := by unfold mlo; omega
  rw [e1, e2] at hm
  have Hm := Lib.hid hm
  clear hm
  go_enter Tryz.func169, Tryz.ntmps169
  go_wp2_with fail
  refine Hm.out.mono ?_
  rintro e w1 ⟨rfl, rfl⟩
  go_wp2_with fail
  go_ret2
  exact ⟨rfl, rfl⟩
theorem elem22 : Tryz.prog.elem 32 = 5 := by kernel_rfl
theorem und22 : Tryz.prog.underlying 32 = some (.slice (Tryz.prog.elem 32)) := by rw [elem22]; exact Tryz.underlying32
theorem size5 (W : World) : (sizeOf (Tryz.prog.elem 32)).run Tryz.prog W = .ok 1 W := by rw [elem22]; kernel_rfl
theorem tail_run (W : World) (g n bp : Nat) (h : bp < n) : (Instr.slice 32 (.slice (some ⟨g, 0, none⟩) n n) (some (.int .i64 (bp : Int))) none none).run Tryz.prog W = .ok (.slice (some ⟨g, bp, none⟩) (n - bp) (n - bp)) W := by
  rw [run_slice_l W 32 _ n n und22 .i64 bp (by omega) (by omega), size5]
  have : ¬ n = bp := by omega
  by_cases h0 : bp = 0
  · subst h0; simp [Result.andThen, sliced, Addr.add]
  · simp [Result.andThen, sliced, Addr.add, this, h0]
theorem head_run (W : World) (g n bp : Nat) (h : bp ≤ n) : (Instr.slice 32 (.slice (some ⟨g, 0, none⟩) n n) none (some (.int .i64 (bp : Int))) none).run Tryz.prog W = .ok (.slice (some ⟨g, 0, none⟩) bp n) W := by
  rw [run_slice_h W 32 _ n n und22 .i64 bp (by omega) (by omega), size5]
  simp [Result.andThen, sliced, Addr.add]
def v255 : Value := .int .u8 255
/-- what holds behind the first bp bytes -/
structure Rp (w wr : World) (g L n bp : Nat) (cur : List Value) : Prop where
  heap : wr.heap[g]? = some (.cells cur.toArray 5 (0, 0))
  len : cur.length = L
  full : cur.take bp = List.replicate bp v255
  b : Below w.heap.size w wr
theorem Rp.at_ {w wr : World} {g L n bp j : Nat} {cur : List Value} (h : Rp w wr g L n bp cur) (hj : j < bp) : wr.cell? ⟨g, j, none⟩ = some v255 := by
  rw [cell_of_row wr g j _ 5 (0, 0) h.heap]
  have h1 : (cur.take bp)[j]? = some v255 := by rw [h.full]; simp [hj]
  rw [List.getElem?_take, if_pos hj] at h1
  simpa using h1
theorem rep_step {cur : List Value} {L bp k : Nat} (hl : cur.length = L) (hf : cur.take bp = List.replicate bp v255) (hk : bp + k ≤ L) : (splice cur bp (List.replicate k v255)).length = L ∧ (splice cur bp (List.replicate k v255)).take (bp + k) = List.replicate (bp + k) v255 := by
  refine ⟨by rw [length_splice _ _ _ (by simp; omega), hl], ?_⟩
  unfold splice
  rw [hf, ← List.append_assoc, List.replicate_append_replicate, List.take_append_of_le_length (by simp), List.take_of_length_le (by simp)]
theorem one255 (k : Nat) : ∀ v ∈ List.replicate k v255, v.oneCell' = true := fun v hv => by
  rw [(List.mem_replicate.1 hv).2]; rfl
set_option maxHeartbeats 4000000 in
theorem repeat_any {w : World} {g : Nat} (hb : w.cell? ⟨g, 0, none⟩ = some (.int .u8 255)) (hg : g < w.heap.size) (n : Nat) (h0 : 0 < n) (hn : n ≤ 1000) :
    Calls Tryz.prog 137 #[.slice (some ⟨g, 0, none⟩) 1 1, .int .i64 (n : Int)] w fun e w' => ∃ g', e = .returned (.slice (some ⟨g', 0, none⟩) n n) ∧ Nb w' w'.heap.size (some ⟨g', 0, none⟩) n n (List.replicate n 255) ∧ Below w.heap.size w w' := by
  have hnz : ((n : Int) == 0) = false := by simp; omega
  obtain ⟨cs, hrunM, hle, _⟩ := Lib.run_makeNoZero (P := Tryz.prog) w #[3] 32 5 Tryz.underlying32 n (by omega)
  have hcall : (callFunc 170 #[.int .i64 (n : Int)]).run Tryz.prog w = .ok (.value (.slice (some ⟨w.heap.size, 0, none⟩) n cs.size)) ((w.alloc (.cells cs 5)).drewN 2) := by
    rw [run_callFunc_extern Tryz.func170 (by kernel_rfl) (by kernel_rfl) (by kernel_rfl) (e := Extern.BytealgMakeNoZero.makeNoZero #[3] #[32]) (by kernel_rfl), hrunM]
    rfl
  clear hrunM
  have i0 : (0 : Int) ≤ (n : Int) := by omega
  have i1 : (n : Int) ≤ (cs.size : Int) := by omega
  obtain ⟨w2, e2⟩ : ∃ w2, w2 = (w.alloc (.cells cs 5)).drewN 2 := ⟨_, rfl⟩
  have hx2 : w2.heap[w.heap.size]? = some (.cells cs.toList.toArray 5 (0, 0)) := by rw [e2]; simpa using heap_alloc_new w (.cells cs 5)
  have b2 : Below w.heap.size w w2 := e2 ▸ below_drewN ((Below.refl _ w).alloc (Nat.le_refl _) _) 2
  have hb2 : w2.cell? ⟨g, 0, none⟩ = some v255 := (b2.cell (p := ⟨g, 0, none⟩) hg).trans hb
  rw [← e2] at hcall
  clear e2
  have hcl : n ≤ cs.toList.length := by simpa using hle
  obtain ⟨L, hL⟩ : ∃ L, cs.toList.length = L := ⟨_, rfl⟩
  rw [hL] at hcl
  have Hb2 := Lib.hid hb2
  have Hx2 := Lib.hid hx2
  have HL := Lib.hid hL
  clear hx2 hb2 hL hb
  go_enter Tryz.func137, Tryz.ntmps137
  go_wp2_with fail
  refine (mul1_any n hn _).mono ?_
  rintro e w1 ⟨rfl, rfl⟩
  go_wp2_with (refine wpList_copy_splice rfl (.tmp 58) (.tmp 59) 32 32 rfl 5 Tryz.underlying32 (by kernel_rfl) (some ⟨w.heap.size, 0, none⟩) (some ⟨g, 0, none⟩) n n 1 1 rfl rfl w.heap.size 0 cs.toList 5 Hx2.out [v255] (by simp only [List.length_singleton, Nat.min_def]; split <;> omega) (fun _ => ⟨rfl, _, rfl, fun j v hj => by
      have hj0 : j = 0 ∧ v = v255 := by
        cases j with
        | zero => simpa using hj.symm
        | succ j => simp at hj
      obtain ⟨rfl, rfl⟩ := hj0
      simpa [Addr.add] using Hb2.out⟩) (by rw [HL.out]; simp; omega) (fun v hv => by simp at hv; subst hv; rfl) w.heap.size w b2 (Nat.le_refl _) ?_; intro w3 hw3 B3)
  have hR0 : Rp w w3 w.heap.size L n 1 (splice cs.toList 0 [v255]) := by
    obtain ⟨l1, l2⟩ := rep_step (k := 1) (bp := 0) HL.out (by simp) (by omega)
    exact ⟨hw3.out, l1, by simpa using l2, B3⟩
  have HR0 := Lib.hid hR0
  clear hR0 hw3 hcall
  go_loopw [10] (fun v wr => ∃ (bp : Nat) (cur : List Value), 1 ≤ bp ∧ bp ≤ n ∧ v = .int .i64 (bp : Int) ∧ Hid (Rp w wr w.heap.size L n bp cur)) (fun v _ => n - (intOf v).toNat)
  case atStart => exact ⟨1, _, by omega, h0, by simp, HR0⟩
  case round =>
    clear HR0 Hx2 Hb2 B3
    obtain ⟨bp, cur, hb1, hbn, rfl, HR⟩ := hrel
    by_cases hlt : bp < n
    · obtain ⟨k, hk⟩ : ∃ k, Nat.min bp (n - bp) = k := ⟨_, rfl⟩
      have hk1 : k ≤ bp := hk ▸ Nat.min_le_left _ _
      have hk2 : k ≤ n - bp := hk ▸ Nat.min_le_right _ _
      have hk0 : 0 < k := by rw [← hk]; exact Nat.lt_min.2 ⟨by omega, by omega⟩
      obtain ⟨l1, l2⟩ := rep_step (k := k) HR.out.len HR.out.full (by omega)
      have L1 := Lib.hid l1
      have L2 := Lib.hid l2
      have HK := Lib.hid hk
      clear l1 l2 hk
      have hmin : min (bp : Int) (n : Int) = (bp : Int) := by omega
      have hsl1 : ∀ W, (Instr.slice 32 (.slice (some ⟨w.heap.size, 0, none⟩) n n) (some (.int .i64 (bp : Int))) none none).run Tryz.prog W = .ok (.slice (some ⟨w.heap.size, bp, none⟩) (n - bp) (n - bp)) W := fun W => tail_run W _ n bp hlt
      have hsl2 : ∀ W, (Instr.slice 32 (.slice (some ⟨w.heap.size, 0, none⟩) n n) none (some (.int .i64 (bp : Int))) none).run Tryz.prog W = .ok (.slice (some ⟨w.heap.size, 0, none⟩) bp n) W := fun W => head_run W _ n bp (by omega)
      go_wp2_with fail
      have HRd : Hid (Rp w wr.drew w.heap.size L n bp cur) := ⟨HR.out.heap, HR.out.len, HR.out.full, HR.out.b.drew⟩
      go_region_law (refine step_copy_splice rfl (.tmp 70) (.tmp 73) 32 32 rfl 5 Tryz.underlying32 (by kernel_rfl) (some ⟨w.heap.size, bp, none⟩) (some ⟨w.heap.size, 0, none⟩) (n - bp) (n - bp) bp n (by simp [Act.eval, Act.put]) (by simp [Act.eval, Act.put]) w.heap.size bp cur 5 HRd.out.heap (List.replicate k v255) (by rw [List.length_replicate]; exact HK.out.symm) (fun _ => ⟨rfl, _, rfl, fun j v hj => by
          obtain ⟨hj1, hj2⟩ : j < k ∧ v = v255 := by
            rw [List.getElem?_replicate] at hj
            split at hj
            · exact ⟨by assumption, by simpa using hj.symm⟩
            · cases hj
          subst hj2
          have := HRd.out.at_ (j := j) (by omega)
          by_cases hj0 : j = 0
          · subst hj0; simpa [Addr.add] using this
          · simpa [Addr.add, hj0] using this⟩) (by rw [HRd.out.len, List.length_replicate]; omega) (one255 k) w.heap.size w HRd.out.b (Nat.le_refl _) ?_; intro w4 hw4 B4)
      all_goals
        have hR4 : Hid (Rp w w4 w.heap.size L n (bp + k) (splice cur bp (List.replicate k v255))) := ⟨hw4.out, L1.out, L2.out, B4⟩
        have hwr : IntKind.i64.wrap ((bp : Int) + (k : Int)) = ((bp + k : Nat) : Int) := by rw [IntKind.wrap_i64]; omega
        go_simp
        go_wp2
        go_roundw
        case rel => exact ⟨bp + k, _, by omega, by omega, by simp, hR4⟩
        case measure => simp only [intOf]; omega
    · have hbn' : bp = n := by omega
      subst hbn'
      go_wp2_with fail
      go_ret
      have hR := HR.out
      refine ⟨_, rfl, ⟨by simp, Nat.le_refl _, by unfold maxLen; omega, ?_, fun _ => ⟨_, 0, rfl, ?_, fun j x hj => ?_⟩⟩, hR.b⟩
      · intro x hx
        rw [(List.mem_replicate.1 hx).2]; omega
      · exact World.block_lt_of_cell? _ _ (hR.at_ (j := 0) (by omega))
      · obtain ⟨hj1, hj2⟩ : j < bp ∧ x = 255 := by
          rw [List.getElem?_replicate] at hj
          split at hj
          · exact ⟨by assumption, by simpa using hj.symm⟩
          · cases hj
        subst hj2
        rw [Nat.zero_add]
        exact hR.at_ hj1
end Go.Proofs.YtkhlmcknbangfaaGreatDoor
namespace Go.Proofs.YtkhlmcknbangfaaGreatDoor
open Go.RowKit
set_option linter.unusedVariables false
set_option maxRecDepth 100000

def vb (xs : List Nat) : List Value := xs.map fun x : Nat => .int .u8 (x : Int)
theorem length_vb (xs : List Nat) : (vb xs).length = xs.length := by simp [vb]
theorem vb_append (xs ys : List Nat) : vb (xs ++ ys) = vb xs ++ vb ys := by simp [vb]
theorem vb_one (xs : List Nat) : ∀ v ∈ vb xs, v.oneCell' = true := fun v hv => by
  simp only [vb, List.mem_map] at hv
  obtain ⟨x, _, rfl⟩ := hv
  rfl
/-- block g is just these bytes -/
theorem Ob.rows {w : World} {g : Nat} {xs : List Nat} (h : w.heap[g]? = some (.cells (vb xs).toArray 5 (0, 0))) : Ob w g xs := h
/-- what is signed: 0, the kind, the filling, 0, the text -/
def frameN (kind : Nat) (fs ts : List Nat) : List Nat := 0 :: kind :: (fs ++ 0 :: ts)
theorem frame_math (fs ts : List Nat) : splice (splice (vb ((List.replicate (3 + fs.length + ts.length) 0).set 1 1)) 2 (vb fs)) (3 + fs.length) (vb ts) = vb (frameN 1 fs ts) := by
  have e : (List.replicate (3 + fs.length + ts.length) 0).set 1 1 = 0 :: 1 :: List.replicate (1 + fs.length + ts.length) 0 := by
    rw [show 3 + fs.length + ts.length = (1 + fs.length + ts.length) + 1 + 1 by omega, List.replicate_succ, List.replicate_succ]
    rfl
  rw [e]
  have e1 : splice (vb (0 :: 1 :: List.replicate (1 + fs.length + ts.length) 0)) 2 (vb fs) = vb (0 :: 1 :: (fs ++ List.replicate (1 + ts.length) 0)) := by
    unfold splice
    rw [length_vb]
    have e3 : (vb (0 :: 1 :: List.replicate (1 + fs.length + ts.length) 0)).drop (2 + fs.length) = vb (List.replicate (1 + ts.length) 0) := by
      rw [show 2 + fs.length = fs.length + 1 + 1 by omega]
      simp only [vb, List.map_cons, List.drop_succ_cons, List.map_replicate, List.drop_replicate]
      congr 1
      omega
    rw [e3]
    simp [vb]
  rw [e1]
  unfold splice frameN
  rw [length_vb]
  have e2 : (0 :: 1 :: (fs ++ List.replicate (1 + ts.length) 0) : List Nat) = (0 :: 1 :: (fs ++ [0])) ++ List.replicate ts.length 0 := by
    rw [show 1 + ts.length = ts.length + 1 by omega, List.replicate_succ]; simp
  have l3 : (vb (0 :: 1 :: (fs ++ [0]))).length = 3 + fs.length := by rw [length_vb]; simp; omega
  rw [e2, vb_append, List.take_append_of_le_length (by omega), List.take_of_length_le (by omega), List.drop_of_length_le (by rw [List.length_append, l3, length_vb]; simp), List.append_nil, ← vb_append]
  simp
theorem src_nb {w : World} {B n c : Nat} {A : Option Addr} {xs : List Nat} (h : Sh.Nb w B A n c xs) (h0 : 0 < n) : ∃ ad, A = some ad ∧ ∀ j v, (vb xs)[j]? = some v → w.cell? (ad.add j) = some v := by
  obtain ⟨b, off, rfl, _, hc⟩ := h.cell h0
  refine ⟨_, rfl, fun j v hj => ?_⟩
  simp only [vb, List.getElem?_map, Option.map_eq_some_iff] at hj
  obtain ⟨x, hx, rfl⟩ := hj
  have := hc j x hx
  by_cases hj0 : j = 0
  · subst hj0; simpa [Addr.add] using this
  · simpa [Addr.add, hj0] using this
set_option maxHeartbeats 4000000 in
theorem framed_any {w : World} {A1 A2 : Option Addr} {n c m c2 : Nat} {fs ts : List Nat} (h : Sh.Nb w w.heap.size A1 n c fs) (h2 : Sh.Nb w w.heap.size A2 m c2 ts) (hn : n ≤ 1000) (hm : m ≤ 1000) (hn0 : 0 < n) (hm0 : 0 < m) :
    Calls Tryz.prog 138 #[.int .u8 1, .slice A1 n c, .slice A2 m c2] w fun e w' => ∃ g, e = .returned (.slice (some ⟨g, 0, none⟩) (3 + n + m) (3 + n + m)) ∧ w.heap.size ≤ g ∧ Ob w' g (frameN 1 fs ts) ∧ Below w.heap.size w w' := by
  have hr := h.room
  have hrc := h.cap
  have hr2 := h2.room
  have hrc2 := h2.cap
  have hl := h.len
  have hl2 := h2.len
  have hfm := frame_math fs ts
  rw [hl, hl2] at hfm
  have Hfm := Lib.hid hfm
  have Hl := Lib.hid hl
  have Hl2 := Lib.hid hl2
  have Hh := Lib.hid h
  have Hh2 := Lib.hid h2
  clear hfm hl hl2 h h2
  have hs1 : ∀ W, (Instr.sliceAt 32 (.slice (some ⟨w.heap.size, 0, none⟩) (3 + n + m) (3 + n + m)) (some (.int .i64 2)) none none).run Tryz.prog W = .ok (.slice (some ⟨w.heap.size, 2, none⟩) (3 + n + m - 2) (3 + n + m - 2)) W ∨ True := fun W => .inr trivial
  clear hs1
  go_enter Tryz.func138, Tryz.ntmps138
  go_wp2_with (first
    | (refine wpList_make_ub _ rfl _ _ rfl _ _ (3 + n + m) rfl rfl (by omega) (by omega) (by omega) ?_; intro w3 ho3 b3
       have B3 : Below w.heap.size w w3 := (Below.refl _ w).grown b3 (Nat.le_refl _) (fun k hk => by cases hk)
       have c1 : w3.cell? ⟨w.heap.size, 1, none⟩ = some (.int .u8 0) := ho3.cell (j := 1) (x := 0) (by rw [List.getElem?_replicate, if_pos (by omega)])
       have f1 := ho3.frozen 1
)
    | (have hx4 : Ob (w3.setCell ⟨w.heap.size, 1, none⟩ (.int .u8 ((1 : Nat) : Int))) w.heap.size ((List.replicate (3 + n + m) 0).set 1 1) := ho3.set_ 1 1
       have B4 : Below w.heap.size w (w3.setCell ⟨w.heap.size, 1, none⟩ (.int .u8 ((1 : Nat) : Int))) := B3.setCell (by simp) _
       refine wpList_copy_splice rfl (.tmp 19) (.tmp 20) 32 32 rfl 5 Tryz.underlying32 (by kernel_rfl) (some ⟨w.heap.size, 2, none⟩) A1 (3 + n + m - 2) (3 + n + m - 2) n c rfl rfl w.heap.size 2 (vb ((List.replicate (3 + n + m) 0).set 1 1)) 5 hx4 (vb fs) (by rw [length_vb, Hl.out]; simp only [Nat.min_def]; split <;> omega) (fun _ => ⟨rfl, src_nb (Hh.out.below B4) hn0⟩) (by rw [length_vb, length_vb, Hl.out]; simp; omega) (vb_one _) w.heap.size w B4 (Nat.le_refl _) ?_; intro w5 hw5 B5)
    | (refine wpList_copy_splice rfl (.tmp 26) (.tmp 27) 32 32 rfl 5 Tryz.underlying32 (by kernel_rfl) (some ⟨w.heap.size, 3 + n, none⟩) A2 (3 + n + m - (3 + n)) (3 + n + m - (3 + n)) m c2 rfl rfl w.heap.size (3 + n) (splice (vb ((List.replicate (3 + n + m) 0).set 1 1)) 2 (vb fs)) 5 hw5.out (vb ts) (by rw [length_vb, Hl2.out]; simp only [Nat.min_def]; split <;> omega) (fun _ => ⟨rfl, src_nb (Hh2.out.below B5) hm0⟩) (by rw [length_splice _ _ _ (by rw [length_vb, length_vb, Hl.out]; simp; omega), length_vb, length_vb, Hl2.out]; simp) (vb_one _) w.heap.size w B5 (Nat.le_refl _) ?_; intro w6 hw6 B6))
  go_ret
  have hf := hw6.out
  rw [Hfm.out] at hf
  exact ⟨_, rfl, Nat.le_refl _, hf, B6⟩
end Go.Proofs.YtkhlmcknbangfaaGreatDoor
namespace Go.Proofs.YtkhlmcknbangfaaGreatDoor
open Go.RowKit
set_option linter.unusedVariables false
set_option linter.unusedSimpArgs false
set_option maxRecDepth 100000
theorem or_u8 {x y : Nat} (hx : x < 256) (hy : y < 256) : bits .or .u8 (x : Int) (y : Int) = ((x ||| y : Nat) : Int) :=
  (bits_nat .u8 8 (by decide) wraps_u8 x y hx hy).2
theorem w64 {n : Nat} (h : n < 9223372036854775808) : wrap64 (n : Int) = n := by unfold wrap64; omega
theorem w64_sub {n m : Nat} (h : n < 9223372036854775808) (hm : m ≤ n) : wrap64 ((n : Int) - (m : Int)) = ((n - m : Nat) : Int) := by
  rw [show ((n : Int) - (m : Int)) = ((n - m : Nat) : Int) by omega]; exact w64 (by omega)
theorem w64_less {n : Nat} (h : n < 9223372036854775808) (hm : 1 ≤ n) : wrap64 ((n : Int) - 1) = ((n - 1 : Nat) : Int) := w64_sub h hm
set_option maxHeartbeats 400000 in
theorem setDigit_any {w : World} {g i : Nat} {bs : List Nat} (h : Ob w g bs) (hl : bs.length ≤ 1000) (hL : Lim 256 bs) (hi : i / 8 < bs.length) :
    Calls Tryz.prog 156 #[.slice (some ⟨g, 0, none⟩) bs.length bs.length, .int .i64 (i : Int)] w fun e w' => e = .returned (.tuple #[]) ∧ w' = (w.setCell ⟨g, bs.length - 1 - i / 8, none⟩ (.int .u8 ((bs.getD (bs.length - 1 - i / 8) 0 ||| 2 ^ (i % 8) : Nat) : Int))).drew := by
  have hx : bs.getD (bs.length - 1 - i / 8) 0 < 256 := by
    rw [List.getD_eq_getElem?_getD, List.getElem?_eq_getElem (by omega)]
    exact hL _ (List.getElem_mem _)
  have hc := h.cell (j := bs.length - 1 - i / 8) (x := bs.getD (bs.length - 1 - i / 8) 0) (by rw [List.getD_eq_getElem?_getD, List.getElem?_eq_getElem (by omega)]; rfl)
  have hf := h.frozen (bs.length - 1 - i / 8)
  have hr8 : i % 8 < 8 := Nat.mod_lt _ (by decide)
  have k1 : ((bs.length - 1 - i / 8 : Nat) : Int) < (bs.length : Int) := Int.ofNat_lt.2 (by omega)
  have a1 : i / 8 < 9223372036854775808 := Nat.lt_trans hi (Nat.lt_of_le_of_lt hl (by decide))
  have a2 : i % 8 < 9223372036854775808 := Nat.lt_trans (Nat.mod_lt _ (by decide)) (by decide)
  have q1 : Int.tdiv (i : Int) 8 = ((i / 8 : Nat) : Int) := Int.tdiv_eq_ediv_of_nonneg (Int.natCast_nonneg _)
  have q2 : Int.tmod (i : Int) 8 = ((i % 8 : Nat) : Int) := Int.tmod_eq_emod_of_nonneg (Int.natCast_nonneg _)
  have q3 := w64_less (n := bs.length) (by omega) (by omega)
  have q4 := w64_sub (n := bs.length - 1) (m := i / 8) (by omega) (by omega)
  have q7 := w64 a1
  have q8 := w64 a2
  have hv := or_u8 hx (show 2 ^ (i % 8) < 256 from Nat.pow_lt_pow_right (m := i % 8) (n := 8) (by decide) hr8)
  have HV := Lib.hid hv
  clear hv hL hl hi
  generalize bs.getD (bs.length - 1 - i / 8) 0 = x at *
  generalize bs.length - 1 - i / 8 = j at *
  generalize i / 8 = a at *
  generalize i % 8 = r at *
  rcases (show r = 0 ∨ r = 1 ∨ r = 2 ∨ r = 3 ∨ r = 4 ∨ r = 5 ∨ r = 6 ∨ r = 7 by clear hf hc q1 q2 q3 q4 q7 q8 k1 a1 a2; omega) with rfl | rfl | rfl | rfl | rfl | rfl | rfl | rfl
  all_goals
    rw [← HV.out]
    clear HV
    go_enter Tryz.func156, Tryz.ntmps156
    go_big_region
    go_end0
    exact ⟨rfl, rfl⟩
end Go.Proofs.YtkhlmcknbangfaaGreatDoor
namespace Go.Proofs.YtkhlmcknbangfaaGreatDoor
open Go.RowKit
set_option linter.unusedVariables false
set_option linter.unusedSimpArgs false
set_option maxRecDepth 100000
theorem mask_u8 {x k : Nat} (hx : x < 256) (hk : k ≤ 7) : bits .and .u8 (x : Int) ((255 / 2 ^ k : Nat) : Int) = ((x % 2 ^ (8 - k) : Nat) : Int) := by
  have h := bits_mask .u8 8 (by decide) wraps_u8 (8 - k) (by omega) (x : Int) (by omega) (by omega)
  have e : ((255 / 2 ^ k : Nat) : Int) = 2 ^ (8 - k) - 1 := by
    rcases (show k = 0 ∨ k = 1 ∨ k = 2 ∨ k = 3 ∨ k = 4 ∨ k = 5 ∨ k = 6 ∨ k = 7 by omega) with rfl | rfl | rfl | rfl | rfl | rfl | rfl | rfl <;> rfl
  rw [e, h, Int.natCast_emod, Int.natCast_pow]
  rfl
theorem src_nb2 {w : World} {B n c : Nat} {A : Option Addr} {xs : List Nat} (h : Nb w B A n c xs) (h0 : 0 < n) : ∃ ad, A = some ad ∧ ∀ j v, (vb xs)[j]? = some v → w.cell? (ad.add j) = some v := by
  obtain ⟨b, off, rfl, _, hc⟩ := h.cell h0
  refine ⟨_, rfl, fun j v hj => ?_⟩
  simp only [vb, List.getElem?_map, Option.map_eq_some_iff] at hj
  obtain ⟨x, hx, rfl⟩ := hj
  have := hc j x hx
  by_cases hj0 : j = 0
  · subst hj0; simpa [Addr.add] using this
  · simpa [Addr.add, hj0] using this
theorem splice_all {zs xs : List Nat} (h : zs.length = xs.length) : splice (vb zs) 0 (vb xs) = vb xs := by
  unfold splice
  rw [List.drop_of_length_le (by rw [length_vb, length_vb]; omega)]
  simp
/-- the bytes that are worked on -/
structure Cs (w wr : World) (n : Nat) (cur : List Nat) (V : Nat) : Prop where
  ob : Ob wr w.heap.size cur
  bel : Below w.heap.size w wr
  len : cur.length = n
  lim : Lim 256 cur
  val : nb cur = V
theorem Cs.step {w wr : World} {n V i : Nat} {cur : List Nat} (h : Cs w wr n cur V) (hi : i / 8 < n) :
    Cs w (wr.setCell ⟨w.heap.size, n - 1 - i / 8, none⟩ (.int .u8 ((cur.getD (n - 1 - i / 8) 0 ||| 2 ^ (i % 8) : Nat) : Int))).drew n (cur.set (n - 1 - i / 8) (cur.getD (n - 1 - i / 8) 0 ||| 2 ^ (i % 8))) (V ||| 2 ^ i) := by
  have hl := h.len
  have e := nb_or h.lim (i := i) (by omega)
  rw [hl] at e
  exact ⟨(h.ob.set_ _ _).drew, (h.bel.setCell (Nat.le_refl _) _).drew, by rw [List.length_set, hl], e.2, by rw [e.1, h.val]⟩
theorem Cs.sd {w wr : World} {n V i : Nat} {cur : List Nat} (h : Cs w wr n cur V) (hi : i / 8 < n) (hn : n ≤ 1000) :
    Calls Tryz.prog 156 #[.slice (some ⟨w.heap.size, 0, none⟩) n n, .int .i64 (i : Int)] wr fun e w' => e = .returned (.tuple #[]) ∧ ∃ cur', Cs w w' n cur' (V ||| 2 ^ i) := by
  have hl := h.len
  have e := setDigit_any h.ob (i := i) (by omega) h.lim (by omega)
  rw [hl] at e
  refine e.mono ?_
  rintro r w' ⟨rfl, rfl⟩
  exact ⟨rfl, _, h.step hi⟩
theorem Cs.sd0 {w wr : World} {n V : Nat} {cur : List Nat} (h : Cs w wr n cur V) (hn0 : 0 < n) (hn : n ≤ 1000) :
    Calls Tryz.prog 156 #[.slice (some ⟨w.heap.size, 0, none⟩) n n, .int .i64 0] wr fun e w' => e = .returned (.tuple #[]) ∧ ∃ cur', Cs w w' n cur' (V ||| 1) := by
  have e := h.sd (i := 0) (by omega) hn
  exact e
theorem Cs.nb {w wr : World} {n V : Nat} {cur : List Nat} (h : Cs w wr n cur V) (hn : n ≤ 1000) : Nb wr wr.heap.size (some ⟨w.heap.size, 0, none⟩) n n cur :=
  h.ob.nb h.len (by unfold maxLen; omega) h.lim
theorem Ret.behind {N M : Nat} {w w1 w' : World} {e : Ending} (b : Below w.heap.size w w1) (h : Ret N w1 e w') (hN : N = M) : Ret M w e w' := by
  obtain ⟨A, n, c, xs, he, r⟩ := h
  exact ⟨A, n, c, xs, he, r.nt, r.trm, r.is.trans hN, fun h0 => (let ⟨g, cur, a, hb, hc⟩ := r.fresh h0; ⟨g, cur, a, Nat.le_trans b.size hb, hc⟩), bthen b r.bel⟩
set_option maxHeartbeats 4000000 in
theorem candidate_any {w : World} {A : Option Addr} {n c k d s : Nat} {bs : List Nat} (h : Nb w w.heap.size A n c bs) (hn : n ≤ 1000) (hk : k ≤ 7) (hd : d + k = 8 * n) (hd0 : 0 < d) (hs : s ≤ d) :
    Calls Tryz.prog 108 #[.slice A n c, .int .i64 (d : Int), .int .i64 (s : Int)] w (Ret (candV (nb bs) d s) w) := by
  have hn0 : 0 < n := by omega
  have hl := h.len
  have hrc := h.cap
  have hrm := h.rooms
  have hx : bs.getD 0 0 < 256 := by
    rw [List.getD_eq_getElem?_getD, List.getElem?_eq_getElem (by omega)]
    exact h.lim _ (List.getElem_mem _)
  obtain ⟨y, hy⟩ : ∃ y, y = bs.getD 0 0 % 2 ^ (8 - k) := ⟨_, rfl⟩
  have hm := nb_mask h.lim (m := 8 - k) (by omega) (by omega)
  rw [← hy, hl, show 8 * (n - 1) + (8 - k) = d by omega] at hm
  have hv := mask_u8 hx hk
  rw [← hy] at hv
  have hy2 : ((bs.getD 0 0 : Nat) : Int) % 2 ^ (8 - k) = (y : Int) := by rw [hy, Int.natCast_emod, Int.natCast_pow]; rfl
  have hb0 : bs[0]? = some (bs.getD 0 0) := by rw [List.getD_eq_getElem?_getD, List.getElem?_eq_getElem (by omega)]; rfl
  have e1 : wrap64 (8 * (n : Int)) = 8 * (n : Int) := by unfold wrap64; clear hv hx hy hy2 hm; omega
  have e2 : wrap64 (8 * (n : Int) - (d : Int)) = (k : Int) := by unfold wrap64; clear hv hx hy hy2 hm; omega
  have e2' : 8 * (n : Int) - (d : Int) = (k : Int) := by clear hv hx hy hy2 hm; omega
  generalize bs.getD 0 0 = x at *
  have HV := Lib.hid hv
  have HY := Lib.hid hy2
  have Hm := Lib.hid hm
  have Hh := Lib.hid h
  have Hl := Lib.hid hl
  have Hb0 := Lib.hid hb0
  clear hv hy2 hm h hy hl hb0
  go_enter Tryz.func108, Tryz.ntmps108
  go_wp2_with (first
    | (refine wpList_make_ub _ rfl _ _ rfl _ _ n rfl rfl rfl rfl (by omega) ?_; intro w3 ho3 b3
       have B3 : Below w.heap.size w w3 := (Below.refl _ w).grown b3 (Nat.le_refl _) (fun k hk => by cases hk)
       have Ho3 := Lib.hid ho3)
    | (refine wpList_copy_splice rfl (.tmp 12) (.tmp 13) 32 32 rfl 5 Tryz.underlying32 (by kernel_rfl) (some ⟨w.heap.size, 0, none⟩) A n n n c rfl rfl w.heap.size 0 (vb (List.replicate n 0)) 5 Ho3.out (vb bs) (by rw [length_vb, Hl.out]; simp only [Nat.min_def]; split <;> omega) (fun _ => ⟨rfl, src_nb2 (Hh.out.below B3) hn0⟩) (by rw [length_vb, length_vb, Hl.out]; simp) (vb_one _) w.heap.size w B3 (Nat.le_refl _) ?_; intro w5 hw5 B5))
  have ho5 : Ob w5 w.heap.size bs := by
    have := hw5.out
    rw [splice_all (by simp [Hl.out])] at this
    exact this
  have c5 : w5.cell? ⟨w.heap.size, 0, none⟩ = some (.int .u8 (x : Int)) := ho5.cell Hb0.out
  have f5 := ho5.frozen 0
  have H5 := Lib.hid ho5
  clear ho5 hw5 Ho3
  rcases (show k = 0 ∨ k = 1 ∨ k = 2 ∨ k = 3 ∨ k = 4 ∨ k = 5 ∨ k = 6 ∨ k = 7 by clear hs; omega) with rfl | rfl | rfl | rfl | rfl | rfl | rfl | rfl
  all_goals
    simp only [Act.put, List.setIfInBounds_toArray, List.set_cons_succ, List.set_cons_zero, length_vb, Hl.out]
    go_big_region
    have hv2 := HV.out
    simp at hv2
    have hy2 := HY.out
    simp only [Nat.reduceSub, Int.reducePow] at hy2
    first | rw [hv2] | rw [hy2]
    clear HV HY hv2 hy2
    obtain ⟨w6, e6⟩ : ∃ w6, w6 = (w5.setCell ⟨w.heap.size, 0, none⟩ (.int .u8 (y : Int))).drew := ⟨_, rfl⟩
    have h6 : Cs w w6 n (bs.set 0 y) (nb bs % 2 ^ d) := e6 ▸ ⟨(H5.out.set_ 0 y).drew, (B5.setCell (Nat.le_refl _) _).drew, by rw [List.length_set, Hl.out], Hm.out.2, Hm.out.1⟩
    have H6 := Lib.hid h6
    rw [← e6]
    clear e6 h6 c5 f5 B5 H5 hx Hb0 Hm
    go_wp2_with fail
    refine (H6.out.sd0 hn0 hn).mono ?_
    rintro r w7 ⟨rfl, cur7, h7⟩
    have H7 := Lib.hid h7
    clear h7 H6
    go_wp2_with fail
    clear ho3 b3 B3 Hh Hl
    go_loopw [29] (fun i wr => ∃ (j : Nat) (cur : List Nat), j ≤ s ∧ i = .int .i64 (j : Int) ∧ Hid (Cs w wr n cur (sets (nb bs % 2 ^ d ||| 1) d j))) (fun i _ => s - (intOf i).toNat)
    case atStart => exact ⟨0, cur7, Nat.zero_le _, rfl, H7⟩
    case round =>
      obtain ⟨j, cur, hj, rfl, hC⟩ := hrel
      by_cases hlt : j < s
      · have Hs := Lib.hid (hC.out.sd (i := d - 1 - j) (by omega) hn)
        have ei : (d : Int) - 1 - (j : Int) = ((d - 1 - j : Nat) : Int) := by omega
        go_wp2_with fail
        refine Hs.out.mono ?_
        rintro r w8 ⟨rfl, cur8, h8⟩
        have H8 := Lib.hid h8
        clear Hs h8
        go_wp2_with fail
        go_roundw
        case rel => exact ⟨j + 1, cur8, hlt, by simp, H8⟩
        case measure => simp [intOf]; omega
      · have hjs : j = s := by omega
        subst hjs
        have hr := read_any (hC.out.nb hn) (by omega)
        have HR := Lib.hid hr
        clear hr
        go_wp2_with fail
        refine HR.out.mono ?_
        intro r w9 hr9
        have HS := Lib.hid (hr9.behind hC.out.bel (show _ = candV (nb bs) d j from hC.out.val))
        obtain ⟨A9, n9, c9, x9, rfl, _⟩ := hr9
        go_wp2_with fail
        go_ret
        exact HS.out
end Go.Proofs.YtkhlmcknbangfaaGreatDoor
