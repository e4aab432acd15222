/- sha.digest. -/
import Derived.Test.YtonfpomgkgljiaaDoorBits
namespace Go.Proofs.YtonfpomgkgljiaaDoor
open Go.RowKit
set_option linter.unusedVariables false
set_option maxRecDepth 100000

def digN (s : St) (k : Nat) : List Nat := ((words s).take k).flatMap by4
theorem digN_zero (s : St) : digN s 0 = [] := rfl
theorem digN_all (s : St) : digN s 8 = dig s := rfl
theorem digN_succ (s : St) (k : Nat) (hk : k < 8) : digN s (k + 1) = digN s k ++ by4 ((words s).getD k 0) := by
  have hl : k < (words s).length := hk
  unfold digN
  rw [List.take_succ_eq_append_getElem hl, List.flatMap_append]
  simp [List.getD, List.getElem?_eq_getElem hl]
theorem length_digN (s : St) (k : Nat) (hk : k ≤ 8) : (digN s k).length = 4 * k := by
  induction k with
  | zero => rfl
  | succ k ih => rw [digN_succ s k (by omega), List.length_append, ih (by omega)]; simp [by4]; omega
theorem dig_step (s : St) (k : Nat) (hk : k < 8) : splice (bs (digN s k ++ List.replicate (32 - 4 * k) 0)) (4 * k) (bs (by4 ((words s).getD k 0))) = bs (digN s (k + 1) ++ List.replicate (32 - 4 * (k + 1)) 0) := by
  have hl := length_digN s k (by omega)
  have hb : (bs (by4 ((words s).getD k 0))).length = 4 := rfl
  unfold splice
  rw [hb, digN_succ s k hk]
  simp only [bs, List.map_append]
  rw [List.take_append_of_le_length (by simp [hl]), List.take_of_length_le (by simp [hl]), List.drop_append, List.drop_eq_nil_of_le (by simp [hl]), List.append_assoc]
  congr 1
  congr 1
  simp only [List.map_replicate, List.drop_replicate, List.length_map, hl, List.nil_append]
  congr 1
  omega
theorem words_lt {s : St} (h : s.Ok) (k : Nat) : (words s).getD k 0 < 4294967296 := Lim.get (n := 4294967296) (by
  intro x hx
  simp only [words, List.mem_cons, List.not_mem_nil, or_false] at hx
  obtain ⟨h0, h1, h2, h3, h4, h5, h6, h7⟩ := h
  omega) (by omega) k

theorem slice_at (g k : Nat) (hk : k < 8) (W : World) : (Instr.sliceAt 45 (.pointer (some ⟨g, 0, none⟩)) (some (.int .i64 (4 * (k : Int)))) none none).run Tryd.prog W = .ok (.slice (some ⟨g, 4 * k, none⟩) (32 - 4 * k) (32 - 4 * k)) W := by
  have hh : k = 0 ∨ k = 1 ∨ k = 2 ∨ k = 3 ∨ k = 4 ∨ k = 5 ∨ k = 6 ∨ k = 7 := by omega
  rcases hh with rfl | rfl | rfl | rfl | rfl | rfl | rfl | rfl <;> rfl
set_option maxHeartbeats 1000000 in
theorem digest_any (s : St) (hs : s.Ok) (w : World) : Calls Tryd.prog 40 #[sv s] w fun e w' => e = .returned (.agg (bs (dig s)).toArray) ∧ Below w.heap.size w w' := by
  have hsv : sv s = .agg (wv (words s)).toArray := rfl
  have hL := fun k => words_lt hs k
  have HL := Lib.hid hL
  have HI := Lib.hid (idx_words s)
  have HS := Lib.hid (dig_step s)
  rw [hsv]
  clear hsv hL
  obtain ⟨D, hD⟩ : ∃ D, dig s = D := ⟨_, rfl⟩
  rw [hD]
  have HD := Lib.hid hD
  clear hD
  generalize hws : wv (words s) = V at *
  have HV := Lib.hid hws
  have hVl : V.length = 8 := by rw [← hws]; rfl
  have HVl := Lib.hid hVl
  have hV1 : ∀ v ∈ V, v.oneCell' = true := by rw [← hws]; exact wv_one _
  have HV1 := Lib.hid hV1
  clear hws hVl hV1
  obtain ⟨w0, hw0⟩ : ∃ w0, w0 = ((w.alloc (.cells V.toArray 56)).alloc (Yb 45 (List.replicate 32 0))).alloc (Yb 45 (List.replicate 32 0)) := ⟨_, rfl⟩
  have b0 : Below w.heap.size w w0 := by rw [hw0]; exact (((Below.refl _ _).alloc (Nat.le_refl _) _).alloc (by simp) _).alloc (by simp; omega) _
  have x0 : w0.heap[w.heap.size]? = some (.cells V.toArray 56 (0, 0)) := by
    rw [hw0]
    exact (Below.heap_alloc _ _ _ (by simp; omega)).trans ((Below.heap_alloc _ _ _ (by simp)).trans (heap_alloc_new w _))
  have o0 : Bb w0 (w.heap.size + 1) 45 (List.replicate 32 0) := by
    rw [hw0]
    have := alloc_bb (w.alloc (.cells V.toArray 56)) 45 (List.replicate 32 0)
    rw [World.size_alloc] at this
    exact this.alloc _
  have l0 : Bb w0 (w.heap.size + 2) 45 (List.replicate 32 0) := by
    rw [hw0]
    have := alloc_bb ((w.alloc (.cells V.toArray 56)).alloc (Yb 45 (List.replicate 32 0))) 45 (List.replicate 32 0)
    rwa [World.size_alloc, World.size_alloc] at this
  have HW := Lib.hid hw0
  clear hw0
  go_enter Tryd.func40, Tryd.ntmps40
  go_wp2_with (change wpList _ _ _ _ _ (((w.alloc (.cells V.toArray 56)).alloc (Yb 45 (List.replicate 32 0))).alloc (Yb 45 (List.replicate 32 0))); rw [← HW.out]; refine wpList_load_row rfl 56 (.tmp 1) rfl w.heap.size rfl 56 V.toArray (0, 0) _ x0 Tryd.underlying56 rfl (by rw [List.size_toArray, HVl.out]; kernel_rfl) ?_)
  clear HW
  go_loopw [8] (fun i wr => ∃ k : Nat, k ≤ 8 ∧ i = .int .i64 k ∧ Bb wr (w.heap.size + 2) 45 (digN s k ++ List.replicate (32 - 4 * k) 0) ∧ Bb wr (w.heap.size + 1) 45 (List.replicate 32 0) ∧ Below w.heap.size w wr) (fun i _ => 8 - (intOf i).toNat)
  case atStart => exact ⟨0, by omega, rfl, l0, o0, b0⟩
  case round =>
    clear x0 o0 l0 b0
    obtain ⟨k, hk, rfl, hl, ho, hB⟩ := hrel
    by_cases hlt : k < 8
    · have hI := HI.out k hlt
      have hwl := HL.out k
      have Hst := Lib.hid (HS.out k hlt)
      have hcl : (bs (digN s k ++ List.replicate (32 - 4 * k) 0)).length = 32 := by
        rw [length_bs, List.length_append, length_digN s k hk, List.length_replicate]; omega
      have Hcl := Lib.hid hcl
      clear hcl
      generalize (words s).getD k 0 = x at *
      go_wp2_with fail
      refine (bytesOf_any x hwl _).mono ?_
      rintro e w1 ⟨rfl, hb1⟩
      have hl1 := hl.below hb1 hl.lt
      have ho1 := ho.below hb1 ho.lt
      have hB1 : Below w.heap.size w w1 := hB.trans (hb1.mono hB.size)
      have hs1 : w.heap.size + 3 ≤ w1.heap.size := by have := hb1.size; have := hl.lt; omega
      clear hl ho hB hb1
      have hf : Bb (w1.alloc (Yb 69 (List.replicate 4 0))) w1.heap.size 69 (List.replicate 4 0) := alloc_bb w1 _ _
      have hl2 := hl1.alloc (Yb 69 (List.replicate 4 0))
      have ho2 := ho1.alloc (Yb 69 (List.replicate 4 0))
      have hB2 := hB1.alloc hB1.size (Yb 69 (List.replicate 4 0))
      go_wp2_with (change wpList _ _ _ _ _ (w1.alloc (Yb 69 (List.replicate 4 0))); refine wpList_store_row rfl rfl 69 (.tmp 6) (.tmp 13) rfl w1.heap.size rfl (bs (by4 x)) rfl 69 _ hf (bs_one _) (by simp [bs, by4]) (by kernel_rfl) ?_)
      have hf3 : Bb ((w1.alloc (Yb 69 (List.replicate 4 0))).setRow w1.heap.size (bs (by4 x)).toArray) w1.heap.size 69 (by4 x) := setRow_heap _ _ _ _ _ _ hf
      have hl3 : Bb ((w1.alloc (Yb 69 (List.replicate 4 0))).setRow w1.heap.size (bs (by4 x)).toArray) (w.heap.size + 2) 45 _ := (setRow_other _ _ _ _ (by omega)).trans hl2
      have ho3 : Bb ((w1.alloc (Yb 69 (List.replicate 4 0))).setRow w1.heap.size (bs (by4 x)).toArray) (w.heap.size + 1) 45 _ := (setRow_other _ _ _ _ (by omega)).trans ho2
      have hB3 : Below w.heap.size w ((w1.alloc (Yb 69 (List.replicate 4 0))).setRow w1.heap.size (bs (by4 x)).toArray) := below_setRow hB2 hB1.size _
      generalize (w1.alloc (Yb 69 (List.replicate 4 0))).setRow w1.heap.size (bs (by4 x)).toArray = w3 at *
      generalize w1.heap.size = g1 at *
      clear hf hl2 ho2 hB2 hl1 ho1 hB1
      have hg3 := hf3.lt
      have Hl3 : Hid (w3.drew.heap[w.heap.size + 1 + 1]? = some (.cells (bs (digN s k ++ List.replicate (32 - 4 * k) 0)).toArray 45 (0, 0))) := hl3
      have Hn : Hid ((bs (by4 x)).length = Nat.min 4 (32 - 4 * k)) := by
        show 4 = Nat.min 4 (32 - 4 * k)
        simp only [Nat.min_def]; split <;> omega
      have Hpos : Hid (0 < (bs (by4 x)).length → some (⟨w.heap.size + 1 + 1, 4 * k, none⟩ : Addr) = some ⟨w.heap.size + 1 + 1, 4 * k, none⟩ ∧ ∃ ad, some (⟨g1, 0, none⟩ : Addr) = some ad ∧ ∀ j v, (bs (by4 x))[j]? = some v → w3.drew.cell? (ad.add j) = some v) := fun _ => ⟨rfl, _, rfl, fun j v hj => by
        simp only [bs, List.getElem?_map, Option.map_eq_some_iff] at hj
        obtain ⟨y, hy, rfl⟩ := hj
        have := hf3.drew.cell hy
        by_cases hj0 : j = 0
        · subst hj0; simpa [Addr.add] using this
        · simpa [Addr.add, hj0] using this⟩
      have Hfit : Hid (4 * k + (bs (by4 x)).length ≤ (bs (digN s k ++ List.replicate (32 - 4 * k) 0)).length) := by
        show 4 * k + 4 ≤ _
        rw [Hcl.out]; omega
      generalize hcur : bs (digN s k ++ List.replicate (32 - 4 * k) 0) = cur at *
      have Hcur := Lib.hid hcur
      clear hcur
      generalize hby : bs (by4 x) = Y at *
      have HY1 : Hid (∀ v ∈ Y, v.oneCell' = true) := by show ∀ v ∈ Y, _; rw [← hby]; exact bs_one _
      clear hby hf3
      have hsl := fun W => slice_at (w.heap.size + 1 + 1) k hlt W
      have h4 : IntKind.i64.wrap (4 * (k : Int)) = 4 * (k : Int) := IntWalk.i64_in _ (by omega)
      go_region_law (refine step_copy_splice rfl (.tmp 16) (.tmp 17) 23 23 rfl 5 Tryd.underlying23 (by kernel_rfl) (some ⟨w.heap.size + 1 + 1, 4 * k, none⟩) (some ⟨g1, 0, none⟩) (32 - 4 * k) (32 - 4 * k) 4 4 rfl rfl (w.heap.size + 1 + 1) (4 * k) cur 45 Hl3.out Y Hn.out Hpos.out Hfit.out HY1.out (w.heap.size + 1 + 1) w3.drew (Below.refl _ _) (Nat.le_refl _) ?_; intro w4 hw4 hb4)
      all_goals go_wp2
      go_roundw
      case rel =>
        refine ⟨k + 1, by omega, by go_num, ?_, ho3.drew.below hb4 (by omega), (below_drew hB3).trans (hb4.mono (by omega))⟩
        have := hw4.out
        rw [Hst.out] at this
        exact this
      case measure => simp [intOf]; omega
    · have hfin : Bb wr (w.heap.size + 2) 45 D := by
        have h8 : k = 8 := by omega
        rw [h8, digN_all, HD.out] at hl
        simpa using hl
      have hDl : (bs D).length = 32 := by rw [← HD.out]; rfl
      have HDl := Lib.hid hDl
      have hge : 8 ≤ k := by omega
      clear hlt hl HS HL HI hDl
      go_wp2_with (first
        | (refine wpList_load_row rfl 45 (.tmp 3) rfl (w.heap.size + 1 + 1) rfl 45 (bs D).toArray (0, 0) _ hfin Tryd.underlying45 rfl (by rw [List.size_toArray, HDl.out]; kernel_rfl) ?_)
        | (refine wpList_store_row rfl rfl 45 (.tmp 2) (.tmp 20) rfl (w.heap.size + 1) rfl (bs D) rfl 45 _ ho (bs_one _) (by rw [HDl.out]; simp [bs]) (by rw [HDl.out]; kernel_rfl) ?_))
      have hr1 := setRow_heap wr (w.heap.size + 1) _ (bs D).toArray 45 (0, 0) ho
      exact bodyPost_ret (v := .agg (bs D).toArray) (results_cell_row rfl _ _ (w.heap.size + 1) 45 _ (0, 0) _ rfl hr1 Tryd.underlying45 rfl (by rw [List.size_toArray, HDl.out]; kernel_rfl)) rfl ⟨rfl, below_setRow hB (Nat.le_succ _) _⟩
end Go.Proofs.YtonfpomgkgljiaaDoor
