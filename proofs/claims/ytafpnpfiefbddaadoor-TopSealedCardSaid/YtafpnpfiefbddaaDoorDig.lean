/- The first words, a word's bytes, the digest's bytes. sha.digest. sha.padding. -/
import Derived.Test.YtafpnpfiefbddaaDoorChange
namespace Go.Proofs.YtafpnpfiefbddaaDoor
set_option linter.unusedSimpArgs false
set_option linter.unusedVariables false
open Go.RowKit
set_option linter.unusedVariables false
set_option maxRecDepth 100000

theorem bs_one (xs : List Nat) : ∀ v ∈ bs xs, v.oneCell' = true := by
  intro v hv
  simp only [bs, List.mem_map] at hv
  obtain ⟨x, _, rfl⟩ := hv
  rfl
theorem length_bs (xs : List Nat) : (bs xs).length = xs.length := by simp [bs]
/-- block g is just the bytes xs, of a type t -/
def Bb (w : World) (g t : Nat) (xs : List Nat) : Prop := w.heap[g]? = some (.cells (bs xs).toArray t (0, 0))
theorem Bb.lt {w : World} {g t : Nat} {xs : List Nat} (h : Bb w g t xs) : g < w.heap.size := by
  rcases Nat.lt_or_ge g w.heap.size with hlt | hge
  · exact hlt
  · unfold Bb at h; rw [Array.getElem?_eq_none hge] at h; cases h
theorem Bb.cell {w : World} {g t : Nat} {xs : List Nat} (h : Bb w g t xs) {j x : Nat} (hx : xs[j]? = some x) : w.cell? ⟨g, j, none⟩ = some (.int .u8 (x : Int)) := by
  rw [cell_of_row w g j (bs xs).toArray t (0, 0) h]
  simp [bs, hx]
theorem Bb.cellD {w : World} {g t : Nat} {xs : List Nat} (h : Bb w g t xs) {j : Nat} (hj : j < xs.length) : w.cell? ⟨g, j, none⟩ = some (.int .u8 ((xs.getD j 0 : Nat) : Int)) := by
  refine h.cell ?_
  simp [List.getD, List.getElem?_eq_getElem hj]
theorem Bb.frozen {w : World} {g t : Nat} {xs : List Nat} (h : Bb w g t xs) (j : Nat) : w.frozen? ⟨g, j, none⟩ = false := by
  unfold Bb at h
  simp [World.frozen?, h]
theorem Bb.set_ {w : World} {g t : Nat} {xs : List Nat} (h : Bb w g t xs) (j x : Nat) : Bb (w.setCell ⟨g, j, none⟩ (.int .u8 (x : Int))) g t (xs.set j x) := by
  unfold Bb at h ⊢
  simp [World.setCell, Array.getElem?_modify, h, bs]
theorem Bb.drewN {w : World} {g t : Nat} {xs : List Nat} (h : Bb w g t xs) (n : Nat) : Bb (w.drewN n) g t xs := h
theorem Bb.drew {w : World} {g t : Nat} {xs : List Nat} (h : Bb w g t xs) : Bb w.drew g t xs := h
theorem Bb.alloc {w : World} {g t : Nat} {xs : List Nat} (h : Bb w g t xs) (o : Obj) : Bb (w.alloc o) g t xs := (Below.heap_alloc w o g h.lt).trans h
theorem Bb.below {w w' : World} {B g t : Nat} {xs : List Nat} (h : Bb w g t xs) (hb : Below B w w') (hg : g < B) : Bb w' g t xs := (hb.block g hg).trans h
theorem Bb.nb {w : World} {g t : Nat} {xs : List Nat} (h : Bb w g t xs) (off n c : Nat) (hn : off + n ≤ xs.length) (hc : n ≤ c) (hc' : c ≤ 9223372036854775807) (hL : Lim 256 xs) :
    Nb w w.heap.size (some ⟨g, off, none⟩) n c ((xs.drop off).take n) :=
  ⟨by rw [List.length_take, List.length_drop]; omega, hc, hc', (hL.drop off).take n, fun _ => ⟨g, off, rfl, h.lt, fun j x hj => by
    rw [List.getElem?_take] at hj
    split at hj
    · rw [List.getElem?_drop] at hj
      exact h.cell hj
    · cases hj⟩⟩
def Yb (t : TypeId) (xs : List Nat) : Obj := .cells (bs xs).toArray t (0, 0)
theorem alloc_bb (w : World) (t : TypeId) (xs : List Nat) : Bb (w.alloc (Yb t xs)) w.heap.size t xs := heap_alloc_new w _
theorem alloc_ob (w : World) (t : TypeId) (xs : List Nat) : Wb (w.alloc (Ob t xs)) w.heap.size t xs := heap_alloc_new w _

theorem first_ok : first.Ok := by constructor <;> decide
theorem firstWords_any (w : World) : Calls Tryd.prog 39 #[] w fun e w' => e = .returned (sv first) ∧ Below w.heap.size w w' := by
  have h1 : Wb (w.alloc (Ob 84 (List.replicate 8 0))) w.heap.size 84 (List.replicate 8 0) := alloc_ob w _ _
  have hb1 : Below w.heap.size w (w.alloc (Ob 84 (List.replicate 8 0))) := (Below.refl _ _).alloc (Nat.le_refl _) _
  go_enter Tryd.func39, Tryd.ntmps39
  go_wp2_with (change wpList _ _ _ _ _ (w.alloc (Ob 84 (List.replicate 8 0))); refine wpList_store_row rfl rfl 84 (.tmp 0) (.tmp 1) rfl w.heap.size rfl (wv (words first)) rfl 84 _ h1 (wv_one _) (by simp [wv, words]) (by kernel_rfl) ?_)
  have hr1 := setRow_heap _ w.heap.size _ (wv (words first)).toArray 84 (0, 0) h1
  exact bodyPost_ret (v := sv first) (results_cell_row rfl _ _ w.heap.size 84 _ (0, 0) _ rfl hr1 Tryd.underlying84 rfl (by kernel_rfl)) rfl ⟨rfl, below_setRow hb1 (Nat.le_refl _) _⟩

theorem bytesOf_any (x : Nat) (hx : x < 4294967296) (w : World) : Calls Tryd.prog 55 #[.int .u32 (x : Int)] w fun e w' => e = .returned (.agg (bs (by4 x)).toArray) ∧ Below w.heap.size w w' := by
  have h1 : Bb (w.alloc (Yb 100 (List.replicate 4 0))) w.heap.size 100 (List.replicate 4 0) := alloc_bb w _ _
  have hb1 : Below w.heap.size w (w.alloc (Yb 100 (List.replicate 4 0))) := (Below.refl _ _).alloc (Nat.le_refl _) _
  have e0 : (x : Int) / 16777216 = ((x / 16777216 % 256 : Nat) : Int) := by omega
  have e1 : (x : Int) / 65536 % 256 = ((x / 65536 % 256 : Nat) : Int) := by omega
  have e2 : (x : Int) / 256 % 256 = ((x / 256 % 256 : Nat) : Int) := by omega
  have e3 : (x : Int) % 256 = ((x % 256 : Nat) : Int) := by omega
  have E0 := Lib.hid e0
  have E1 := Lib.hid e1
  have E2 := Lib.hid e2
  have E3 := Lib.hid e3
  clear e0 e1 e2 e3
  go_enter Tryd.func55, Tryd.ntmps55
  go_wp2_with (change wpList _ _ _ _ _ (w.alloc (Yb 100 (List.replicate 4 0))); refine wpList_store_row rfl rfl 100 (.tmp 2) (.tmp 14) rfl w.heap.size rfl (bs (by4 x)) ?_ 100 _ h1 (bs_one _) (by simp [bs, by4]) (by kernel_rfl) ?_)
  · show Value.agg #[Value.int IntKind.u8 ((x : Int) / 16777216), Value.int IntKind.u8 ((x : Int) / 65536 % 256), Value.int IntKind.u8 ((x : Int) / 256 % 256), Value.int IntKind.u8 ((x : Int) % 256)] = _
    rw [E0.out, E1.out, E2.out, E3.out]
    rfl
  have hr1 := setRow_heap _ w.heap.size _ (bs (by4 x)).toArray 100 (0, 0) h1
  exact bodyPost_ret (v := .agg (bs (by4 x)).toArray) (results_cell_row rfl _ _ w.heap.size 100 _ (0, 0) _ rfl hr1 Tryd.underlying100 rfl (by kernel_rfl)) rfl ⟨rfl, below_setRow hb1 (Nat.le_refl _) _⟩

theorem idx_words (s : St) (k : Nat) (hk : k < 8) (W : World) : (Instr.index 84 (.agg (wv (words s)).toArray) (.int .i64 (k : Int))).run Tryd.prog W = .ok (.int .u32 (((words s).getD k 0 : Nat) : Int)) W := by
  have hh : k = 0 ∨ k = 1 ∨ k = 2 ∨ k = 3 ∨ k = 4 ∨ k = 5 ∨ k = 6 ∨ k = 7 := by omega
  rcases hh with rfl | rfl | rfl | rfl | rfl | rfl | rfl | rfl <;> rfl
end Go.Proofs.YtafpnpfiefbddaaDoor
namespace Go.Proofs.YtafpnpfiefbddaaDoor
open Go.RowKit
set_option linter.unusedVariables false
set_option maxRecDepth 100000

def digN (s : St) (k : Nat) : List Nat := ((words s).take k).flatMap by4
theorem digN_zero (s : St) : digN s 0 = [] := rfl
theorem digN_all (s : St) : digN s 8 = dig s := rfl
theorem digN_succ (s : St) (k : Nat) (hk : k < 8) : digN s (k + 1) = digN s k ++ by4 ((words s).getD k 0) := by
  have hl : k < (words s).length := hk
  unfold digN
  rw [List.take_succ_eq_append_getElem hl, List.flatMap_append]
  simp [List.getD, List.getElem?_eq_getElem hl]
theorem length_digN (s : St) (k : Nat) (hk : k ≤ 8) : (digN s k).length = 4 * k := by
  induction k with
  | zero => rfl
  | succ k ih => rw [digN_succ s k (by omega), List.length_append, ih (by omega)]; simp [by4]; omega
theorem dig_step (s : St) (k : Nat) (hk : k < 8) : splice (bs (digN s k ++ List.replicate (32 - 4 * k) 0)) (4 * k) (bs (by4 ((words s).getD k 0))) = bs (digN s (k + 1) ++ List.replicate (32 - 4 * (k + 1)) 0) := by
  have hl := length_digN s k (by omega)
  have hb : (bs (by4 ((words s).getD k 0))).length = 4 := rfl
  unfold splice
  rw [hb, digN_succ s k hk]
  simp only [bs, List.map_append]
  rw [List.take_append_of_le_length (by simp [hl]), List.take_of_length_le (by simp [hl]), List.drop_append, List.drop_eq_nil_of_le (by simp [hl]), List.append_assoc]
  congr 1
  congr 1
  simp only [List.map_replicate, List.drop_replicate, List.length_map, hl, List.nil_append]
  congr 1
  omega
theorem words_lt {s : St} (h : s.Ok) (k : Nat) : (words s).getD k 0 < 4294967296 := Lim.get (n := 4294967296) (by
  intro x hx
  simp only [words, List.mem_cons, List.not_mem_nil, or_false] at hx
  obtain ⟨h0, h1, h2, h3, h4, h5, h6, h7⟩ := h
  omega) (by omega) k

theorem slice_at (g k : Nat) (hk : k < 8) (W : World) : (Instr.sliceAt 60 (.pointer (some ⟨g, 0, none⟩)) (some (.int .i64 (4 * (k : Int)))) none none).run Tryd.prog W = .ok (.slice (some ⟨g, 4 * k, none⟩) (32 - 4 * k) (32 - 4 * k)) W := by
  have hh : k = 0 ∨ k = 1 ∨ k = 2 ∨ k = 3 ∨ k = 4 ∨ k = 5 ∨ k = 6 ∨ k = 7 := by omega
  rcases hh with rfl | rfl | rfl | rfl | rfl | rfl | rfl | rfl <;> rfl
set_option maxHeartbeats 1000000 in
theorem digest_any (s : St) (hs : s.Ok) (w : World) : Calls Tryd.prog 37 #[sv s] w fun e w' => e = .returned (.agg (bs (dig s)).toArray) ∧ Below w.heap.size w w' := by
  have hsv : sv s = .agg (wv (words s)).toArray := rfl
  have hL := fun k => words_lt hs k
  have HL := Lib.hid hL
  have HI := Lib.hid (idx_words s)
  have HS := Lib.hid (dig_step s)
  rw [hsv]
  clear hsv hL
  obtain ⟨D, hD⟩ : ∃ D, dig s = D := ⟨_, rfl⟩
  rw [hD]
  have HD := Lib.hid hD
  clear hD
  generalize hws : wv (words s) = V at *
  have HV := Lib.hid hws
  have hVl : V.length = 8 := by rw [← hws]; rfl
  have HVl := Lib.hid hVl
  have hV1 : ∀ v ∈ V, v.oneCell' = true := by rw [← hws]; exact wv_one _
  have HV1 := Lib.hid hV1
  clear hws hVl hV1
  obtain ⟨w0, hw0⟩ : ∃ w0, w0 = ((w.alloc (.cells V.toArray 84)).alloc (Yb 60 (List.replicate 32 0))).alloc (Yb 60 (List.replicate 32 0)) := ⟨_, rfl⟩
  have b0 : Below w.heap.size w w0 := by rw [hw0]; exact (((Below.refl _ _).alloc (Nat.le_refl _) _).alloc (by simp) _).alloc (by simp; omega) _
  have x0 : w0.heap[w.heap.size]? = some (.cells V.toArray 84 (0, 0)) := by
    rw [hw0]
    exact (Below.heap_alloc _ _ _ (by simp; omega)).trans ((Below.heap_alloc _ _ _ (by simp)).trans (heap_alloc_new w _))
  have o0 : Bb w0 (w.heap.size + 1) 60 (List.replicate 32 0) := by
    rw [hw0]
    have := alloc_bb (w.alloc (.cells V.toArray 84)) 60 (List.replicate 32 0)
    rw [World.size_alloc] at this
    exact this.alloc _
  have l0 : Bb w0 (w.heap.size + 2) 60 (List.replicate 32 0) := by
    rw [hw0]
    have := alloc_bb ((w.alloc (.cells V.toArray 84)).alloc (Yb 60 (List.replicate 32 0))) 60 (List.replicate 32 0)
    rwa [World.size_alloc, World.size_alloc] at this
  have HW := Lib.hid hw0
  clear hw0
  go_enter Tryd.func37, Tryd.ntmps37
  go_wp2_with (change wpList _ _ _ _ _ (((w.alloc (.cells V.toArray 84)).alloc (Yb 60 (List.replicate 32 0))).alloc (Yb 60 (List.replicate 32 0))); rw [← HW.out]; refine wpList_load_row rfl 84 (.tmp 1) rfl w.heap.size rfl 84 V.toArray (0, 0) _ x0 Tryd.underlying84 rfl (by rw [List.size_toArray, HVl.out]; kernel_rfl) ?_)
  clear HW
  go_loopw [8] (fun i wr => ∃ k : Nat, k ≤ 8 ∧ i = .int .i64 k ∧ Bb wr (w.heap.size + 2) 60 (digN s k ++ List.replicate (32 - 4 * k) 0) ∧ Bb wr (w.heap.size + 1) 60 (List.replicate 32 0) ∧ Below w.heap.size w wr) (fun i _ => 8 - (intOf i).toNat)
  case atStart => exact ⟨0, by omega, rfl, l0, o0, b0⟩
  case round =>
    clear x0 o0 l0 b0
    obtain ⟨k, hk, rfl, hl, ho, hB⟩ := hrel
    by_cases hlt : k < 8
    · have hI := HI.out k hlt
      have hwl := HL.out k
      have Hst := Lib.hid (HS.out k hlt)
      have hcl : (bs (digN s k ++ List.replicate (32 - 4 * k) 0)).length = 32 := by
        rw [length_bs, List.length_append, length_digN s k hk, List.length_replicate]; omega
      have Hcl := Lib.hid hcl
      clear hcl
      generalize (words s).getD k 0 = x at *
      go_wp2_with fail
      refine (bytesOf_any x hwl _).mono ?_
      rintro e w1 ⟨rfl, hb1⟩
      have hl1 := hl.below hb1 hl.lt
      have ho1 := ho.below hb1 ho.lt
      have hB1 : Below w.heap.size w w1 := hB.trans (hb1.mono hB.size)
      have hs1 : w.heap.size + 3 ≤ w1.heap.size := by have := hb1.size; have := hl.lt; omega
      clear hl ho hB hb1
      have hf : Bb (w1.alloc (Yb 100 (List.replicate 4 0))) w1.heap.size 100 (List.replicate 4 0) := alloc_bb w1 _ _
      have hl2 := hl1.alloc (Yb 100 (List.replicate 4 0))
      have ho2 := ho1.alloc (Yb 100 (List.replicate 4 0))
      have hB2 := hB1.alloc hB1.size (Yb 100 (List.replicate 4 0))
      go_wp2_with (change wpList _ _ _ _ _ (w1.alloc (Yb 100 (List.replicate 4 0))); refine wpList_store_row rfl rfl 100 (.tmp 6) (.tmp 13) rfl w1.heap.size rfl (bs (by4 x)) rfl 100 _ hf (bs_one _) (by simp [bs, by4]) (by kernel_rfl) ?_)
      have hf3 : Bb ((w1.alloc (Yb 100 (List.replicate 4 0))).setRow w1.heap.size (bs (by4 x)).toArray) w1.heap.size 100 (by4 x) := setRow_heap _ _ _ _ _ _ hf
      have hl3 : Bb ((w1.alloc (Yb 100 (List.replicate 4 0))).setRow w1.heap.size (bs (by4 x)).toArray) (w.heap.size + 2) 60 _ := (setRow_other _ _ _ _ (by omega)).trans hl2
      have ho3 : Bb ((w1.alloc (Yb 100 (List.replicate 4 0))).setRow w1.heap.size (bs (by4 x)).toArray) (w.heap.size + 1) 60 _ := (setRow_other _ _ _ _ (by omega)).trans ho2
      have hB3 : Below w.heap.size w ((w1.alloc (Yb 100 (List.replicate 4 0))).setRow w1.heap.size (bs (by4 x)).toArray) := below_setRow hB2 hB1.size _
      generalize (w1.alloc (Yb 100 (List.replicate 4 0))).setRow w1.heap.size (bs (by4 x)).toArray = w3 at *
      generalize w1.heap.size = g1 at *
      clear hf hl2 ho2 hB2 hl1 ho1 hB1
      have hg3 := hf3.lt
      have Hl3 : Hid (w3.drew.heap[w.heap.size + 1 + 1]? = some (.cells (bs (digN s k ++ List.replicate (32 - 4 * k) 0)).toArray 60 (0, 0))) := hl3
      have Hn : Hid ((bs (by4 x)).length = Nat.min 4 (32 - 4 * k)) := by
        show 4 = Nat.min 4 (32 - 4 * k)
        simp only [Nat.min_def]; split <;> omega
      have Hpos : Hid (0 < (bs (by4 x)).length → some (⟨w.heap.size + 1 + 1, 4 * k, none⟩ : Addr) = some ⟨w.heap.size + 1 + 1, 4 * k, none⟩ ∧ ∃ ad, some (⟨g1, 0, none⟩ : Addr) = some ad ∧ ∀ j v, (bs (by4 x))[j]? = some v → w3.drew.cell? (ad.add j) = some v) := fun _ => ⟨rfl, _, rfl, fun j v hj => by
        simp only [bs, List.getElem?_map, Option.map_eq_some_iff] at hj
        obtain ⟨y, hy, rfl⟩ := hj
        have := hf3.drew.cell hy
        by_cases hj0 : j = 0
        · subst hj0; simpa [Addr.add] using this
        · simpa [Addr.add, hj0] using this⟩
      have Hfit : Hid (4 * k + (bs (by4 x)).length ≤ (bs (digN s k ++ List.replicate (32 - 4 * k) 0)).length) := by
        show 4 * k + 4 ≤ _
        rw [Hcl.out]; omega
      generalize hcur : bs (digN s k ++ List.replicate (32 - 4 * k) 0) = cur at *
      have Hcur := Lib.hid hcur
      clear hcur
      generalize hby : bs (by4 x) = Y at *
      have HY1 : Hid (∀ v ∈ Y, v.oneCell' = true) := by show ∀ v ∈ Y, _; rw [← hby]; exact bs_one _
      clear hby hf3
      have hsl := fun W => slice_at (w.heap.size + 1 + 1) k hlt W
      have h4 : IntKind.i64.wrap (4 * (k : Int)) = 4 * (k : Int) := IntWalk.i64_in _ (by omega)
      go_region_law (refine step_copy_splice rfl (.tmp 16) (.tmp 17) 25 25 rfl 5 Tryd.underlying25 (by kernel_rfl) (some ⟨w.heap.size + 1 + 1, 4 * k, none⟩) (some ⟨g1, 0, none⟩) (32 - 4 * k) (32 - 4 * k) 4 4 rfl rfl (w.heap.size + 1 + 1) (4 * k) cur 60 Hl3.out Y Hn.out Hpos.out Hfit.out HY1.out (w.heap.size + 1 + 1) w3.drew (Below.refl _ _) (Nat.le_refl _) ?_; intro w4 hw4 hb4)
      all_goals go_wp2
      go_roundw
      case rel =>
        refine ⟨k + 1, by omega, by go_num, ?_, ho3.drew.below hb4 (by omega), (below_drew hB3).trans (hb4.mono (by omega))⟩
        have := hw4.out
        rw [Hst.out] at this
        exact this
      case measure => simp [intOf]; omega
    · have hfin : Bb wr (w.heap.size + 2) 60 D := by
        have h8 : k = 8 := by omega
        rw [h8, digN_all, HD.out] at hl
        simpa using hl
      have hDl : (bs D).length = 32 := by rw [← HD.out]; rfl
      have HDl := Lib.hid hDl
      have hge : 8 ≤ k := by omega
      clear hlt hl HS HL HI hDl
      go_wp2_with (first
        | (refine wpList_load_row rfl 60 (.tmp 3) rfl (w.heap.size + 1 + 1) rfl 60 (bs D).toArray (0, 0) _ hfin Tryd.underlying60 rfl (by rw [List.size_toArray, HDl.out]; kernel_rfl) ?_)
        | (refine wpList_store_row rfl rfl 60 (.tmp 2) (.tmp 20) rfl (w.heap.size + 1) rfl (bs D) rfl 60 _ ho (bs_one _) (by rw [HDl.out]; simp [bs]) (by rw [HDl.out]; kernel_rfl) ?_))
      have hr1 := setRow_heap wr (w.heap.size + 1) _ (bs D).toArray 60 (0, 0) ho
      exact bodyPost_ret (v := .agg (bs D).toArray) (results_cell_row rfl _ _ (w.heap.size + 1) 60 _ (0, 0) _ rfl hr1 Tryd.underlying60 rfl (by rw [List.size_toArray, HDl.out]; kernel_rfl)) rfl ⟨rfl, below_setRow hB (Nat.le_succ _) _⟩
end Go.Proofs.YtafpnpfiefbddaaDoor
namespace Go.Proofs.YtafpnpfiefbddaaDoor
open Go.RowKit
set_option linter.unusedVariables false
set_option maxRecDepth 100000

theorem Tryd.info5 : (Tryd.prog.info? 5).map (fun i => (i.zero, i.size, i.bytes)) = some (some (.int .u8 0), 1, 1) := by kernel_rfl
theorem bs_replicate (n : Nat) : bs (List.replicate n 0) = List.replicate n (.int .u8 0) := by simp [bs]
theorem run_make_bs (n : Nat) (hn : n ≤ 70368744177664) (w : World) : (Instr.makeSlice 25 (.int .i64 (n : Int)) (.int .i64 (n : Int))).run Tryd.prog w =
    .ok (.slice (some ⟨w.heap.size, 0, none⟩) n n) (w.alloc (Yb 5 (List.replicate n 0))) := by
  obtain ⟨i0, hi, hz0, hz1, hz2⟩ := info_parts Tryd.info5
  have hr := run_make (P := Tryd.prog) w 25 5 i0 (.int .u8 0) Tryd.underlying25 hi hz0 .i64 .i64 n n (by omega) (Int.le_refl _) (by rw [hz2]; omega) (by omega)
  simp only [Int.toNat_natCast] at hr
  rw [hr, hz1, Nat.mul_one]
  have : (madeCells (Value.int .u8 0).cells n) = (bs (List.replicate n 0)).toArray := by
    rw [bs_replicate]
    apply Array.ext'
    exact toList_madeCells_one _ _
  rw [this]
  rfl
theorem wpList_make_bs (w : World) {ops : Array Oper} {rest : List Oper} {o : Oper} {a : Act} {Q : Exit → Act → World → Prop}
    (hg : o.guard = none) (l c : Operand) (hop : o.op = Op.makeSlice 25 l c) (L C : Int) (n : Nat) (hl : a.eval l = .int .i64 L) (hc : a.eval c = .int .i64 C) (hL : L = (n : Int)) (hC : C = (n : Int)) (hn : n ≤ 70368744177664)
    (hK : ∀ w', Bb w' w.heap.size 5 (List.replicate n 0) → Below w.heap.size w w' → wpList Tryd.prog ops Q rest (a.put o.dst (.slice (some ⟨w.heap.size, 0, none⟩) n n)) w') :
    wpList Tryd.prog ops Q (o :: rest) a w := by
  refine wpList_plain hg fun K hK' => ?_
  have hrun := run_make_bs n hn w
  subst hL
  subst hC
  unfold Oper.wp
  simp [execOp, hop, hl, hc, hrun, Result.andThen]
  exact hK' _ _ (hK _ (alloc_bb _ _ _) ((Below.refl _ _).alloc (Nat.le_refl _) _))

/-- the padding, as far as k of the last eight bytes are laid from behind -/
def padN (n k : Nat) : List Nat := 128 :: (List.replicate ((119 - n % 64) % 64) 0 ++ (List.replicate (8 - k) 0 ++ (by8 (8 * n)).drop (8 - k)))
theorem padN_all (n : Nat) : padN n 8 = pad n := rfl
theorem padN_zero (n : Nat) : padN n 0 = (List.replicate (9 + (119 - n % 64) % 64) 0).set 0 128 := by
  unfold padN
  rw [show 9 + (119 - n % 64) % 64 = ((119 - n % 64) % 64 + 8) + 1 by omega, List.replicate_succ (n := (119 - n % 64) % 64 + 8), List.set_cons_zero, List.replicate_append_replicate.symm]
  rfl
theorem length_padN (n k : Nat) (hk : k ≤ 8) : (padN n k).length = 9 + (119 - n % 64) % 64 := by
  simp [padN, by8]; omega
theorem padN_succ (n k : Nat) (hk : k < 8) : (padN n k).set (8 + (119 - n % 64) % 64 - k) ((by8 (8 * n)).getD (7 - k) 0) = padN n (k + 1) := by
  unfold padN
  obtain ⟨z, hz⟩ : ∃ z, (119 - n % 64) % 64 = z := ⟨_, rfl⟩
  rw [hz, show 8 + z - k = (z + (7 - k)) + 1 by omega, List.set_cons_succ, List.set_append, if_neg (by simp), List.length_replicate, show z + (7 - k) - z = 7 - k by omega]
  have hh : k = 0 ∨ k = 1 ∨ k = 2 ∨ k = 3 ∨ k = 4 ∨ k = 5 ∨ k = 6 ∨ k = 7 := by omega
  rcases hh with rfl | rfl | rfl | rfl | rfl | rfl | rfl | rfl <;> rfl
theorem by8_get (N k : Nat) (hk : k < 8) : (N : Int) / 2 ^ (8 * k) % 256 = (((by8 N).getD (7 - k) 0 : Nat) : Int) := by
  have hh : k = 0 ∨ k = 1 ∨ k = 2 ∨ k = 3 ∨ k = 4 ∨ k = 5 ∨ k = 6 ∨ k = 7 := by omega
  rcases hh with rfl | rfl | rfl | rfl | rfl | rfl | rfl | rfl <;> simp [by8]
theorem pad_lim (n : Nat) : Lim 256 (pad n) := by
  intro x hx
  unfold pad at hx
  simp only [List.mem_cons, List.mem_append, List.mem_replicate, by8, List.not_mem_nil, or_false] at hx
  omega

theorem padding_any (n : Nat) (hn : n ≤ 1099511627776) (w : World) : Calls Tryd.prog 40 #[.int .i64 (n : Int)] w fun e w' => ∃ g, e = .returned (.slice (some ⟨g, 0, none⟩) (9 + (119 - n % 64) % 64) (9 + (119 - n % 64) % 64)) ∧ w.heap.size ≤ g ∧ Bb w' g 5 (pad n) ∧ Below w.heap.size w w' := by
  obtain ⟨z, hz⟩ : ∃ z, (119 - n % 64) % 64 = z := ⟨_, rfl⟩
  rw [hz]
  have ez : (119 - (n : Int) % 64) % 64 = (z : Int) := by omega
  have hz64 : z < 64 := by omega
  have Hz := Lib.hid hz
  clear hz
  go_enter Tryd.func40, Tryd.ntmps40
  go_wp2_with (refine wpList_make_bs _ rfl (.tmp 13) (.tmp 13) rfl _ _ (9 + z) rfl rfl (by omega) (by omega) (by omega) ?_; intro w1 hm hb1; have hc0 := hm.cell (j := 0) (x := 0) (by rw [List.getElem?_replicate, if_pos (by omega)]); have hf0 := hm.frozen 0)
  have hm2 := hm.set_ 0 128
  have hB2 := hb1.setCell (p := ⟨w.heap.size, 0, none⟩) (Nat.le_refl _) (.int .u8 (128 : Nat))
  rw [← Hz.out, ← padN_zero] at hm2
  change Bb (w1.setCell ⟨w.heap.size, 0, none⟩ (.int .u8 128)) _ _ _ at hm2
  change Below _ _ (w1.setCell ⟨w.heap.size, 0, none⟩ (.int .u8 128)) at hB2
  generalize w1.setCell ⟨w.heap.size, 0, none⟩ (.int .u8 128) = w2 at *
  clear hm hb1 hc0 hf0
  go_loopw [20] (fun i wr => ∃ k : Nat, k ≤ 8 ∧ i = .int .i64 k ∧ Bb wr w.heap.size 5 (padN n k) ∧ Below w.heap.size w wr) (fun i _ => 8 - (intOf i).toNat)
  case atStart => exact ⟨0, by omega, rfl, hm2, hB2⟩
  case round =>
    clear hm2 hB2
    obtain ⟨k, hk, rfl, hm, hB⟩ := hrel
    by_cases hlt : k < 8
    · have hl := length_padN n k hk
      rw [Hz.out] at hl
      have hc := hm.cellD (j := 8 + z - k) (by omega)
      have hf := hm.frozen (8 + z - k)
      have Hs := Lib.hid (padN_succ n k hlt)
      have Hg := Lib.hid (by8_get (8 * n) k hlt)
      have h8 : (8 * (k : Int)).toNat = 8 * k := by omega
      have h9 : (↑9 + ↑z - 1 - (k : Int)).toNat = 8 + z - k := by omega
      clear hl
      go_wp2
      go_roundw
      case rel =>
        refine ⟨k + 1, by omega, by go_num, ?_, hB.setCell (p := ⟨w.heap.size, 8 + z - k, none⟩) (Nat.le_refl _) _⟩
        have e : (n : Int) * 8 = ((8 * n : Nat) : Int) := by omega
        rw [e, Hg.out, ← Hs.out, Hz.out]
        exact hm.set_ _ _
      case measure => simp [intOf]; omega
    · have hf : Bb wr w.heap.size 5 (pad n) := by
        rw [show k = 8 by omega, padN_all] at hm
        exact hm
      have hge : 8 ≤ k := by omega
      clear hlt hm
      go_wp2
      go_ret
      exact ⟨w.heap.size, rfl, Nat.le_refl _, hf, hB⟩
end Go.Proofs.YtafpnpfiefbddaaDoor
