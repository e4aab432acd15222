/- A text's digits; whether texts have a time's lengths; a text cut at a byte. -/
import Derived.Test.YtddjgjaifflpeaaDoorDigits
import Derived.Lib.BufferWrite
import Derived.Lib.SlBuf
namespace Go.Proofs.YtddjgjaifflpeaaDoor
open Go.RowKit
set_option linter.unusedVariables false
set_option maxRecDepth 100000

/-- a text's bytes -/
def sb (s : ByteArray) : List Nat := s.data.toList.map UInt8.toNat
theorem length_sb (s : ByteArray) : (sb s).length = s.size := by unfold sb; rw [List.length_map, ← Lib.size_eq]
theorem lim_sb (s : ByteArray) : Lim 256 (sb s) := by
  intro x hx
  simp only [sb, List.mem_map] at hx
  obtain ⟨b, _, rfl⟩ := hx
  exact b.toNat_lt
theorem byteCells_sb (s : ByteArray) : Lib.byteCells s.data.toList = bs (sb s) := by
  unfold Lib.byteCells bs sb
  rw [List.map_map]; rfl
def Bb' (w : World) (g t : Nat) (V : List Value) : Prop := w.heap[g]? = some (.cells V.toArray t (0, 0))
/-- its digits, with noughts ahead -/
def pad (s : ByteArray) : List Nat := List.replicate (10 - s.size) 48 ++ sb s
theorem length_pad (s : ByteArray) (h : s.size ≤ 10) : (pad s).length = 10 := by
  unfold pad; rw [List.length_append, List.length_replicate, length_sb]; omega
theorem lim_pad (s : ByteArray) : Lim 256 (pad s) := Lim.append (fun x hx => by rw [List.mem_replicate] at hx; omega) (lim_sb s)
theorem ten_zero : ten 0 = List.replicate 10 48 := rfl
theorem slice_ten (g n : Nat) (h1 : 1 ≤ n) (h2 : n ≤ 10) (W : World) : (Instr.sliceAt 51 (.pointer (some ⟨g, 0, none⟩)) (some (.int .i64 (10 - (n : Int)))) none none).run Tryd.prog W = .ok (.slice (some ⟨g, 10 - n, none⟩) n n) W := by
  have hh : n = 1 ∨ n = 2 ∨ n = 3 ∨ n = 4 ∨ n = 5 ∨ n = 6 ∨ n = 7 ∨ n = 8 ∨ n = 9 ∨ n = 10 := by omega
  rcases hh with rfl | rfl | rfl | rfl | rfl | rfl | rfl | rfl | rfl | rfl <;> rfl
/-- stamp.digitsOf -/
theorem digitsOf_any (s : ByteArray) (h1 : 1 ≤ s.size) (h2 : s.size ≤ 10) (w : World) : Calls Tryd.prog 40 #[.string s] w fun e w' => e = .returned (.agg (bs (pad s)).toArray) ∧ Below w.heap.size w w' := by
  obtain ⟨n, hn⟩ : ∃ n, s.size = n := ⟨_, rfl⟩
  have hT := fun w => tens_any 0 (by omega) w
  obtain ⟨Z, hZ⟩ : ∃ Z, ten 0 = Z := ⟨_, rfl⟩
  have HZl : Hid (Z.length = 10) := Lib.hid (by rw [← hZ]; rfl)
  have HP := Lib.hid (show (bs Z).take (10 - n) ++ Lib.byteCells s.data.toList ++ (bs Z).drop (10 - n + n) = bs (pad s) by
    rw [← hZ, ten_zero, byteCells_sb, pad, bs_append, hn, List.drop_eq_nil_of_le (by rw [length_bs, List.length_replicate]; omega), List.append_nil]
    congr 1
    unfold bs
    rw [← List.map_take, List.take_replicate, show min (10 - n) 10 = 10 - n by omega])
  have hl := length_pad s h2
  obtain ⟨D, hD⟩ : ∃ D, bs (pad s) = D := ⟨_, rfl⟩
  rw [hD] at HP ⊢
  have HDl : Hid (D.length = 10) := Lib.hid (by rw [← hD, length_bs, hl])
  have HD1 : Hid (∀ v ∈ D, v.oneCell' = true) := Lib.hid (by rw [← hD]; exact bs_one _)
  have HN := Lib.hid hn
  have Hs1 : Hid (s.size ≤ n) := Lib.hid (by omega)
  have hq := fun g W => slice_ten g n (by omega) (by omega) W
  have o0 : Bb (w.alloc (Yb 51 (List.replicate 10 0))) w.heap.size 51 (List.replicate 10 0) := alloc_bb w 51 _
  have b0 : Below w.heap.size w (w.alloc (Yb 51 (List.replicate 10 0))) := (Below.refl _ _).alloc (Nat.le_refl _) _
  rw [hn] at h1 h2
  rw [hZ] at hT
  clear hD hl hZ
  go_enter Tryd.func40, Tryd.ntmps40
  go_wp2_with fail
  change Calls _ _ _ (w.alloc (Yb 51 (List.replicate 10 0))) _
  refine (hT _).mono ?_
  rintro e w1 ⟨rfl, b1⟩
  clear hT
  have o1 := o0.below b1 o0.lt
  have B1 := b0.trans (b1.mono b0.size)
  have hs1 := o1.lt
  clear o0 b0 b1
  have o2 : Bb (w1.alloc (Yb 51 (List.replicate 10 0))) w.heap.size 51 (List.replicate 10 0) := o1.alloc _
  have p2 : Bb (w1.alloc (Yb 51 (List.replicate 10 0))) w1.heap.size 51 (List.replicate 10 0) := alloc_bb w1 51 _
  have B2 : Below w.heap.size w (w1.alloc (Yb 51 (List.replicate 10 0))) := B1.alloc B1.size _
  have o3 : Bb ((w1.alloc (Yb 51 (List.replicate 10 0))).setRow w1.heap.size (bs Z).toArray) w.heap.size 51 (List.replicate 10 0) := (setRow_other _ _ _ _ (by omega)).trans o2
  have p3 : Bb ((w1.alloc (Yb 51 (List.replicate 10 0))).setRow w1.heap.size (bs Z).toArray) w1.heap.size 51 Z := setRow_heap _ _ _ _ _ _ p2
  have B3 : Below w.heap.size w ((w1.alloc (Yb 51 (List.replicate 10 0))).setRow w1.heap.size (bs Z).toArray) := below_setRow B2 (by omega) _
  obtain ⟨w3, hw3⟩ : ∃ w3, (w1.alloc (Yb 51 (List.replicate 10 0))).setRow w1.heap.size (bs Z).toArray = w3 := ⟨_, rfl⟩
  rw [hw3] at o3 p3 B3
  have HW := Lib.hid hw3
  have Hp2 := Lib.hid p2
  clear hw3 B2 o2 o1 p2
  have hcopy : (Builtin.copy_ #[56, 9] 3 #[.slice (some ⟨w1.heap.size, 10 - n, none⟩) n n, .string s]).run Tryd.prog w3 = .ok (goInt s.size) (w3.setRow w1.heap.size D.toArray) := by
    have := Lib.run_copy_row_string (P := Tryd.prog) w3 56 9 3 5 w1.heap.size (10 - n) n n s (bs Z).toArray 51 Tryd.underlying56 (by kernel_rfl) p3 Hs1.out (by rw [List.size_toArray, length_bs, HZl.out, HN.out]; omega)
    rw [this, HN.out]
    have e := HP.out
    rw [← e]
  have Hc := Lib.hid hcopy
  clear hcopy
  have p4 : Bb' (w3.setRow w1.heap.size D.toArray) w1.heap.size 51 D := setRow_heap _ _ _ _ _ _ p3
  have o4 : Bb (w3.setRow w1.heap.size D.toArray) w.heap.size 51 (List.replicate 10 0) := (setRow_other _ _ _ _ (by omega)).trans o3
  have B4 : Below w.heap.size w (w3.setRow w1.heap.size D.toArray) := below_setRow B3 (by omega) _
  go_wp2_with (first
    | (change wpList _ _ _ _ _ (w1.alloc (Yb 51 (List.replicate 10 0))); refine wpList_store_row rfl rfl 51 (.tmp 3) (.tmp 4) rfl w1.heap.size rfl (bs Z) rfl 51 _ Hp2.out (bs_one _) (by rw [length_bs, HZl.out]; simp [bs]) (by rw [length_bs, HZl.out]; kernel_rfl) ?_; rw [HW.out])
    | (refine Lib.wpList_copy_run _ rfl (.tmp 8) (.tmp 9) 56 9 rfl _ _ rfl rfl Hc.out ?_)
    | (refine wpList_load_row rfl 51 (.tmp 3) rfl w1.heap.size rfl 51 D.toArray (0, 0) _ p4 Tryd.underlying51 rfl (by rw [List.size_toArray, HDl.out]; kernel_rfl) ?_)
    | (refine wpList_store_row rfl rfl 51 (.tmp 2) (.tmp 11) rfl w.heap.size rfl D rfl 51 _ o4 HD1.out (by rw [HDl.out]; simp [bs]) (by rw [HDl.out]; kernel_rfl) ?_))
  have hr1 := setRow_heap _ w.heap.size _ D.toArray 51 (0, 0) o4
  exact bodyPost_ret (v := .agg D.toArray) (results_cell_row rfl _ _ w.heap.size 51 _ (0, 0) _ rfl hr1 Tryd.underlying51 rfl (by rw [List.size_toArray, HDl.out]; kernel_rfl)) rfl ⟨rfl, below_setRow B4 (Nat.le_refl _) _⟩
end Go.Proofs.YtddjgjaifflpeaaDoor
