/- stamp.Print. -/
import Derived.Test.YtddjgjaifflpeaaDoorJoin
import Derived.Test.YtddjgjaifflpeaaDoorParse
namespace Go.Proofs.YtddjgjaifflpeaaDoor
open Go.RowKit
set_option linter.unusedVariables false
set_option maxRecDepth 100000

theorem length_trim (xs : List Nat) : (trim xs).length ≤ xs.length := by
  induction xs with
  | nil => exact Nat.le_refl _
  | cons x xs ih => rw [trim]; split <;> simp <;> omega
theorem lim_trim (xs : List Nat) (h : Lim 256 xs) : Lim 256 (trim xs) := by
  induction xs with
  | nil => exact h
  | cons x xs ih =>
    rw [trim]
    split
    · exact ih (fun y hy => h y (List.mem_cons_of_mem _ hy))
    · exact h
/-- the text of a time -/
def text (D E : List Nat) : List Nat := trim (D.take 9) ++ (D.drop 9 ++ (46 :: E))
def printed (t : Nat) : List Nat := text (ten (t / 4294967296)) (ten (t % 4294967296 * 9765625 / 4194304))
theorem cut9 (g : Nat) (W : World) : (Instr.sliceAt 51 (.pointer (some ⟨g, 0, none⟩)) none (some (.int .i64 9)) none).run Tryd.prog W = .ok (.slice (some ⟨g, 0, none⟩) 9 10) W := rfl
theorem cut9' (g : Nat) (W : World) : (Instr.sliceAt 51 (.pointer (some ⟨g, 0, none⟩)) (some (.int .i64 9)) none none).run Tryd.prog W = .ok (.slice (some ⟨g, 9, none⟩) 1 1) W := rfl
theorem cut0 (g : Nat) (W : World) : (Instr.sliceAt 51 (.pointer (some ⟨g, 0, none⟩)) none none none).run Tryd.prog W = .ok (.slice (some ⟨g, 0, none⟩) 10 10) W := rfl
/-- the four pieces -/
def Pb (A : Option Addr) (n c g gd : Nat) : Obj := .cells #[.slice A n c, .slice (some ⟨g, 9, none⟩) 1 1, .slice (some ⟨gd, 0, none⟩) 1 1, .slice (some ⟨g + 1, 0, none⟩) 10 10] 56 (0, 0)
def pA (A : Option Addr) (g gd : Nat) : Nat → Option Addr | 0 => A | 1 => some ⟨g, 9, none⟩ | 2 => some ⟨gd, 0, none⟩ | _ => some ⟨g + 1, 0, none⟩
def pn (n : Nat) : Nat → Nat | 0 => n | 1 => 1 | 2 => 1 | _ => 10
def px (D E : List Nat) : Nat → List Nat | 0 => trim (D.take 9) | 1 => D.drop 9 | 2 => [46] | _ => E
def pJ (D E : List Nat) : Nat → List Nat | 0 => [] | 1 => trim (D.take 9) | 2 => trim (D.take 9) ++ D.drop 9 | 3 => trim (D.take 9) ++ D.drop 9 ++ [46] | _ => trim (D.take 9) ++ D.drop 9 ++ [46] ++ E
theorem pJ_text (D E : List Nat) : pJ D E 4 = text D E := by simp [pJ, text]
theorem cells_pb (w : World) (A : Option Addr) (n c g gd : Nat) : ∀ k, k < 4 → (w.alloc (Pb A n c g gd)).cell? ⟨w.heap.size, k, none⟩ = some (.slice (pA A g gd k) (pn n k) (pn c k)) := by
  intro k hk
  rw [cell_of_row _ _ k _ 56 (0, 0) (heap_alloc_new w (Pb A n c g gd))]
  have hh : k = 0 ∨ k = 1 ∨ k = 2 ∨ k = 3 := by omega
  rcases hh with rfl | rfl | rfl | rfl <;> rfl
theorem join_four {w : World} {g G gd n c : Nat} {A : Option Addr} {D E : List Nat} (hc : ∀ k, k < 4 → w.cell? ⟨g, k, none⟩ = some (.slice (pA A G gd k) (pn n k) (pn c k))) (hn : n ≤ 1000) (lD : D.length = 10) (lE : E.length = 10)
    (h1 : Nb w w.heap.size A n c (trim (D.take 9))) (h2 : Nb w w.heap.size (some ⟨G, 9, none⟩) 1 1 ((D.drop 9).take 1)) (h3 : Nb w w.heap.size (some ⟨gd, 0, none⟩) 1 1 (([46] : List Nat).drop 0 |>.take 1)) (h4 : Nb w w.heap.size (some ⟨G + 1, 0, none⟩) 10 10 ((E.drop 0).take 10)) :
    Calls Tryd.prog 45 #[.slice (some ⟨g, 0, none⟩) 4 4] w fun e w' => e = .returned (.string (bstr (text D E))) ∧ Below w.heap.size w w' := by
  have e2 : (D.drop 9).take 1 = D.drop 9 := List.take_of_length_le (by rw [List.length_drop, lD]; omega)
  have e4 : (E.drop 0).take 10 = E := by rw [List.drop_zero, List.take_of_length_le (by omega)]
  rw [e2] at h2
  rw [e4] at h4
  rw [← pJ_text]
  refine join_any (As := pA A G gd) (ns := pn n) (cs := pn c) (xs := px D E) (J := pJ D E) hc ?_ ?_ rfl ?_ ?_
  · intro k hk
    have hh : k = 0 ∨ k = 1 ∨ k = 2 ∨ k = 3 := by omega
    rcases hh with rfl | rfl | rfl | rfl
    · exact h1
    · exact h2
    · exact h3
    · exact h4
  · intro k hk
    have hh : k = 0 ∨ k = 1 ∨ k = 2 ∨ k = 3 := by omega
    rcases hh with rfl | rfl | rfl | rfl <;> simp [pn] <;> omega
  · intro k hk
    have hh : k = 0 ∨ k = 1 ∨ k = 2 ∨ k = 3 := by omega
    rcases hh with rfl | rfl | rfl | rfl <;> rfl
  · simp [pJ]; omega
set_option maxHeartbeats 2000000 in
/-- stamp.Print -/
theorem print_any (t : Nat) (ht : t < 18446744073709551616) (w : World) : Calls Tryd.prog 33 #[.int .u64 (t : Int)] w fun e w' => e = .returned (.string (bstr (printed t))) ∧ Below w.heap.size w w' := by
  obtain ⟨D, hD⟩ : ∃ D, ten (t / 4294967296) = D := ⟨_, rfl⟩
  obtain ⟨E, hE⟩ : ∃ E, ten (t % 4294967296 * 9765625 / 4194304) = E := ⟨_, rfl⟩
  have q1 := secDigits_any t ht
  have q2 := partDigits_any t ht
  have lD : D.length = 10 := by rw [← hD]; exact length_low _ _
  have lE : E.length = 10 := by rw [← hE]; exact length_low _ _
  have mD : Lim 256 D := by rw [← hD]; exact lim_low _ _
  have mE : Lim 256 E := by rw [← hE]; exact lim_low _ _
  unfold printed
  rw [hD] at q1 ⊢
  rw [hE] at q2 ⊢
  have HlD := Lib.hid lD
  have HlE := Lib.hid lE
  have HmD := Lib.hid mD
  have HmE := Lib.hid mE
  have Hsec := Lib.hid q1
  have Hpart := Lib.hid q2
  obtain ⟨R, hR⟩ : ∃ R, bstr (text D E) = R := ⟨_, rfl⟩
  rw [hR]
  have HR := Lib.hid hR
  clear hD hE q1 q2 lD lE mD mE hR
  go_enter Tryd.func33, Tryd.ntmps33
  go_wp2_with fail
  refine (Hsec.out _).mono ?_
  rintro e w1 ⟨rfl, B1⟩
  go_wp2_with fail
  refine (Hpart.out _).mono ?_
  rintro e w2 ⟨rfl, b2⟩
  have B2 := B1.trans (b2.mono B1.size)
  clear b2 B1
  have n1 : Bb ((w2.alloc (Yb 51 (List.replicate 10 0))).alloc (Yb 51 (List.replicate 10 0))) w2.heap.size 51 (List.replicate 10 0) := (alloc_bb _ _ _).alloc _
  have n2 : Bb ((w2.alloc (Yb 51 (List.replicate 10 0))).alloc (Yb 51 (List.replicate 10 0))) (w2.heap.size + 1) 51 (List.replicate 10 0) := by
    have := alloc_bb (w2.alloc (Yb 51 (List.replicate 10 0))) 51 (List.replicate 10 0)
    rwa [World.size_alloc] at this
  have B3 : Below w.heap.size w ((w2.alloc (Yb 51 (List.replicate 10 0))).alloc (Yb 51 (List.replicate 10 0))) := (B2.alloc B2.size _).alloc (by simp; have := B2.size; omega) _
  have hs2 := B2.size
  obtain ⟨w3, hw3⟩ : ∃ w3, (w2.alloc (Yb 51 (List.replicate 10 0))).alloc (Yb 51 (List.replicate 10 0)) = w3 := ⟨_, rfl⟩
  rw [hw3] at n1 n2 B3
  have Hw3 := Lib.hid hw3
  clear hw3 B2
  have m1 : Bb (w3.setRow w2.heap.size (bs D).toArray) w2.heap.size 51 D := setRow_heap _ _ _ _ _ _ n1
  have n3 : Bb (w3.setRow w2.heap.size (bs D).toArray) (w2.heap.size + 1) 51 _ := (setRow_other _ _ _ _ (by omega)).trans n2
  have m2 : Bb ((w3.setRow w2.heap.size (bs D).toArray).setRow (w2.heap.size + 1) (bs E).toArray) (w2.heap.size + 1) 51 E := setRow_heap _ _ _ _ _ _ n3
  have m3 : Bb ((w3.setRow w2.heap.size (bs D).toArray).setRow (w2.heap.size + 1) (bs E).toArray) w2.heap.size 51 D := (setRow_other _ _ _ _ (by omega)).trans m1
  have B4 : Below w.heap.size w ((w3.setRow w2.heap.size (bs D).toArray).setRow (w2.heap.size + 1) (bs E).toArray) := below_setRow (below_setRow B3 hs2 _) (by omega) _
  obtain ⟨w4, hw4⟩ : ∃ w4, (w3.setRow w2.heap.size (bs D).toArray).setRow (w2.heap.size + 1) (bs E).toArray = w4 := ⟨_, rfl⟩
  rw [hw4] at m2 m3 B4
  have Hw4 := Lib.hid hw4
  clear hw4 B3
  have Hr1 := Lib.hid n1
  have Hr3 := Lib.hid n3
  clear n1 n2 n3 m1
  go_wp2_with (first
    | (change wpList _ _ _ _ _ ((w2.alloc (Yb 51 (List.replicate 10 0))).alloc (Yb 51 (List.replicate 10 0))); rw [Hw3.out]; refine wpList_store_row rfl rfl 51 (.tmp 3) (.tmp 6) rfl w2.heap.size rfl (bs D) rfl 51 _ Hr1.out (bs_one _) (by rw [length_bs, HlD.out]; simp [bs]) (by rw [length_bs, HlD.out]; kernel_rfl) ?_)
    | (refine wpList_store_row rfl rfl 51 (.tmp 4) (.tmp 8) rfl (w2.heap.size + 1) rfl (bs E) rfl 51 _ Hr3.out (bs_one _) (by rw [length_bs, HlE.out]; simp [bs]) (by rw [length_bs, HlE.out]; kernel_rfl) ?_; rw [Hw4.out]))
  have z1 := cut9 w2.heap.size
  have z2 := cut9' w2.heap.size
  have z3 := cut0 (w2.heap.size + 1)
  refine wp_region_any (by kernel_rfl) ?_
  change wpAny _ _ _ _ _ _ _ (World.drew _)
  replace m2 := m2.drew
  replace m3 := m3.drew
  replace B4 := below_drew B4
  generalize w4.drew = w5 at *
  generalize w2.heap.size = g at *
  refine take_op (i := 0) (d := 9) (v := .slice (some ⟨g, 0, none⟩) 9 10) (a' := _) (by rfl) (by kernel_rfl) (by kernel_rfl) (by kernel_rfl) (fun _ _ _ h => h) (by rfl) (by rfl) (fun W => by go_simp; try rfl) (by go_simp; exact rfl) ?_
  refine take_op (i := 2) (d := 11) (v := .slice (some ⟨g, 9, none⟩) 1 1) (a' := _) (by rfl) (by kernel_rfl) (by kernel_rfl) (by kernel_rfl) (fun _ _ _ h => h) (by rfl) (by rfl) (fun W => by go_simp; try rfl) (by go_simp; exact rfl) ?_
  refine take_op (i := 4) (d := 13) (v := .slice (some ⟨g + 1, 0, none⟩) 10 10) (a' := _) (by rfl) (by kernel_rfl) (by kernel_rfl) (by kernel_rfl) (fun _ _ _ h => h) (by rfl) (by rfl) (fun W => by go_simp; try rfl) (by go_simp; exact rfl) ?_
  refine wpAny_ready (rs := [1, 3]) (by kernel_rfl) (by simp) ?_
  refine AllReady.cons rfl (fun K hK => ?PA) (AllReady.cons rfl (fun K hK => ?PB) AllReady.nil)
  case PA =>
    go_simp
    go_at_call 46
    have p9 := m3.nb 0 9 10 (by rw [HlD.out]; omega) (by omega) (by omega) HmD.out
    rw [List.drop_zero] at p9
    refine (trimLeft_any p9 (by omega) (by omega)).mono ?_
    rintro e wn ⟨⟨q, rfl⟩, A1, n1, c1, rfl, h1⟩
    replace h1 := h1.more (show w5.heap.size ≤ (w5.drewN q).heap.size from Nat.le_refl _)
    replace m3 := m3.drewN q
    replace m2 := m2.drewN q
    replace B4 := below_drewN B4 q
    dsimp only
    try go_simp
    refine hK _ _ ?_
    clear hK K p9
    obtain ⟨w6, hw6⟩ : ∃ w6, w5.drewN q = w6 := ⟨_, rfl⟩
    rw [hw6] at h1 m3 m2 B4 ⊢
    clear hw6
    have ln1 := h1.len
    have lt1 := length_trim (D.take 9)
    rw [List.length_take, HlD.out] at lt1
    refine wpAny_ready (rs := [3]) (by kernel_rfl) (by simp) ?_
    refine AllReady.cons rfl (fun K hK => ?_) AllReady.nil
    go_simp
    refine hK _ _ ?_
    clear hK K
    have d3 : Bb (w6.alloc (Yb 5 [46])) w6.heap.size 5 [46] := alloc_bb _ _ _
    have bb : Below w6.heap.size w6 (w6.alloc (Yb 5 [46])) := (Below.refl _ _).alloc (Nat.le_refl _) _
    replace m3 := m3.alloc (Yb 5 [46])
    replace m2 := m2.alloc (Yb 5 [46])
    replace B4 := then_ B4 bb
    replace h1 := h1.far bb
    clear bb
    change wpAny _ _ _ _ _ _ _ (w6.alloc (Yb 5 [46]))
    obtain ⟨w7, hw7⟩ : ∃ w7, w6.alloc (Yb 5 [46]) = w7 := ⟨_, rfl⟩
    rw [hw7] at d3 m3 m2 B4 h1 ⊢
    clear hw7
    generalize w6.heap.size = gd at *
    refine wpAny_ready (rs := [5]) (by kernel_rfl) (by simp) ?_
    refine AllReady.cons rfl (fun K hK => ?_) AllReady.nil
    go_simp
    refine hK _ _ ?_
    clear hK K
    change wpAny _ _ _ _ _ _ _ (w7.alloc (Pb A1 n1 c1 g gd))
    have bb : Below w7.heap.size w7 (w7.alloc (Pb A1 n1 c1 g gd)) := (Below.refl _ _).alloc (Nat.le_refl _) _
    have HC := Lib.hid (cells_pb w7 A1 n1 c1 g gd)
    have P1 := Lib.hid (h1.far bb)
    have P2 := Lib.hid ((m3.nb 9 1 1 (by rw [HlD.out]; omega) (by omega) (by omega) HmD.out).far bb)
    have P3 := Lib.hid ((d3.nb 0 1 1 (by simp) (by omega) (by omega) (Lim.one (by omega))).far bb)
    have P4 := Lib.hid ((m2.nb 0 10 10 (by rw [HlE.out]; omega) (by omega) (by omega) HmE.out).far bb)
    replace B4 := then_ B4 bb
    clear bb
    obtain ⟨wz, hwz⟩ : ∃ wz, w7.alloc (Pb A1 n1 c1 g gd) = wz := ⟨_, rfl⟩
    rw [hwz] at HC P1 P2 P3 P4 B4 ⊢
    clear hwz
    have HJ := Lib.hid (join_four (g := w7.heap.size) HC.out (by omega) HlD.out HlE.out P1.out P2.out P3.out P4.out)
    rw [HR.out] at HJ
    generalize w7.heap.size = gz at *
    refine wpAny_ready (rs := [6]) (by kernel_rfl) (by simp) ?_
    refine AllReady.cons rfl (fun K hK => ?_) AllReady.nil
    go_simp
    go_at_call 45
    refine HJ.out.mono ?_
    rintro e we ⟨rfl, be⟩
    replace B4 := B4.trans (be.mono B4.size)
    dsimp only
    try go_simp
    refine hK _ _ ?_
    clear hK K
    refine take_op (i := 7) (d := 2) (v := .string R) (a' := _) (by rfl) (by kernel_rfl) (by kernel_rfl) (by kernel_rfl) (fun _ _ _ h => h) (by rfl) (by rfl) (fun W => by go_simp; try rfl) (by go_simp; exact rfl) ?_
    refine wpAny_done (by kernel_rfl) ?_ _
    go_wp2
    go_ret
    exact ⟨rfl, B4⟩
  case PB =>
    go_simp
    refine hK _ _ ?_
    clear hK K
    have d3 : Bb (w5.alloc (Yb 5 [46])) w5.heap.size 5 [46] := alloc_bb _ _ _
    have bb : Below w5.heap.size w5 (w5.alloc (Yb 5 [46])) := (Below.refl _ _).alloc (Nat.le_refl _) _
    replace m3 := m3.alloc (Yb 5 [46])
    replace m2 := m2.alloc (Yb 5 [46])
    replace B4 := then_ B4 bb
    clear bb
    change wpAny _ _ _ _ _ _ _ (w5.alloc (Yb 5 [46]))
    obtain ⟨w6, hw6⟩ : ∃ w6, w5.alloc (Yb 5 [46]) = w6 := ⟨_, rfl⟩
    rw [hw6] at d3 m3 m2 B4 ⊢
    clear hw6
    generalize w5.heap.size = gd at *
    refine wpAny_ready (rs := [1]) (by kernel_rfl) (by simp) ?_
    refine AllReady.cons rfl (fun K hK => ?_) AllReady.nil
    go_simp
    go_at_call 46
    have p9 := m3.nb 0 9 10 (by rw [HlD.out]; omega) (by omega) (by omega) HmD.out
    rw [List.drop_zero] at p9
    refine (trimLeft_any p9 (by omega) (by omega)).mono ?_
    rintro e wn ⟨⟨q, rfl⟩, A1, n1, c1, rfl, h1⟩
    replace h1 := h1.more (show w6.heap.size ≤ (w6.drewN q).heap.size from Nat.le_refl _)
    replace m3 := m3.drewN q
    replace m2 := m2.drewN q
    replace B4 := below_drewN B4 q
    replace d3 := d3.drewN q
    dsimp only
    try go_simp
    refine hK _ _ ?_
    clear hK K p9
    obtain ⟨w7, hw7⟩ : ∃ w7, w6.drewN q = w7 := ⟨_, rfl⟩
    rw [hw7] at h1 m3 m2 B4 d3 ⊢
    clear hw7
    have ln1 := h1.len
    have lt1 := length_trim (D.take 9)
    rw [List.length_take, HlD.out] at lt1
    refine wpAny_ready (rs := [5]) (by kernel_rfl) (by simp) ?_
    refine AllReady.cons rfl (fun K hK => ?_) AllReady.nil
    go_simp
    refine hK _ _ ?_
    clear hK K
    change wpAny _ _ _ _ _ _ _ (w7.alloc (Pb A1 n1 c1 g gd))
    have bb : Below w7.heap.size w7 (w7.alloc (Pb A1 n1 c1 g gd)) := (Below.refl _ _).alloc (Nat.le_refl _) _
    have HC := Lib.hid (cells_pb w7 A1 n1 c1 g gd)
    have P1 := Lib.hid (h1.far bb)
    have P2 := Lib.hid ((m3.nb 9 1 1 (by rw [HlD.out]; omega) (by omega) (by omega) HmD.out).far bb)
    have P3 := Lib.hid ((d3.nb 0 1 1 (by simp) (by omega) (by omega) (Lim.one (by omega))).far bb)
    have P4 := Lib.hid ((m2.nb 0 10 10 (by rw [HlE.out]; omega) (by omega) (by omega) HmE.out).far bb)
    replace B4 := then_ B4 bb
    clear bb
    obtain ⟨wz, hwz⟩ : ∃ wz, w7.alloc (Pb A1 n1 c1 g gd) = wz := ⟨_, rfl⟩
    rw [hwz] at HC P1 P2 P3 P4 B4 ⊢
    clear hwz
    have HJ := Lib.hid (join_four (g := w7.heap.size) HC.out (by omega) HlD.out HlE.out P1.out P2.out P3.out P4.out)
    rw [HR.out] at HJ
    generalize w7.heap.size = gz at *
    refine wpAny_ready (rs := [6]) (by kernel_rfl) (by simp) ?_
    refine AllReady.cons rfl (fun K hK => ?_) AllReady.nil
    go_simp
    go_at_call 45
    refine HJ.out.mono ?_
    rintro e we ⟨rfl, be⟩
    replace B4 := B4.trans (be.mono B4.size)
    dsimp only
    try go_simp
    refine hK _ _ ?_
    clear hK K
    refine take_op (i := 7) (d := 2) (v := .string R) (a' := _) (by rfl) (by kernel_rfl) (by kernel_rfl) (by kernel_rfl) (fun _ _ _ h => h) (by rfl) (by rfl) (fun W => by go_simp; try rfl) (by go_simp; exact rfl) ?_
    refine wpAny_done (by kernel_rfl) ?_ _
    go_wp2
    go_ret
    exact ⟨rfl, B4⟩
end Go.Proofs.YtddjgjaifflpeaaDoor
