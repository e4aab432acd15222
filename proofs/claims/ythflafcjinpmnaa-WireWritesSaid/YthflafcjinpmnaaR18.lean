/- law10.alive: the fixed calls. -/
import Derived.Test.YthflafcjinpmnaaR17
namespace Go.Proofs.Ythflafcjinpmnaa
open Go.RowKit
set_option linter.unusedVariables false
set_option maxRecDepth 100000
/-- a field of Op 1 alone -/
def x1 : El := ⟨1, false, false, 0, 0, 0, none, 0, 0, none, 0, 0, [], []⟩
theorem pkP_ok : pkP.h.ok := ⟨by decide, by decide⟩
theorem write_plain (w : World) : Calls Try.prog 10 #[pkV pkP] w fun e w' => ∃ A c, e = .returned (.tuple #[.slice A 48 c, .int .i64 0]) ∧ Gb w' w.heap.size A 48 c (packW pkP [] []) ∧ RowKit.Below w.heap.size w w' := by
  refine (write_any pkP [] [] (w := w) ⟨rfl, (fun x hx => by cases hx), .inl rfl⟩ (Nb.nil _ _ 0 (by omega) none)).mono ?_
  rintro e w' (⟨h, -, -⟩ | ⟨-, A, c, rfl, g, b⟩)
  · exact absurd h (by decide +kernel)
  · exact ⟨A, c, rfl, g, b⟩
theorem write_one {w : World} (p : Pk) (hh : p.h = pkP.h) (hm : p.m = m0) (hn : p.n = 1) (h : Es w w.heap.size p.A 1 [x1]) : Calls Try.prog 10 #[pkV p] w fun e w' => ∃ A c, e = .returned (.tuple #[.slice A 72 c, .int .i64 0]) ∧ Gb w' w.heap.size A 72 c (packW p [x1] []) ∧ RowKit.Below w.heap.size w w' := by
  obtain ⟨h', A', n', c', m'⟩ := p
  dsimp only at hh hm hn h
  subst hh hm hn
  refine (write_any ⟨pkP.h, A', 1, c', m0⟩ [x1] [] (w := w) h (Nb.nil _ _ 0 (by omega) none)).mono ?_
  rintro e w' (⟨h, -, -⟩ | ⟨-, A, c, rfl, g, b⟩)
  · exact absurd h (by have : rightB ⟨pkP.h, A', 1, c', m0⟩ [x1] = true := by rfl
                       rw [this]; decide)
  · exact ⟨A, c, rfl, g, b⟩
theorem read_nil (w : World) : Calls Try.prog 15 #[.slice none 0 0] w fun e w' => e = .returned (.tuple #[pkV pk0, flV 0 72]) ∧ RowKit.Below w.heap.size w w' := by
  refine (read_any (w := w) (xs := []) (Nb.nil _ _ 0 (by omega) none) (by omega)).mono ?_
  rintro e w' ⟨b, p, en, a, k, rfl, h⟩
  unfold Rd at h
  rw [show prs [] = .bad 0 72 from rfl] at h
  obtain ⟨rfl, -, rfl, rfl⟩ := h
  exact ⟨rfl, b⟩
set_option maxHeartbeats 4000000 in
theorem alive_any (w : World) : Calls Try.prog 8 #[] w fun e w' => e = .returned (.bool true) ∧ RowKit.Below w.heap.size w w' := by
  go_enter Try.func8, Try.ntmps8
  go_wp2_with fail
  refine (plain_any w).mono ?_
  rintro e w1 ⟨rfl, b1⟩
  have HB1 := Lib.hid b1
  clear b1
  go_wp2_with fail
  refine (write_plain w1).mono ?_
  rintro e w2 ⟨A2, k2, rfl, g2, b2⟩
  have HB2 := Lib.hid (bthen HB1.out b2 (Nat.le_refl _))
  have HG2 := Lib.hid (g2.nb (packW_lim (p := pkP) (l := []) (ms := []) (fun x hx => by cases hx) (Lim.nil _)))
  clear b2 g2
  go_wp2_with fail
  refine (plain_any w2).mono ?_
  rintro e w3 ⟨rfl, b3⟩
  have HB3 := Lib.hid (bthen HB2.out b3 (Nat.le_refl _))
  have HG3 := Lib.hid (HG2.out.far b3)
  clear b3 HG2
  obtain ⟨V, hV⟩ : ∃ V, V = (w3.alloc (.cells #[.int .i64 0, .int .i64 0, .int .i64 0, .int .i64 0, .int .i64 0, .int .i64 0, .int .u32 0, .int .u32 0, .int .u32 0, .int .u64 0, .int .u64 0, .int .u64 0, .int .u64 0, .slice none 0 0, .bool false, .int .u32 0, .slice none 0 0] 29)).setRow w3.heap.size (pkC pkP) := ⟨_, rfl⟩
  have pV : PBox V w3.heap.size pkP := by rw [hV]; exact setRow_heap _ _ _ _ _ _ (heap_alloc_new w3 _)
  have bV : RowKit.Below w3.heap.size w3 V := by rw [hV]; exact below_setRow ((Below.refl _ _).alloc (Nat.le_refl _) _) (Nat.le_refl _) _
  have sV : V.heap.size = w3.heap.size + 1 := by rw [hV]; simp [World.setRow]
  have HV := Lib.hid hV
  have HPV := Lib.hid pV
  have HBV := Lib.hid bV
  have HSV := Lib.hid sV
  clear hV pV bV sV
  go_upto_region 3 with (refine wpList_store_row rfl 29 (.tmp 3) (.tmp 15) rfl w3.heap.size (pkC pkP) rfl rfl 29 _ (heap_alloc_new w3 _) s29 rfl (pk_all _) ?_; rw [← HV.out])
  obtain ⟨V2, hV2⟩ : ∃ V2, V2 = V.alloc (.cells #[.int .i64 1, .bool false, .bool false, .int .i64 0, .int .u32 0, .int .u32 0, .slice none 0 0, .slice none 0 0] 47) := ⟨_, rfl⟩
  have pV2 : PBox V2 w3.heap.size pkP := by rw [hV2]; exact (Below.heap_alloc _ _ _ HPV.out.lt).trans HPV.out
  have eV2 : V2.heap[V.heap.size]? = some (.cells (elC x1) 47 (0, 0)) := by rw [hV2]; exact heap_alloc_new V _
  have bV2 : RowKit.Below V.heap.size V V2 := by rw [hV2]; exact (Below.refl _ _).alloc (Nat.le_refl _) _
  obtain ⟨-, -, -, -, -, -, -, -, -, -, -, -, -, c13, -⟩ := pV2.cells
  have f13 : V2.frozen? ⟨w3.heap.size, 13, none⟩ = false := frozen_of_row V2 _ 13 _ 29 pV2
  have HV2 := Lib.hid hV2
  have HP2 := Lib.hid pV2
  have HE2 := Lib.hid eV2
  have HBV2 := Lib.hid bV2
  rw [hV2] at c13 f13
  clear hV2 pV2 eV2 bV2
  go_upto_region 4 with fail
  rw [← HV2.out]
  obtain ⟨U, hU⟩ : ∃ U, U = V2.setCell ⟨w3.heap.size, 13, none⟩ (.slice (some ⟨V.heap.size, 0, none⟩) 1 1) := ⟨_, rfl⟩
  have sV2 : V2.heap.size = V.heap.size + 1 := by rw [HV2.out]; simp
  have pU : PBox U w3.heap.size ⟨pkP.h, some ⟨V.heap.size, 0, none⟩, 1, 1, m0⟩ := by rw [hU]; exact heap_setCell_same _ _ _ _ _ _ HP2.out
  have eU : U.heap[V.heap.size]? = some (.cells (elC x1) 47 (0, 0)) := by rw [hU]; exact (heap_setCell_other _ _ _ _ (by dsimp only; have := HSV.out; omega)).trans HE2.out
  have bU : RowKit.Below w3.heap.size w3 U := by rw [hU]; exact (bthen HBV.out HBV2.out (Nat.le_refl _)).setCell (by exact Nat.le_refl _) _
  have sU : U.heap.size = V.heap.size + 1 := by rw [hU]; simp [sV2]
  rw [← hU]
  have HPU := Lib.hid pU
  have HBU := Lib.hid (bthen HB3.out bU (Nat.le_refl _))
  have HGU := Lib.hid (HG3.out.far bU)
  have HEs := Lib.hid (show Es U U.heap.size (some ⟨V.heap.size, 0, none⟩) 1 [x1] from by
    refine ⟨rfl, fun x hx => ?_, .inr ⟨V.heap.size, 0, rfl, by omega, fun i x hx => ?_⟩⟩
    · simp at hx; subst hx
      exact ⟨Nb.nil _ _ 0 (by omega) none, Nb.nil _ _ 0 (by omega) none⟩
    · cases i with
      | succ i => simp at hx
      | zero =>
        simp at hx; subst hx
        have b : EBox U V.heap.size x1 := eU
        simpa using b.cells)
  clear hU pU eU bU sU sV2 c13 f13 HPV HBV HSV HV HV2 HP2 HE2 HBV2 HG3 HB3
  generalize V.heap.size = g at *
  go_wp2_with (refine wpList_load_row rfl 29 (.tmp 3) rfl w3.heap.size rfl 29 (pkC ⟨pkP.h, some ⟨g, 0, none⟩, 1, 1, m0⟩) (0, 0) _ HPU.out Try.underlying29 rfl s29 ?_)
  refine (write_one ⟨pkP.h, some ⟨g, 0, none⟩, 1, 1, m0⟩ rfl rfl rfl HEs.out).mono ?_
  rintro e w4 ⟨A4, k4, rfl, g4, b4⟩
  have HPU4 := Lib.hid (HPU.out.below b4)
  have HB4 := Lib.hid (bthen HBU.out b4 (Nat.le_refl _))
  have HG2 := Lib.hid (HGU.out.far b4)
  have HEs4 := Lib.hid (Es.more (HEs.out.below b4 (Nat.le_refl _)) b4.size)
  have HG4 := Lib.hid (g4.nb (packW_lim (p := ⟨pkP.h, some ⟨g, 0, none⟩, 1, 1, m0⟩) (l := [x1]) (ms := []) (fun x hx => by simp at hx; subst hx; exact ⟨Lim.nil _, Lim.nil _, rfl, rfl⟩) (Lim.nil _)))
  clear b4 g4 HPU HBU HGU HEs
  have HR4 := Lib.hid (read_any HG4.out (by omega))
  go_wp2_with fail
  refine HR4.out.mono ?_
  rintro e w5 ⟨b5, q, en, a, k, rfl, hrd⟩
  obtain ⟨rfl, rfl, els, ns, hmem, hsm⟩ := same_back (p := ⟨pkP.h, some ⟨g, 0, none⟩, 1, 1, m0⟩) (l := [x1]) (ms := []) rfl rfl (fun x hx => by simp at hx; subst hx; exact ⟨⟨Lim.nil _, Lim.nil _, rfl, rfl⟩, by decide, by decide⟩) ⟨pkP_ok, (by show (0 : Nat) < 4294967296; decide)⟩ rfl hrd
  obtain ⟨y1, y2, y3, y4⟩ := bx_at w5 q 0 0
  have HB6 := Lib.hid (bthen (bthen HB4.out b5 (Nat.le_refl _)) y3 (Nat.le_refl _))
  have b46 := bthen b5 y3 (Nat.le_refl _)
  have HPU6 := Lib.hid (HPU4.out.below b46)
  have HG6 := Lib.hid (HG2.out.far b46)
  have HEs6 := Lib.hid (Es.more (HEs4.out.below b46 (Nat.le_refl _)) b46.size)
  have HM6 := Lib.hid (hmem.keep (w' := bx w5 q 0 0) (Nat.le_refl _) y3.size fun z _ hz => y3.block z hz)
  have HSm := Lib.hid hsm
  have HQ6 := Lib.hid y1
  have HF6 := Lib.hid y2
  clear hrd hmem hsm y1 y2 y3 y4 b5 b46 HPU4 HG2 HEs4 HB4 HR4 HG4
  go_upto_region 6 with (first
    | (refine wpList_store_row rfl 29 (.tmp 6) (.tmp 27) rfl w5.heap.size (pkC q) rfl rfl 29 _ (bx_x w5) s29 rfl (pk_all _) ?_)
    | (refine wpList_store_row rfl 39 (.tmp 7) (.tmp 28) rfl (w5.heap.size + 1) (flC (0 : Nat) (0 : Nat)) rfl rfl 39 _ (bx_y w5 q) s39 rfl (fl_all _ _) ?_))
  rw [bx_def]
  generalize bx w5 q 0 0 = w6 at *
  go_wp2_with fail
  refine (read_nil w6).mono ?_
  rintro e w7 ⟨rfl, b7⟩
  obtain ⟨y1, y2, y3, y4⟩ := bx_at w7 pk0 0 72
  have b67 := bthen b7 y3 (Nat.le_refl _)
  have HB7 := Lib.hid (bthen HB6.out b67 (Nat.le_refl _))
  have HP7 := Lib.hid (HPU6.out.below b67)
  have HQ7 := Lib.hid (HQ6.out.below b67)
  have HG7 := Lib.hid (HG6.out.far b67)
  have HEs7 := Lib.hid (Es.more (HEs6.out.below b67 (Nat.le_refl _)) b67.size)
  have HM7 := Lib.hid (HM6.out (bx w7 pk0 0 72) b67.size fun z _ hz => b67.block z hz)
  have HF7 := Lib.hid ((b67.block _ (Array.getElem?_eq_some_iff.1 HF6.out).1).trans HF6.out)
  have HZ7 := Lib.hid y2
  clear y1 y2 y3 y4 b7 b67 HB6 HPU6 HQ6 HG6 HEs6 HM6 HF6
  go_upto_region 7 with (first
    | (refine wpList_store_row rfl 29 (.tmp 8) (.tmp 31) rfl w7.heap.size (pkC pk0) rfl rfl 29 _ (bx_x w7) s29 rfl (pk_all _) ?_)
    | (refine wpList_store_row rfl 39 (.tmp 9) (.tmp 32) rfl (w7.heap.size + 1) (flC (0 : Nat) (72 : Nat)) rfl rfl 39 _ (bx_y w7 pk0) s39 rfl (fl_all _ _) ?_))
  rw [bx_def]
  generalize bx w7 pk0 0 72 = W at *
  obtain ⟨b, off, hA2, hb2, hc2⟩ := HG7.out.cell (by omega)
  have c0 : W.cell? ⟨b, off, none⟩ = some (.int .u8 35) := hc2 0 35 rfl
  rw [hA2]
  have hf1 : W.cell? ⟨w5.heap.size + 1, 0, none⟩ = some (.int .i64 0) := (fl_cells HF7.out).1
  have hf2 : W.cell? ⟨w5.heap.size + 1, 1, none⟩ = some (.int .i64 0) := (fl_cells HF7.out).2
  have HS := Lib.hid (same_any (w := W) ⟨pkP.h, some ⟨g, 0, none⟩, 1, 1, m0⟩ [x1] [] q els ns HEs7.out (Nb.nil _ _ 0 (by omega) none) HM7.out.1 HM7.out.2 (by show 1 ≤ 140737488355328; decide))
  rw [HSm.out] at HS
  have q1 := fun W => equal39 0 0 0 0 W
  have q2 := fun W => equal39 0 72 0 72 W
  have q3 := run_guard39
  clear hA2 hb2 hc2
  go_wp2_with (first
    | (refine wpList_load_row_g rfl 29 (.tmp 3) rfl w3.heap.size rfl 29 (pkC ⟨pkP.h, some ⟨g, 0, none⟩, 1, 1, m0⟩) (0, 0) _ HP7.out Try.underlying29 rfl s29 ?_)
    | (refine wpList_load_row_g rfl 29 (.tmp 6) rfl w5.heap.size rfl 29 (pkC q) (0, 0) _ HQ7.out Try.underlying29 rfl s29 ?_))
  refine HS.out.mono ?_
  rintro e w8 ⟨rfl, b8⟩
  have HB8 := Lib.hid (bthen HB7.out b8 (Nat.le_refl _))
  have hz := (b8.block _ (Array.getElem?_eq_some_iff.1 HZ7.out).1).trans HZ7.out
  have hz1 : w8.cell? ⟨w7.heap.size + 1, 0, none⟩ = some (.int .i64 0) := (fl_cells hz).1
  have hz2 : w8.cell? ⟨w7.heap.size + 1, 1, none⟩ = some (.int .i64 72) := (fl_cells hz).2
  clear b8 hz
  go_wp2_with fail
  go_ret
  exact ⟨rfl, HB8.out⟩
end Go.Proofs.Ythflafcjinpmnaa
