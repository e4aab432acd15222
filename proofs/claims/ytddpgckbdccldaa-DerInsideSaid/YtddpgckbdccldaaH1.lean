/- law07.alive. -/
import Derived.Test.YtddpgckbdccldaaG6
namespace Go.Proofs.Ytddpgckbdccldaa
open Go.RowKit
set_option linter.unusedVariables false
set_option linter.unusedSimpArgs false
set_option maxRecDepth 100000
theorem nb_new (w : World) (xs : List Nat) (hL : Lim 256 xs) (hl : xs.length ≤ 65535) : Nb (w.alloc (.cells (bvs xs).toArray 5)) (w.alloc (.cells (bvs xs).toArray 5)).heap.size (some ⟨w.heap.size, 0, none⟩) xs.length xs.length xs := by
  refine ⟨rfl, Nat.le_refl _, by unfold maxLen; omega, hL, fun h0 => ⟨w.heap.size, 0, rfl, by simp, fun j x hx => ?_⟩⟩
  rw [Nat.zero_add, cell_of_row _ w.heap.size j _ 5 (0, 0) (heap_alloc_new w _)]
  simp [bvs, hx]
theorem read_good : readM [48, 5, 5, 0, 1, 1, 255] = .ok (.mk 48 [] [.mk 5 [] [], .mk 1 [255] []]) := by kernel_rfl
theorem read_bad : readM [48, 5, 5, 0, 1, 1, 1] = .error (4, 74) := by kernel_rfl
theorem n128 : nby 128 = 2 ∧ bts (wd 128) 2 = [0, 128] := by constructor <;> decide +kernel
theorem w128 : byT (.mk 2 [0, 128] []) = [2, 2, 0, 128] ∧ sizT (.mk 2 [0, 128] []) = 4 ∧ lenT (.mk 2 [0, 128] []) = 2 := ⟨by kernel_rfl, by kernel_rfl, by kernel_rfl⟩
theorem s128 : bstr [2, 2, 0, 128] = ⟨#[2, 2, 0, 128]⟩ := by kernel_rfl
def Yes (w : World) (e : Ending) (w' : World) : Prop := e = .returned (.bool true) ∧ Below w.heap.size w w'
set_option maxHeartbeats 4000000 in
theorem alive_any (w : World) : Calls Try.prog 10 #[] w (Yes w) := by
  have HI := Lib.hid (int_any 128 (by omega) (by omega) w)
  go_enter Try.func10, Try.ntmps10
  go_wp2_with fail
  refine (HI.out).mono ?_
  rintro e w1 ⟨g, rfl, N1, b1⟩
  obtain ⟨n1, n2⟩ := n128
  rw [n1, n2] at N1
  rw [n1]
  have HT : Hid (Tr w1 w1.heap.size 1 ⟨2, some ⟨g, 0, none⟩, 2, 2, none, 0, 0⟩ (.mk 2 [0, 128] [])) :=
    Tr.mk rfl ⟨by simp only; omega, by simp only; omega⟩ N1 (by simp only; omega) (Ks.nil _ _ _)
  have HW := Lib.hid (write_of HT.out true (fun _ => by rw [w128.2.2]; omega) (fun W b => right_int (N1.up b) (by omega)))
  have HB1 := Lib.hid b1
  clear N1 b1 n1 n2
  unfold leaf
  unfold Hd.val at HW
  dsimp only at HW
  go_wp2_with fail
  refine (HW.out).mono ?_
  obtain ⟨q1, q2, -⟩ := w128
  rintro e w2 (⟨hf, _⟩ | ⟨_, hf, _⟩ | ⟨_, _, A, c, rfl, N2, b2⟩)
  · cases hf
  · rw [q2] at hf; omega
  rw [q1, q2] at N2
  rw [q2]
  have hcv := conv_any N2
  rw [s128] at hcv
  have HN2 := Lib.hid N2
  have HB2 := Lib.hid (bthen HB1.out b2)
  clear N2 b2 q1 q2 hcv HT HW HI
  have hN3 := nb_new w2 [48, 5, 5, 0, 1, 1, 255] (by intro x hx; simp at hx; omega) (by simp)
  have HR3 := Lib.hid (derRead_any hN3 (by simp))
  have hb3 : Below w2.heap.size w2 (w2.alloc (.cells (bvs [48, 5, 5, 0, 1, 1, 255]).toArray 5)) := (Below.refl _ _).alloc (Nat.le_refl _) _
  obtain ⟨w3, hw3⟩ : ∃ w3, w3 = w2.alloc (.cells #[.int .u8 48, .int .u8 5, .int .u8 5, .int .u8 0, .int .u8 1, .int .u8 1, .int .u8 255] 5) := ⟨_, rfl⟩
  have e3 : w2.alloc (.cells (bvs [48, 5, 5, 0, 1, 1, 255]).toArray 5) = w3 := by rw [hw3]; rfl
  rw [e3] at hb3 HR3
  have HB3 := Lib.hid (HB2.out.trans (hb3.mono HB2.out.size))
  have HN3 := Lib.hid (HN2.out.up hb3)
  clear hN3 hb3 e3
  go_upto_region 2 with (fail)
  go_wp2_with fail
  rw [← hw3]
  clear hw3
  refine (HR3.out).mono ?_
  rintro e w4 (⟨p, q, hm, _⟩ | ⟨t, hd, hm, rfl, b4, T4⟩)
  · rw [read_good] at hm; cases hm
  rw [read_good] at hm
  cases hm
  obtain ⟨-, -, -, -, K4⟩ := T4.bare.parts
  obtain ⟨-, gk, off, eK, hgk, h', k0, -, -, k3⟩ := K4.at_ (i := 1) (q := .mk 1 [255] []) rfl
  have et := k3.parts.1
  have em := K4.len
  have hgk2 := hgk
  obtain ⟨d1, d2, d3, d4, d5, d6, d7⟩ := hd
  dsimp only at eK em K4
  subst eK
  have em2 : d6 = 2 := em.symm
  subst em2
  have kd := K4.cap
  rw [et] at k0
  have HK0 : Hid (w4.cell? ⟨gk, off + 1 * 3, none⟩ = some (.int .i64 1)) := k0
  have HB4 := Lib.hid (bthen HB3.out b4)
  have HN4 := Lib.hid (HN3.out.up b4)
  have HGK := Lib.hid hgk
  clear k0 k3 et em K4 T4 b4 hgk hgk2 HN3 HR3 HB3 HN2 HB2
  unfold Hd.val
  dsimp only
  obtain ⟨w5, hw5⟩ : ∃ w5, w5 = (w4.alloc (.cells #[.int .i64 d1, .slice d2 d3 d4, .slice (some ⟨gk, off, none⟩) 2 d7] 25)).alloc (.cells #[.int .i64 0, .int .i64 0] 47) := ⟨_, rfl⟩
  have hb5 : Below w4.heap.size w4 w5 := by rw [hw5]; exact ((Below.refl _ _).alloc (Nat.le_refl _) _).alloc (by simp) _
  have HX5 : Hid (Bx w5 w4.heap.size 25 (.int .i64 d1) (.slice d2 d3 d4) (.slice (some ⟨gk, off, none⟩) 2 d7)) := by
    rw [hw5]; exact (Bx.new w4 25 _ _ _).keep (B := w4.heap.size + 1) ((Below.refl _ _).alloc (by simp) _) (by omega)
  have HY5 : Hid (B2 w5 (w4.heap.size + 1) 47 (.int .i64 0) (.int .i64 0)) := by
    rw [hw5]
    have := B2.new (w4.alloc (.cells #[.int .i64 d1, .slice d2 d3 d4, .slice (some ⟨gk, off, none⟩) 2 d7] 25)) 47 (.int .i64 0) (.int .i64 0)
    simpa [Hid] using this
  have HB5 := Lib.hid (HB4.out.trans (hb5.mono HB4.out.size))
  have HN5 := Lib.hid (HN4.out.up hb5)
  have HK5 : Hid (w5.cell? ⟨gk, off + 1 * 3, none⟩ = some (.int .i64 1)) := (hb5.cell (p := ⟨gk, off + 1 * 3, none⟩) HGK.out).trans HK0.out
  have HGK5 := Lib.hid (show gk < w5.heap.size from Nat.lt_of_lt_of_le HGK.out hb5.size)
  clear hb5 HN4 HB4 HK0
  have hN6 := nb_new w5 [48, 5, 5, 0, 1, 1, 1] (by intro x hx; simp at hx; omega) (by simp)
  have HR6 := Lib.hid (derRead_any hN6 (by simp))
  have hb6 : Below w5.heap.size w5 (w5.alloc (.cells (bvs [48, 5, 5, 0, 1, 1, 1]).toArray 5)) := (Below.refl _ _).alloc (Nat.le_refl _) _
  obtain ⟨w6, hw6⟩ : ∃ w6, w6 = w5.alloc (.cells #[.int .u8 48, .int .u8 5, .int .u8 5, .int .u8 0, .int .u8 1, .int .u8 1, .int .u8 1] 5) := ⟨_, rfl⟩
  have e6 : w5.alloc (.cells (bvs [48, 5, 5, 0, 1, 1, 1]).toArray 5) = w6 := by rw [hw6]; rfl
  rw [e6] at hb6 HR6
  have HB6 := Lib.hid hb6
  clear hN6 hb6 e6
  go_upto_region 3 with (fail)
  rw [← hw5]
  clear hw5
  go_wp2_with fail
  rw [← hw6]
  clear hw6
  refine (HR6.out).mono ?_
  rintro e w7 (⟨p, q, hm, _, rfl, b7⟩ | ⟨t, hd, hm, _⟩)
  any_goals (first | (rw [read_bad] at hm; cases hm; done) | skip)
  rw [read_bad] at hm
  cases hm
  have hb7 := HB6.out.trans (b7.mono HB6.out.size)
  obtain ⟨w8, hw8⟩ : ∃ w8, w8 = (w7.alloc (.cells #[.int .i64 0, .slice none 0 0, .slice none 0 0] 25)).alloc (.cells #[.int .i64 4, .int .i64 74] 47) := ⟨_, rfl⟩
  have hb8 : Below w7.heap.size w7 w8 := by rw [hw8]; exact ((Below.refl _ _).alloc (Nat.le_refl _) _).alloc (by simp) _
  have hz8 : B2 w8 (w7.heap.size + 1) 47 (.int .i64 4) (.int .i64 74) := by
    rw [hw8]
    have := B2.new (w7.alloc (.cells #[.int .i64 0, .slice none 0 0, .slice none 0 0] 25)) 47 (.int .i64 4) (.int .i64 74)
    simpa using this
  have hb58 : Below w5.heap.size w5 w8 := hb7.trans (hb8.mono hb7.size)
  have hcv := conv_any (HN5.out.up hb58)
  rw [s128] at hcv
  obtain ⟨x0, x1, x2, -, -, -⟩ := (HX5.out.keep hb58 HX5.out.lt).cells
  obtain ⟨y0, y1, -, -⟩ := (HY5.out.keep hb58 HY5.out.lt).cells
  obtain ⟨z0, z1, -, -⟩ := hz8.cells
  have v0 : w8.cell? ⟨gk, off + 1 * 3, none⟩ = some (.int .i64 1) := (hb58.cell (p := ⟨gk, off + 1 * 3, none⟩) HGK5.out).trans HK5.out
  have v1 : w8.cell? ⟨gk, off + 3, none⟩ = some (.int .i64 1) := v0
  have HB8 := Lib.hid (HB5.out.trans (hb58.mono HB5.out.size))
  clear hb7 b7 hb8 hz8 hb58
  go_upto_region 4 with (fail)
  rw [← hw8]
  clear hw8
  go_wp2_with fail
  go_ret
  exact ⟨rfl, HB8.out⟩
end Go.Proofs.Ytddpgckbdccldaa
