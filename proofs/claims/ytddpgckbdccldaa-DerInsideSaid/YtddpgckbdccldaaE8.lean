/- der.Write of any value. -/
import Derived.Test.YtddpgckbdccldaaE7
import Derived.Deep.RegionHeld3
namespace Go.Proofs.Ytddpgckbdccldaa
open Go.RowKit
set_option linter.unusedVariables false
set_option linter.unusedSimpArgs false
set_option maxRecDepth 100000
theorem byL_lim {ks : List T} (h : ∀ k, k ∈ ks → Lim 256 (byT k)) : Lim 256 (byL ks) := by
  induction ks with
  | nil => exact Lim.nil _
  | cons k ks ih =>
    unfold byL
    exact Lim.append (h k (by simp)) (ih fun q hq => h q (by simp [hq]))
theorem Tr.lim {w : World} {B : Nat} : ∀ {f : Nat} {h : Hd} {t : T}, Tr w B f h t → lenT t ≤ 4611686018427387904 → Lim 256 (byT t)
  | 0, _, _, H, _ => H.elim
  | f + 1, h, t, H, hL => by
    obtain ⟨_, _, N, _, K⟩ := H.parts
    rw [byT_eq]
    have hk : Lim 256 (byL t.ks) := byL_lim fun k hk => by
      obtain ⟨i, hi⟩ := List.mem_iff_getElem?.1 hk
      obtain ⟨_, _, _, _, _, h', _, _, _, q⟩ := K.at_ hi
      have h1 := siz_le_len hi
      have h2 := lenT_le_siz k
      have h3 := lenT_eq t
      exact Tr.lim q (by omega)
    intro x hx
    simp only [List.mem_cons] at hx
    rcases hx with rfl | hx
    · omega
    · exact Lim.append (lb_lim _ hL) (Lim.append N.lim hk) x hx
theorem run_make_cap (n : Nat) (hn : n ≤ 8796093022208) (w : World) : (Instr.makeSlice 22 (.int .i64 0) (.int .i64 (n : Int))).run Try.prog w =
    .ok (.slice (some ⟨w.heap.size, 0, none⟩) 0 n) (w.alloc (.cells ((List.replicate n 0).map fun x : Nat => Value.int .u8 (x : Int)).toArray 5)) := by
  obtain ⟨i0, hi, hz0, hz1, hz2⟩ := info_parts Try.info5
  have hr := run_make (P := Try.prog) w 22 5 i0 (.int .u8 0) Try.underlying22 hi hz0 .i64 .i64 0 n (by omega) (by omega) (by rw [hz2]; omega) (by omega)
  simp only [Int.toNat_natCast, Int.toNat_zero] at hr
  rw [hr, hz1, Nat.mul_one]
  have : (madeCells (Value.int .u8 0).cells n) = ((List.replicate n 0).map fun x : Nat => Value.int .u8 (x : Int)).toArray := by
    apply Array.ext'
    rw [show (madeCells (Value.int .u8 0).cells n).toList = List.replicate n (.int .u8 0) from toList_madeCells_one _ _]
    simp
  rw [this]
/-- what a row of n noughts is, none of them taken -/
def rowN (n : Nat) : Obj := .cells ((List.replicate n 0).map fun x : Nat => Value.int .u8 (x : Int)).toArray 5
theorem gb_cap (n : Nat) (hn : n ≤ 8796093022208) (w : World) (base : Nat) (hb : base ≤ w.heap.size) : Gb (w.alloc (rowN n)) base (some ⟨w.heap.size, 0, none⟩) 0 n [] :=
  ⟨rfl, by simp [bvs], Or.inr ⟨w.heap.size, n, _, rfl, hb, heap_alloc_new w _, Nat.zero_le _, by unfold maxLen; omega, by simp, by simp [bvs]⟩⟩
theorem blk_ne {b g : Nat} (h : b ≠ g) : blk (some (⟨b, 0, none⟩ : Addr)) ≠ some g := fun e => h (by simpa [blk] using e)
theorem blk_le {b g : Nat} (h : g ≤ b) : ∀ k, blk (some (⟨b, 0, none⟩ : Addr)) = some k → g ≤ k := fun k e => by
  have : b = k := by simpa [blk] using e
  omega
/-- what Write hands back -/
def Wto (t : T) (r : Bool) (w : World) (e : Ending) (w' : World) : Prop :=
  (r = false ∧ e = .returned (.tuple #[.slice none 0 0, .int .i64 3]) ∧ Below w.heap.size w w') ∨
  (r = true ∧ 65535 < sizT t ∧ e = .returned (.tuple #[.slice none 0 0, .int .i64 2]) ∧ Below w.heap.size w w') ∨
  (r = true ∧ sizT t ≤ 65535 ∧ ∃ A c, e = .returned (.tuple #[.slice A (sizT t) c, .int .i64 0]) ∧ Nb w' w'.heap.size A (sizT t) c (byT t) ∧ Below w.heap.size w w')
set_option maxHeartbeats 4000000 in
theorem write_of {f : Nat} {h : Hd} {t : T} {w : World} (H : Tr w w.heap.size f h t) (r : Bool) (hL : r = true → lenT t ≤ 2305843009213693952)
    (HR : ∀ W, Below w.heap.size w W → Calls Try.prog 14 #[h.val] W fun e w' => e = .returned (.bool r) ∧ Below W.heap.size W w') : Calls Try.prog 12 #[h.val] w (Wto t r w) := by
  obtain ⟨w1, hw1⟩ : ∃ w1, w1 = w.alloc (.cells h.cells 25) := ⟨_, rfl⟩
  have hz1 : w1.heap.size = w.heap.size + 1 := by rw [hw1]; simp
  have hb1 : Below w.heap.size w w1 := by rw [hw1]; exact (Below.refl _ _).alloc (Nat.le_refl _) _
  have hx1 : Bx w1 w.heap.size 25 (.int .i64 h.t) (.slice h.A h.n h.c) (.slice h.K h.m h.d) := by rw [hw1]; exact Bx.new w 25 _ _ _
  have HT := Lib.hid H
  have HC := Lib.hid (HR w1 hb1)
  have HB1 := Lib.hid hb1
  have HX := Lib.hid hx1
  have HZ := Lib.hid hz1
  have HLen := Lib.hid hL
  clear H HR hb1 hx1 hL
  obtain ⟨ht, hA, hn, hc, hK, hm, hd⟩ := h
  unfold Hd.val Hd.cells at *
  dsimp only at *
  go_enter Try.func12, Try.ntmps12
  go_upto_region 1 with (fail)
  rw [← hw1]
  obtain ⟨c0, c1, c2, -, -, -⟩ := HX.out.cells
  clear hw1 hz1
  go_wp2_with fail
  refine (HC.out).mono ?_
  rintro e w2 ⟨rfl, b2⟩
  have HB2 := Lib.hid (HB1.out.trans (b2.mono HB1.out.size))
  obtain ⟨c0', c1', c2', -, -, -⟩ := (HX.out.keep b2 (by rw [HZ.out]; omega)).cells
  have HX2 := Lib.hid (HX.out.keep b2 (by rw [HZ.out]; omega))
  clear c0 c1 c2 b2
  cases r with
  | false =>
    go_wp2_with fail
    go_ret2
    exact .inl ⟨rfl, rfl, HB2.out⟩
  | true =>
    have hL := HLen.out rfl
    have HS := Lib.hid (size_of (len_all f) (HT.out.up HB2.out) hL)
    unfold Hd.val at HS
    dsimp only at HS
    have HSL := Lib.hid (show sizT t ≤ 4611686018427387904 by have := lbl_le (lenT t) (by omega); unfold sizT; omega)
    have HLim := Lib.hid (HT.out.lim (by omega))
    clear hL
    obtain ⟨S, hS⟩ : ∃ S, Hid (sizT t = S) := ⟨_, Lib.hid rfl⟩
    rw [hS.out] at HS HSL
    go_wp2_with fail
    refine (HS.out).mono ?_
    rintro e w3 ⟨rfl, b3⟩
    have HB3 := Lib.hid (HB2.out.trans (b3.mono HB2.out.size))
    have hlt3 := HX2.out.lt
    have HX3 := Lib.hid (HX2.out.keep b3 hlt3)
    obtain ⟨d0, d1, d2, -, -, -⟩ := HX3.out.cells
    clear c0' c1' c2' b3 hlt3
    by_cases hbig : 65535 < S
    · have k1 : (65535 : Int) < (S : Int) := by omega
      go_wp2_with fail
      go_ret2
      exact .inr (.inl ⟨rfl, by rw [hS.out]; exact hbig, rfl, HB3.out⟩)
    · have k1 : ((65535 : Int) < (S : Int)) = False := by simp only [eq_iff_iff, iff_false]; omega
      have hS2 : S ≤ 65535 := by omega
      have hb3d : Below w3.heap.size w3 w3.drew := (Below.refl _ _).drew
      have hmk := run_make_cap S (by omega) w3.drew
      have hb4 : Below w3.heap.size w3 (w3.drew.alloc (rowN S)) := hb3d.alloc (Nat.le_refl _) _
      have HB4 := Lib.hid (HB3.out.trans (hb4.mono HB3.out.size))
      have hs3 : w.heap.size ≤ w3.heap.size := HB3.out.size
      have HG4 : Hid (Gb (w3.drew.alloc (rowN S)) w.heap.size (some ⟨w3.heap.size, 0, none⟩) 0 S []) := Lib.hid (gb_cap S (by omega) w3.drew w.heap.size hs3)
      have HW4 := Lib.hid (written_all f (HT.out.below HB4.out) (Nat.le_trans hs3 hb4.size) HG4.out (by rw [hS.out]; omega))
      have HX4 := Lib.hid (HX3.out.keep hb4 HX3.out.lt)
      unfold Hd.val at HW4
      dsimp only at HW4
      have hrow : rowN S = .cells ((List.replicate S 0).map fun x : Nat => Value.int .u8 (x : Int)).toArray 5 := rfl
      rw [← hrow] at hmk
      have hmk2 : (Instr.makeSlice 22 (.int .i64 0) (.int .i64 (S : Int))).run Try.prog w3.drew = .ok (.slice (some ⟨w3.heap.size, 0, none⟩) 0 S) (w3.drew.alloc (rowN S)) := hmk
      obtain ⟨w4, hw4⟩ : ∃ w4, w4 = w3.drew.alloc (rowN S) := ⟨_, rfl⟩
      rw [← hw4] at hmk2 HB4 HG4 HW4 HX4
      clear hmk hrow hb4 hw4 hbig hb3d
      have HNE4 := Lib.hid (blk_ne (show w3.heap.size ≠ w.heap.size by have := HX3.out.lt; omega))
      have HQ4 := Lib.hid (blk_le hs3)
      go_wp2_with fail
      go_region_held3 (fun w' => w'.cell? ⟨w.heap.size, 0, none⟩ = some (.int .i64 ht) ∧ w'.cell? ⟨w.heap.size, 1, none⟩ = some (.slice hA hn hc) ∧ w'.cell? ⟨w.heap.size, 2, none⟩ = some (.slice hK hm hd))
        (first | exact ⟨d0, d1, d2⟩ | exact ⟨HX4.out.cells.1, HX4.out.cells.2.1, HX4.out.cells.2.2.1⟩ | exact ⟨HX5.out.cells.1, HX5.out.cells.2.1, HX5.out.cells.2.2.1⟩)
        (first
          | (go_at_call 34; (with_reducible refine HW4.out.mono ?_)
             rintro e w5 ⟨A5, c5, rfl, g5, r5⟩
             have HX5 := Lib.hid (HX4.out.gr r5 HNE4.out)
             have HG5 := Lib.hid g5
             have HR5 := Lib.hid r5
             clear g5 r5))
      have HLS := Lib.hid (show sizT t ≤ 65535 by rw [hS.out]; exact hS2)
      have HN5 := Lib.hid (HG5.out.nb (by simpa using HLim.out))
      have HB5 := Lib.hid (HR5.out.below HB4.out HB4.out.size HQ4.out)
      go_wp2_with fail
      go_ret2
      exact .inr (.inr ⟨rfl, HLS.out, A5, c5, rfl, by simpa using HN5.out, HB5.out⟩)
end Go.Proofs.Ytddpgckbdccldaa
