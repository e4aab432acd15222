/- law07.DerThere: the walk. -/
import Derived.Test.YtddpgckbdccldaaH1
namespace Go.Proofs.Ytddpgckbdccldaa
open Go.RowKit
set_option linter.unusedVariables false
set_option linter.unusedSimpArgs false
set_option maxRecDepth 100000
theorem trimmed {xs ys : List Nat} (h1 : Lim 18446744073709551616 xs) (h2 : Lim 18446744073709551616 ys) (t1 : Trm xs) (t2 : Trm ys) (e : val 18446744073709551616 xs = val 18446744073709551616 ys) : xs = ys := trm_unique (by omega) h1 h2 t1 t2 e
set_option maxHeartbeats 8000000 in
theorem there_any {w : World} (a : Int) (ha0 : -9223372036854775808 ≤ a) (ha1 : a ≤ 9223372036854775807) {A : Option Addr} {n c : Nat} {xs : List Nat} (h : Nt w w.heap.size A n c xs) (s : ByteArray) (hs : s.size ≤ 9223372036854775807) :
    Calls Try.prog 6 #[.int .i64 a, .slice A n c, .string s] w (Yes w) := by
  have hr := h.rooms
  by_cases hn : 100 < n
  · have k1 : (100 : Int) < (n : Int) := by omega
    have HA := Lib.hid (alive_any w)
    clear h
    go_enter Try.func6, Try.ntmps6
    go_wp2_with fail
    refine (HA.out).mono ?_
    rintro e w1 ⟨rfl, b1⟩
    go_wp2_with fail
    go_ret
    exact ⟨rfl, b1⟩
  have k1 : ((100 : Int) < (n : Int)) = False := by simp; omega
  by_cases hs4 : 400 < s.size
  · have k2 : (400 : Int) < (s.size : Int) := by omega
    have HA := Lib.hid (alive_any w)
    clear h
    go_enter Try.func6, Try.ntmps6
    go_wp2_with fail
    refine (HA.out).mono ?_
    rintro e w1 ⟨rfl, b1⟩
    go_wp2_with fail
    go_ret
    exact ⟨rfl, b1⟩
  have k2 : ((400 : Int) < (s.size : Int)) = False := by simp; omega
  have HI := Lib.hid (fun w => int_any a ha0 ha1 w)
  have hny := nby_le ha0 ha1
  have HSv := Lib.hid (sval_int ha0 ha1)
  have HSh := Lib.hid (shrt_int ha0 ha1)
  have HNt := Lib.hid h
  have HLm := Lib.hid h.lim
  obtain ⟨v, hv⟩ : ∃ v, Hid (val 18446744073709551616 xs = v) := ⟨_, Lib.hid rfl⟩
  have HN := Lib.hid (fun (W : World) (b : Below w.heap.size w W) => nat_any (h.bel b (Nat.le_refl _)) (by omega))
  have HTr := Lib.hid (fun (W : World) (b : Below w.heap.size w W) => rtrim_any (h.bel b (Nat.le_refl _)) (by omega))
  rw [hv.out] at HN HTr
  have HNy := Lib.hid (show 1 ≤ ny v ∧ ny v ≤ 801 from ⟨by unfold ny; omega, by have := ny_le h.lim; rw [hv.out, h.len] at this; omega⟩)
  have Hs := Lib.hid (show s.size ≤ 1000 by omega)
  clear h hr hn hs4
  obtain ⟨y, hy⟩ : ∃ y, Hid (nby a = y) := ⟨_, Lib.hid rfl⟩
  rw [hy.out] at hny HSv HSh
  go_enter Try.func6, Try.ntmps6
  go_wp2_with fail
  refine (HI.out _).mono ?_
  rintro e w1 ⟨g1, rfl, N1, b1⟩
  rw [hy.out] at N1 ⊢
  have HO1 := Lib.hid (intOf_ok N1 (by omega) hny.2 HSh.out)
  rw [HSv.out] at HO1
  have B1 := Lib.hid b1
  clear N1 b1
  unfold leaf at *
  go_wp2_with fail
  refine (HO1.out).mono ?_
  rintro e w2 ⟨rfl, b2⟩
  have B2' := Lib.hid (bthen B1.out b2)
  clear b2
  go_wp2_with fail
  refine (HN.out _ B2'.out).mono ?_
  rintro e w3 ⟨g3, rfl, N3, b3⟩
  have HO3 := Lib.hid (natOf_ok N3 HNy.out.1 (by have := HNy.out.2; omega) (shrt_nat v) (head_ny v))
  rw [val_ny] at HO3
  have B3 := Lib.hid (bthen B2'.out b3)
  clear N3 b3
  unfold leaf at *
  go_wp2_with fail
  refine (HO3.out).mono ?_
  rintro e w4 ⟨A4, n4, c4, ys, rfl, N4, T4, V4, b4⟩
  have B4 := Lib.hid (bthen B3.out b4)
  have HN4 := Lib.hid N4
  have HT4 := Lib.hid T4
  have HV4 := Lib.hid V4
  clear N4 T4 V4 b4
  go_wp2_with fail
  refine (HTr.out _ B4.out).mono ?_
  rintro e w5 ⟨A5, n5, c5, zs, rfl, N5, T5, V5, b5⟩
  have B5 := Lib.hid (bthen B4.out b5)
  have HSm := Lib.hid (nsame_yes (HN4.out.bel b5 (Nat.le_refl _)) N5 (trimmed HN4.out.lim N5.lim HT4.out T5 (by rw [HV4.out, V5])))
  clear N5 T5 V5 b5
  go_wp2_with fail
  refine (HSm.out).mono ?_
  rintro e w6 ⟨rfl, d, rfl⟩
  have B6 := Lib.hid (below_drewN B5.out d)
  go_wp2_with fail
  refine (HI.out _).mono ?_
  rintro e w7 ⟨g7, rfl, N7, b7⟩
  rw [hy.out] at N7 ⊢
  have HO7 := Lib.hid (right_int N7 (by omega))
  rw [HSh.out] at HO7
  have B7 := Lib.hid (bthen B6.out b7)
  clear N7 b7
  unfold leaf at *
  go_wp2_with fail
  refine (HO7.out).mono ?_
  rintro e w8 ⟨rfl, b8⟩
  have B8 := Lib.hid (bthen B7.out b8)
  clear b8
  go_wp2_with fail
  refine (HN.out _ B8.out).mono ?_
  rintro e w9 ⟨g9, rfl, N9, b9⟩
  have HO9 := Lib.hid (right_int N9 (by have := HNy.out.2; omega))
  rw [shrt_nat] at HO9
  have B9 := Lib.hid (bthen B8.out b9)
  clear N9 b9
  unfold leaf at *
  go_wp2_with fail
  refine (HO9.out).mono ?_
  rintro e w10 ⟨rfl, b10⟩
  have B10 := Lib.hid (bthen B9.out b10)
  clear b10
  rcases htx : txt (nums s) with _ | _
  · have HX := Lib.hid (text_no s Hs.out htx w10)
    go_wp2_with fail
    refine (HX.out).mono ?_
    rintro e w11 ⟨rfl, b11⟩
    have B11 := Lib.hid (bthen B10.out b11)
    have hb12 : Below w11.heap.size w11 (w11.alloc (.cells #[.int .i64 0, .slice none 0 0, .slice none 0 0] 25)) := (Below.refl _ _).alloc (Nat.le_refl _) _
    have B12 := Lib.hid (bthen B11.out hb12)
    have HAl := Lib.hid (alive_any (w11.alloc (.cells #[.int .i64 0, .slice none 0 0, .slice none 0 0] 25)))
    have HXb := Lib.hid (Bx.new w11 25 (.int .i64 0) (.slice none 0 0) (.slice none 0 0))
    clear b11 hb12
    go_wp2_with fail
    refine (HAl.out).mono ?_
    rintro e w13 ⟨rfl, b13⟩
    have B13 := Lib.hid (bthen B12.out b13)
    obtain ⟨x0, x1, x2, -, -, -⟩ := (HXb.out.keep b13 HXb.out.lt).cells
    clear b13
    go_wp2_with fail
    go_ret
    exact ⟨rfl, B13.out⟩
  · have HX := Lib.hid (text_yes s Hs.out htx w10)
    go_wp2_with fail
    refine (HX.out).mono ?_
    rintro e w11 ⟨g11, c11, rfl, N11, b11⟩
    have B11 := Lib.hid (bthen B10.out b11)
    unfold leaf at *
    obtain ⟨w12, hw12⟩ : ∃ w12, w12 = w11.alloc (.cells #[.int .i64 12, .slice (some ⟨g11, 0, none⟩) s.size c11, .slice none 0 0] 25) := ⟨_, rfl⟩
    have hb12 : Below w11.heap.size w11 w12 := by rw [hw12]; exact (Below.refl _ _).alloc (Nat.le_refl _) _
    have B12 := Lib.hid (bthen B11.out hb12)
    have HTO := Lib.hid (textOf_ok (N11.up hb12) (by have := Hs.out; omega) htx)
    rw [bstr_nums] at HTO
    have HXb : Hid (Bx w12 w11.heap.size 25 (.int .i64 12) (.slice (some ⟨g11, 0, none⟩) s.size c11) (.slice none 0 0)) := by rw [hw12]; exact Bx.new w11 25 _ _ _
    obtain ⟨x0, x1, x2, -, -, -⟩ := HXb.out.cells
    unfold leaf at *
    clear b11 hb12 N11
    go_upto_region 8 with (fail)
    rw [← hw12]
    clear hw12
    go_wp2_with fail
    refine (HTO.out).mono ?_
    rintro e w13 ⟨rfl, b13⟩
    have B13 := Lib.hid (bthen B12.out b13)
    have HAl := Lib.hid (alive_any w13)
    have hself := eq_self s
    clear b13
    go_wp2_with fail
    refine (HAl.out).mono ?_
    rintro e w14 ⟨rfl, b14⟩
    have B14 := Lib.hid (bthen B13.out b14)
    clear b14
    go_wp2_with fail
    go_ret
    exact ⟨rfl, B14.out⟩
end Go.Proofs.Ytddpgckbdccldaa
