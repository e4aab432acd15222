/- der.Write of any value; law07.DerEnds: the walk. -/
import Derived.Test.YtddpgckbdccldaaJa
import Derived.Test.YtddpgckbdccldaaH1
namespace Go.Proofs.Ytddpgckbdccldaa
open Go.RowKit
set_option linter.unusedVariables false
set_option linter.unusedSimpArgs false
set_option maxRecDepth 100000
theorem right_len {w : World} {B f : Nat} {h : Hd} {t : T} (H : Tr w B f h t) (hr : rightM t = true) : lenT t ≤ 2305843009213693952 := by
  unfold rightM at hr
  rw [Bool.and_eq_true] at hr
  obtain ⟨r', h1⟩ := Option.isSome_iff_exists.1 hr.1
  have hcn := room_cnt t 16 4096 r' h1
  have hll := H.len_le (by omega)
  have := Nat.mul_le_mul_right 281474976710700 (show cnt t ≤ 4096 by omega)
  omega
theorem write_any {f : Nat} {h : Hd} {t : T} {w : World} (H : Tr w w.heap.size f h t) : Calls Try.prog 12 #[h.val] w (Wto t (rightM t) w) :=
  write_of H (rightM t) (fun hr => right_len H hr) (fun W b => right_any (H.up b))
/-- the front of a slice of bytes -/
theorem cut_hi (A : Option Addr) (n c e : Nat) (hec : e ≤ c) :
    (∀ W, (Instr.slice 22 (.slice A n c) none (some (.int .i64 (e : Int))) none).run Try.prog W = .ok (.slice A e c) W) ∧
      (∀ W, (Instr.sliceAt 22 (.slice A n c) none (some (.int .i64 (e : Int))) none).run Try.prog W = .ok (.slice A e c) W) := by
  have key : sliced A 0 e c 1 = .slice A e c := by
    unfold sliced
    cases A with
    | none => simp
    | some ad => simp [Addr.add]
  refine ⟨fun W => ?_, fun W => ?_⟩
  · rw [run_slice_h W 22 A n c und22 .i64 e (by omega) (by omega), size5]
    simp [Result.andThen, key]
  · rw [run_sliceAt_slice W 22 _ _ _ _ und22, run_slice_h W 22 A n c und22 .i64 e (by omega) (by omega), size5]
    simp [Result.andThen, key]
theorem Nb.front {w : World} {B : Nat} {A : Option Addr} {n c : Nat} {xs : List Nat} (h : Nb w B A n c xs) (e : Nat) (he : e ≤ n) : Nb w B A e c (xs.take e) := by
  refine ⟨by rw [List.length_take, h.len]; omega, by have := h.cap; omega, h.room, fun x hx => h.lim x (List.mem_of_mem_take hx), fun h0 => ?_⟩
  obtain ⟨b, off, rfl, hb, hc⟩ := h.cell (by omega)
  refine ⟨b, off, rfl, hb, fun j x hj => ?_⟩
  rw [List.getElem?_take] at hj
  split at hj
  · exact hc _ _ hj
  · cases hj
set_option maxHeartbeats 8000000 in
theorem ends_any {f : Nat} {h : Hd} {t : T} {w : World} (H : Tr w w.heap.size f h t) (x : Nat) (hx : x < 256) (cut : Int) : Calls Try.prog 7 #[h.val, .int .u8 (x : Int), .int .i64 cut] w (Yes w) := by
  obtain ⟨w1, hw1⟩ : ∃ w1, w1 = w.alloc (.cells h.cells 25) := ⟨_, rfl⟩
  have hb1 : Below w.heap.size w w1 := by rw [hw1]; exact (Below.refl _ _).alloc (Nat.le_refl _) _
  have hx1 : Bx w1 w.heap.size 25 (.int .i64 h.t) (.slice h.A h.n h.c) (.slice h.K h.m h.d) := by rw [hw1]; exact Bx.new w 25 _ _ _
  have HT1 := Lib.hid (H.up hb1)
  have HH := Lib.hid (heavy_any (H.up hb1))
  have HX := Lib.hid hx1
  have HB := Lib.hid hb1
  obtain ⟨c0, c1, c2, -, -, -⟩ := hx1.cells
  clear H hb1 hx1
  obtain ⟨ht, hA, hn, hc, hK, hm, hd⟩ := h
  unfold Hd.val Hd.cells at *
  dsimp only at *
  go_enter Try.func7, Try.ntmps7
  go_upto_region 1 with (fail)
  rw [← hw1]
  clear hw1
  go_wp2_with fail
  refine (HH.out).mono ?_
  rintro e w2 ⟨z, rfl, b2, -⟩
  have HB2 := Lib.hid (bthen HB.out b2)
  have HW := Lib.hid (write_any (HT1.out.up b2))
  have HA2 := Lib.hid (alive_any w2)
  have HX2 := Lib.hid (HX.out.keep b2 HX.out.lt)
  obtain ⟨d0, d1, d2, -, -, -⟩ := HX2.out.cells
  clear b2 c0 c1 c2 HH HT1
  rcases z with _ | _
  case true =>
    go_wp2_with fail
    refine (HA2.out).mono ?_
    rintro e w3 ⟨rfl, b3⟩
    go_wp2_with fail
    go_ret
    exact ⟨rfl, bthen HB2.out b3⟩
  case false =>
    unfold Hd.val at HW
    dsimp only at HW
    go_wp2_with fail
    refine (HW.out).mono ?_
    clear HW HA2 d0 d1 d2 HX2
    rintro e w3 (⟨hr, rfl, b3⟩ | ⟨hr, hs, rfl, b3⟩ | ⟨hr, hs, A, c, rfl, N3, b3⟩)
    · have HA3 := Lib.hid (alive_any w3)
      have HB3 := Lib.hid (bthen HB2.out b3)
      clear b3 hr
      go_wp2_with fail
      refine (HA3.out).mono ?_
      rintro e w4 ⟨rfl, b4⟩
      go_wp2_with fail
      go_ret
      exact ⟨rfl, bthen HB3.out b4⟩
    · have HA3 := Lib.hid (alive_any w3)
      have HB3 := Lib.hid (bthen HB2.out b3)
      clear b3 hr hs
      go_wp2_with fail
      refine (HA3.out).mono ?_
      rintro e w4 ⟨rfl, b4⟩
      go_wp2_with fail
      go_ret
      exact ⟨rfl, bthen HB3.out b4⟩
    · have HB3 := Lib.hid (bthen HB2.out b3)
      have HN3 := Lib.hid N3
      have HRt := Lib.hid hr
      obtain ⟨S, hS⟩ : ∃ S, Hid (sizT t = S) := ⟨_, Lib.hid rfl⟩
      rw [hS.out] at HN3 hs ⊢
      have hcap := HN3.out.cap
      clear b3 hr N3
      by_cases h6 : 65535 ≤ S
      · have k1 : (65535 : Int) ≤ (S : Int) := by omega
        have HA3 := Lib.hid (alive_any w3)
        clear h6
        go_wp2_with fail
        refine (HA3.out).mono ?_
        rintro e w4 ⟨rfl, b4⟩
        go_wp2_with fail
        go_ret
        exact ⟨rfl, bthen HB3.out b4⟩
      have k1 : ((65535 : Int) ≤ (S : Int)) = False := by simp only [eq_iff_iff, iff_false]; omega
      have HRd := Lib.hid (read_more HRt.out x (by rw [hS.out]; omega))
      rw [hS.out] at HRd
      have hb4 : Below w3.heap.size w3 (w3.alloc (.cells #[] 5)) := (Below.refl _ _).alloc (Nat.le_refl _) _
      have HB4 := Lib.hid hb4
      have HN4 := Lib.hid (HN3.out.up hb4)
      have HG4 := Lib.hid (gb_empty w3 w3.heap.size (Nat.le_refl _))
      have hl4 : 0 + S ≤ 1099511627776 := by omega
      have hz4 := hb4.size
      have HS6 := Lib.hid h6
      clear hb4 h6
      go_upto_region 7 with (at_builtin; refine wpList_appb _ rfl (.tmp 30) (.tmp 31) rfl rfl HG4.out rfl HN4.out hl4 hz4 ?_; intro A5 c5 w5 hg5 hr5)
      have HG5 : Hid (Gb w5 w3.heap.size A5 S c5 (byT t)) := by
        have := hg5
        simp only [Nat.zero_add, List.nil_append] at this
        exact this
      have HB5 : Hid (Below w3.heap.size w3 w5) := hr5.below HB4.out hz4 (blk_le (Nat.le_refl _))
      clear hg5 hr5 HN4 HG4
      obtain ⟨w6, hw6⟩ : ∃ w6, w6 = w5.alloc (.cells #[.int .u8 (x : Int)] 5) := ⟨_, rfl⟩
      have hb6 : Below w5.heap.size w5 w6 := by rw [hw6]; exact (Below.refl _ _).alloc (Nat.le_refl _) _
      have HN6 : Hid (Nb w6 w6.heap.size (some ⟨w5.heap.size, 0, none⟩) 1 1 [x]) := by
        rw [hw6]; exact nb_new w5 [x] (by intro y hy; simp at hy; omega) (by simp)
      have HG6 := Lib.hid (HG5.out.below hb6)
      have HB6 := Lib.hid (HB5.out.trans (hb6.mono HB5.out.size))
      have hz6 := HB6.out.size
      have hl6 : S + 1 ≤ 1099511627776 := by omega
      have HBk := Lib.hid (fun k e => (HG5.out.2.blk_lt k e).1)
      subst hw6
      clear hb6
      go_upto_region 8 with (at_builtin; refine wpList_appb _ rfl (.tmp 33) (.tmp 35) rfl rfl HG6.out rfl HN6.out hl6 hz6 ?_; intro A7 c7 w7 hg7 hr7)
      have HB7 : Hid (Below w3.heap.size w3 w7) := hr7.below HB6.out hz6 HBk.out
      have HN7 := Lib.hid (hg7.nb (Lim.append HN3.out.lim (by intro y hy; simp at hy; omega)))
      have HR7 := Lib.hid (derRead_any HN7.out (by omega))
      clear hg7 hr7 HN6 HG6 HG5
      go_wp2_with fail
      refine (HR7.out).mono ?_
      rintro e w8 (⟨p, q, hm, _, rfl, b8⟩ | ⟨t', hd', hm, _⟩)
      any_goals (first | (rw [HRd.out] at hm; cases hm; done) | skip)
      rw [HRd.out] at hm
      cases hm
      obtain ⟨w9, hw9⟩ : ∃ w9, w9 = (w8.alloc (.cells #[.int .i64 0, .slice none 0 0, .slice none 0 0] 25)).alloc (.cells #[.int .i64 (S : Int), .int .i64 73] 47) := ⟨_, rfl⟩
      have hb9 : Below w8.heap.size w8 w9 := by rw [hw9]; exact ((Below.refl _ _).alloc (Nat.le_refl _) _).alloc (by simp) _
      have hx9 : B2 w9 (w8.heap.size + 1) 47 (.int .i64 (S : Int)) (.int .i64 73) := by
        rw [hw9]
        have := B2.new (w8.alloc (.cells #[.int .i64 0, .slice none 0 0, .slice none 0 0] 25)) 47 (.int .i64 (S : Int)) (.int .i64 73)
        simpa using this
      have HB9 := Lib.hid (bthen (bthen HB7.out b8) hb9)
      have HN9 := Lib.hid (HN3.out.up HB9.out)
      have HB9w := Lib.hid (bthen HB3.out HB9.out)
      have HA9 := Lib.hid (alive_any w9)
      obtain ⟨z0, z1, -, -⟩ := hx9.cells
      clear b8 hb9 hx9
      go_upto_region 9 with (fail)
      rw [← hw9]
      clear hw9
      by_cases hc0 : cut < 0
      · have k2 : (cut < 0) = True := by simpa using hc0
        clear hc0
        go_wp2_with fail
        refine (HA9.out).mono ?_
        rintro e w10 ⟨rfl, b10⟩
        go_wp2_with fail
        go_ret
        exact ⟨rfl, bthen HB9w.out b10⟩
      · obtain ⟨k, rfl⟩ : ∃ k : Nat, cut = (k : Int) := ⟨cut.toNat, by omega⟩
        have k2 : ((k : Int) < 0) = False := by simp only [eq_iff_iff, iff_false]; omega
        clear hc0
        by_cases hk : S ≤ k
        · have k3 : (S : Int) ≤ (k : Int) := by omega
          clear hk
          go_wp2_with fail
          refine (HA9.out).mono ?_
          rintro e w10 ⟨rfl, b10⟩
          go_wp2_with fail
          go_ret
          exact ⟨rfl, bthen HB9w.out b10⟩
        · have k3 : ((S : Int) ≤ (k : Int)) = False := by simp only [eq_iff_iff, iff_false]; omega
          have HRc := Lib.hid (read_cut (cut := k) HRt.out (by rw [hS.out]; have := HS6.out; omega) (by rw [hS.out]; omega))
          have HNk := Lib.hid (HN9.out.front k (by omega))
          obtain ⟨sl1, sl2⟩ := cut_hi A S c k (by omega)
          have sl3 := sl1 w9
          have sl4 := sl2 w9
          have HRk := Lib.hid (derRead_any HNk.out (by have := HS6.out; omega))
          clear hk sl1 sl2
          go_wp2_with fail
          refine (HRk.out).mono ?_
          clear sl3 sl4 z0 z1
          rintro e w10 (⟨p, q, hm, _, rfl, b10⟩ | ⟨t', hd', hm, _⟩)
          any_goals (first | (rw [HRc.out] at hm; cases hm; done) | skip)
          rw [HRc.out] at hm
          cases hm
          obtain ⟨w11, hw11⟩ : ∃ w11, w11 = (w10.alloc (.cells #[.int .i64 0, .slice none 0 0, .slice none 0 0] 25)).alloc (.cells #[.int .i64 (k : Int), .int .i64 72] 47) := ⟨_, rfl⟩
          have hb11 : Below w10.heap.size w10 w11 := by rw [hw11]; exact ((Below.refl _ _).alloc (Nat.le_refl _) _).alloc (by simp) _
          have hx11 : B2 w11 (w10.heap.size + 1) 47 (.int .i64 (k : Int)) (.int .i64 72) := by
            rw [hw11]
            have := B2.new (w10.alloc (.cells #[.int .i64 0, .slice none 0 0, .slice none 0 0] 25)) 47 (.int .i64 (k : Int)) (.int .i64 72)
            simpa using this
          have HB11 := Lib.hid (bthen (bthen HB9w.out b10) hb11)
          have HX11 := Lib.hid hx11
          have HA11 := Lib.hid (alive_any w11)
          clear b10 hb11 hx11
          go_upto_region 14 with (fail)
          rw [← hw11]
          clear hw11
          go_wp2_with fail
          refine (HA11.out).mono ?_
          rintro e w12 ⟨rfl, b12⟩
          obtain ⟨y0, y1, -, -⟩ := (HX11.out.keep b12 HX11.out.lt).cells
          go_wp2_with fail
          go_ret
          exact ⟨rfl, bthen HB11.out b12⟩
end Go.Proofs.Ytddpgckbdccldaa
