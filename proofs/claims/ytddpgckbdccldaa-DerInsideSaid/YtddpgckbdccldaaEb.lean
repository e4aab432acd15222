/- der.lengthBytes. der.lengthOf and der.sizeOf of any value. -/
import Derived.Test.YtddpgckbdccldaaEa
namespace Go.Proofs.Ytddpgckbdccldaa
open Go.RowKit
set_option linter.unusedVariables false
set_option linter.unusedSimpArgs false
set_option maxRecDepth 100000
theorem bitLen_bl {x : Nat} (h : x ≤ 18446744073709551615) : Lib.bitLen x = bl x := by
  rcases Nat.eq_zero_or_pos x with h0 | h0
  · subst h0; decide
  · obtain ⟨h1, h2, h3⟩ := bitLen_bounds 64 x (Nat.le_refl _) (by omega) h0
    have := bl_of (v := x) (k := Lib.bitLen x - 1) h2 (by rw [show Lib.bitLen x - 1 + 1 = Lib.bitLen x by omega]; exact h3)
    omega
theorem gb_one (w : World) (base : Nat) (hb : base ≤ w.heap.size) (x : Nat) : Gb (w.alloc (.cells #[.int .u8 (x : Int)] 5)) base (some ⟨w.heap.size, 0, none⟩) 1 1 [x] :=
  ⟨rfl, by simp [bvs], Or.inr ⟨w.heap.size, 1, #[.int .u8 (x : Int)], rfl, hb, heap_alloc_new w _, Nat.le_refl _, by unfold maxLen; omega, rfl, rfl⟩⟩
theorem lb_lim (n : Nat) (h : n ≤ 4611686018427387904) : Lim 256 (lb n) := by
  unfold lb
  have : bl n ≤ 63 := bl_le (by omega)
  split
  · exact Lim.one (by omega)
  · intro x hx
    simp only [List.mem_cons] at hx
    rcases hx with rfl | hx
    · omega
    · exact bts_lim _ _ x hx
theorem wd_nat (n : Nat) (h : n ≤ 4611686018427387904) : wd (n : Int) = n := by unfold wd; omega
/-- what lengthBytes hands back -/
def LenB (L : Nat) (w : World) (e : Ending) (w' : World) : Prop := ∃ A c, e = .returned (.slice A (lbl L) c) ∧ Nb w' w'.heap.size A (lbl L) c (lb L) ∧ Below w.heap.size w w'
set_option maxHeartbeats 1000000 in
theorem lenb_any (L : Nat) (hL : L ≤ 4611686018427387904) (w : World) : Calls Try.prog 49 #[.int .i64 (L : Int)] w (LenB L w) := by
  by_cases h : L < 128
  · have k1 : (L : Int) < 128 := by omega
    have k2 : (L : Int) % 256 = (L : Int) := by omega
    have HE := Lib.hid (show lb L = [L] by unfold lb; rw [if_pos h])
    have HE2 := Lib.hid (show lbl L = 1 by unfold lbl; rw [if_pos h])
    have HG := Lib.hid (gb_one w w.heap.size (Nat.le_refl _) L)
    have HX := Lib.hid (show L < 256 by omega)
    clear h hL
    go_enter Try.func49, Try.ntmps49
    go_wp2_with fail
    go_ret
    exact ⟨_, _, by rw [HE2.out]; rfl, by rw [HE.out, HE2.out]; exact HG.out.nb (Lim.one HX.out), (Below.refl _ _).alloc (Nat.le_refl _) _⟩
  · have k1 : ((L : Int) < 128) = False := by simp only [eq_iff_iff, iff_false]; omega
    have hb63 : bl L ≤ 63 := bl_le (by omega)
    obtain ⟨k, hk⟩ : ∃ k, k = (bl L + 7) / 8 := ⟨_, rfl⟩
    have HE := Lib.hid (show lb L = (128 + k) :: bts L k by unfold lb; rw [if_neg h, hk])
    have HE2 := Lib.hid (show lbl L = 1 + k by unfold lbl; rw [if_neg h, hk])
    have hk8 : k ≤ 8 := by omega
    have hwr : IntKind.u64.wrap (L : Int) = (L : Int) := by rw [IntKind.wrap_u64]; omega
    have HL := Lib.hid (fun w => len_any (L : Int) w (by omega) (by omega))
    rw [show ((L : Int)).toNat = L by omega, bitLen_bl (by omega)] at HL
    have k2 : (((bl L : Nat) : Int) + 7) / 8 = (k : Int) := by omega
    have k3 : (128 + (k : Int)) % 256 = ((128 + k : Nat) : Int) := by omega
    have HW := Lib.hid (fun w => lowest_any (L : Int) (by omega) (by omega) k hk8 w)
    rw [wd_nat L hL] at HW
    have HX := Lib.hid (show 128 + k < 256 by omega)
    have HLL := Lib.hid hL
    generalize bl L = d at *
    clear h hL hk
    go_enter Try.func49, Try.ntmps49
    go_wp2_with fail
    refine (HL.out _).mono ?_
    rintro e w' ⟨rfl, rfl⟩
    go_wp2_with fail
    refine (HW.out _).mono ?_
    rintro e w2 ⟨rfl, o2, b2⟩
    have hg : Gb (w'.alloc (.cells #[.int .u8 (128 + (k : Int))] 5)) w'.heap.size (some ⟨w'.heap.size, 0, none⟩) 1 1 [128 + k] := by
      have := gb_one w' w'.heap.size (Nat.le_refl _) (128 + k)
      simpa using this
    have hz : (w'.alloc (.cells #[.int .u8 (128 + (k : Int))] 5)).heap.size = w'.heap.size + 1 := by simp
    rw [hz] at o2
    have HG := Lib.hid (hg.below b2)
    have HN := Lib.hid (o2.nb (n := k) (length_bts _ _) (by unfold maxLen; omega) (bts_lim _ _))
    have HB := Lib.hid (bthen ((Below.refl _ _).alloc (Nat.le_refl _) _) b2)
    have hs2 : w'.heap.size ≤ w2.heap.size := HB.out.size
    clear hg b2 o2 hz
    go_wp2_with (at_builtin; refine wpList_appb _ rfl _ _ rfl rfl HG.out rfl HN.out (by omega) hs2 ?_; intro A' c' w3 hg3 hr3)
    go_ret
    exact ⟨_, _, by rw [HE2.out]; rfl, by rw [HE.out, HE2.out]; exact hg3.nb (Lim.append (Lim.one HX.out) (bts_lim _ _)), hr3.below HB.out hs2 (fun q hq => by cases hq; exact Nat.le_refl _)⟩
end Go.Proofs.Ytddpgckbdccldaa
namespace Go.Proofs.Ytddpgckbdccldaa
open Go.RowKit
set_option linter.unusedVariables false
set_option linter.unusedSimpArgs false
set_option maxRecDepth 100000
/-- lengthOf tells it, for values of at most so many levels -/
def LenC (f : Nat) : Prop := ∀ {h : Hd} {t : T} {w : World}, Tr w w.heap.size f h t → lenT t ≤ 2305843009213693952 → Calls Try.prog 48 #[h.val] w fun e w' => e = .returned (.int .i64 (lenT t : Int)) ∧ Below w.heap.size w w'
theorem lbl_le (n : Nat) (h : n ≤ 4611686018427387904) : lbl n ≤ 9 := by
  have : bl n ≤ 63 := bl_le (by omega)
  unfold lbl
  split <;> omega
set_option maxHeartbeats 2000000 in
theorem size_of {f : Nat} (C : LenC f) {h : Hd} {t : T} {w : World} (H : Tr w w.heap.size f h t) (hL : lenT t ≤ 2305843009213693952) : Calls Try.prog 33 #[h.val] w fun e w' => e = .returned (.int .i64 (sizT t : Int)) ∧ Below w.heap.size w w' := by
  have hb : Below w.heap.size w (w.alloc (.cells h.cells 25)) := (Below.refl _ _).alloc (Nat.le_refl _) _
  have HC := Lib.hid (C (H.up hb) hL)
  have HB := Lib.hid hb
  have h9 := lbl_le (lenT t) (by omega)
  have HN := Lib.hid (fun w => lenb_any (lenT t) (by omega) w)
  have k1 : 1 + ((lbl (lenT t) : Nat) : Int) + ((lenT t : Nat) : Int) = ((sizT t : Nat) : Int) := by unfold sizT; omega
  have HS := Lib.hid (show sizT t ≤ 4611686018427387904 by unfold sizT; omega)
  clear H hb C
  obtain ⟨ht, hA, hn, hc, hK, hm, hd⟩ := h
  unfold Hd.val Hd.cells at *
  generalize lenT t = L at *
  generalize sizT t = S at *
  go_enter Try.func33, Try.ntmps33
  go_wp2_with fail
  refine (HC.out).mono ?_
  rintro e w1 ⟨rfl, b1⟩
  have HB1 := Lib.hid (bthen HB.out b1)
  clear b1
  go_wp2_with fail
  refine (HN.out _).mono ?_
  rintro e w2 ⟨A, c, rfl, -, b2⟩
  have HB2 := Lib.hid (bthen HB1.out b2)
  clear b2
  generalize lbl L = q at *
  go_wp2_with fail
  go_ret
  exact ⟨rfl, HB2.out⟩
set_option maxHeartbeats 4000000 in
theorem len_all : ∀ f, LenC f
  | 0, _, _, _, H, _ => H.elim
  | f + 1, h, t, w, H, hL => by
    have IH : Hid (LenC f) := Lib.hid (len_all f)
    have hb : Below w.heap.size w (w.alloc (.cells h.cells 25)) := (Below.refl _ _).alloc (Nat.le_refl _) _
    obtain ⟨-, -, N, hn1, K⟩ := H.parts
    obtain ⟨ht, hA, hn, hc, hK, hm, hd⟩ := h
    have HK := Lib.hid K
    have HB := Lib.hid hb
    have HM := Lib.hid K.len
    have HML := K.lim
    have HNl := Lib.hid N.len
    have HE := Lib.hid (lenT_eq t)
    have HLL := Lib.hid hL
    clear K H hb N hL
    unfold Hd.val Hd.cells at *
    dsimp only at *
    go_enter Try.func48, Try.ntmps48
    go_wp2_with fail
    go_loopw [3, 12] (fun a i wr => ∃ j q : Nat, j ≤ hm ∧ a = .int .i64 (q : Int) ∧ i = .int .i64 (j : Int) ∧ Hid (q = hn + lenL (t.ks.take j)) ∧ Hid (Below w.heap.size w wr)) (fun _ i _ => hm - (intOf i).toNat)
    case atStart => exact ⟨0, hn, Nat.zero_le _, rfl, rfl, Lib.hid rfl, HB⟩
    case round =>
      obtain ⟨j, q, hj, rfl, rfl, hq, hBr⟩ := hrel
      by_cases hlt : j < hm
      · have e1 : (j : Int) < (hm : Int) := by omega
        obtain ⟨k, hk⟩ : ∃ k, t.ks[j]? = some k := ⟨_, List.getElem?_eq_getElem (by rw [HM.out]; exact hlt)⟩
        obtain ⟨-, g, off, rfl, hg, h', q0, q1, q2, q3⟩ := (HK.out.below hBr.out).at_ hk
        have b2 : Below wr.heap.size wr (wr.alloc (.cells h'.cells 25)) := (Below.refl _ _).alloc (Nat.le_refl _) _
        have hsk : q + sizT k ≤ 2305843009213693952 := by
          have h1 := lenL_take_succ hk
          have h2 := lenL_take_le t.ks (j + 1)
          have h3 := HE.out
          have h4 := HLL.out
          have h5 := HNl.out
          have h6 := hq.out
          omega
        have HC := Lib.hid (size_of IH.out ((q3.more hBr.out.size).up b2) (by have := lenT_le_siz k; omega))
        have HB2 := Lib.hid (bthen hBr.out b2)
        have HQ := Lib.hid (show q + sizT k = hn + lenL (t.ks.take (j + 1)) by rw [lenL_take_succ hk, hq.out]; omega)
        clear b2 q3 hk
        obtain ⟨a1, a2, a3, a4, a5, a6, a7⟩ := h'
        unfold Hd.cells Hd.val at *
        dsimp only at *
        have s0 : wrap64 ((j : Int) + 1) = ((j + 1 : Nat) : Int) := by unfold wrap64; omega
        generalize sizT k = S at *
        have s1 : wrap64 ((q : Int) + (S : Int)) = ((q + S : Nat) : Int) := by unfold wrap64; omega
        go_wp2_with fail
        refine (HC.out).mono ?_
        rintro e w3 ⟨rfl, b3⟩
        have HB3 := Lib.hid (bthen HB2.out b3)
        have HJ := Lib.hid hlt
        clear b3 hlt
        go_wp2_with fail
        exact ⟨⟨j + 1, q + S, HJ.out, by go_num, by go_num, HQ, HB3⟩, by show hm - ((j : Int) + 1).toNat < hm - (j : Int).toNat; have := HJ.out; omega⟩
      · have e1' : ((j : Int) < (hm : Int)) = False := by simp only [eq_iff_iff, iff_false]; omega
        have HF := Lib.hid (show lenT t = q by rw [hq.out, HE.out, HNl.out, List.take_of_length_le (by rw [HM.out]; omega)])
        clear hlt
        go_wp2_with fail
        go_ret
        exact ⟨by rw [HF.out]; rfl, hBr.out⟩
end Go.Proofs.Ytddpgckbdccldaa
