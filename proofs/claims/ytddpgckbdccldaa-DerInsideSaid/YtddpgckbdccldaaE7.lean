/- der.written of any value. -/
import Derived.Test.YtddpgckbdccldaaEb
import Derived.Sort.CutIn
namespace Go.Proofs.Ytddpgckbdccldaa
open Go.RowKit
set_option linter.unusedVariables false
set_option linter.unusedSimpArgs false
set_option maxRecDepth 100000
theorem Gr.low {w w' : World} {A A' : Option Addr} {base : Nat} (h : Gr w A w' A') (hA : ∀ k, blk A = some k → base ≤ k) (hb : base ≤ w.heap.size) : ∀ p : Addr, p.block < base → w'.cell? p = w.cell? p :=
  fun p hp => h.cell (by omega) (fun e => by have := hA _ e; omega)
theorem Gb.base {w : World} {base n c : Nat} {A : Option Addr} {xs : List Nat} (h : Gb w base A n c xs) : ∀ k, blk A = some k → base ≤ k := fun k hk => (h.2.blk_lt k hk).1
theorem Gb.block {w : World} {base n c : Nat} {A : Option Addr} {xs : List Nat} (h : Gb w base A n c xs) : ∀ k, blk A = some k → k < w.heap.size := fun k hk => (h.2.blk_lt k hk).2
theorem Bx.gr {w w' : World} {A A' : Option Addr} {g : Nat} {t : TypeId} {a b c : Value} (h : Bx w g t a b c) (G : Gr w A w' A') (hne : blk A ≠ some g) : Bx w' g t a b c := (G.1.block g h.lt (Ne.symm hne)).trans h
/-- what written hands back -/
def Wrt (t : T) (w : World) (base : Nat) (A : Option Addr) (n : Nat) (xs : List Nat) (e : Ending) (w' : World) : Prop := ∃ A' c', e = .returned (.slice A' (n + sizT t) c') ∧ Gb w' base A' (n + sizT t) c' (xs ++ byT t) ∧ Gr w A w' A'
def WrtC (f : Nat) : Prop := ∀ {h : Hd} {t : T} {w : World} {base : Nat} {A : Option Addr} {n c : Nat} {xs : List Nat}, Tr w base f h t → base ≤ w.heap.size → Gb w base A n c xs → n + sizT t ≤ 1099511627776 → Calls Try.prog 34 #[.slice A n c, h.val] w (Wrt t w base A n xs)
set_option maxHeartbeats 4000000 in
theorem written_all : ∀ f, WrtC f
  | 0, _, _, _, _, _, _, _, _, H, _, _, _ => H.elim
  | f + 1, h, t, w, base, A, n, c, xs, H, hbase, G, hlim => by
    have IH : Hid (WrtC f) := Lib.hid (written_all f)
    obtain ⟨w1, hw1⟩ : ∃ w1, w1 = w.alloc (.cells h.cells 25) := ⟨_, rfl⟩
    have hz1 : w1.heap.size = w.heap.size + 1 := by rw [hw1]; simp
    have hb1 : Below w.heap.size w w1 := by rw [hw1]; exact (Below.refl _ _).alloc (Nat.le_refl _) _
    have hx1 : Bx w1 w.heap.size 25 (.int .i64 h.t) (.slice h.A h.n h.c) (.slice h.K h.m h.d) := by rw [hw1]; exact Bx.new w 25 _ _ _
    have T1 := Lib.hid (H.below (hb1.mono hbase))
    have G1 := Lib.hid (G.below hb1)
    have GR1 := Lib.hid (Gr.of hb1 A)
    have HA := Lib.hid G.base
    have HA2 := Lib.hid (G.block)
    obtain ⟨et, -, N, hn1, K⟩ := H.parts
    have HLen := Lib.hid (lenT_eq t)
    have HBy := Lib.hid (byT_eq t)
    have HSz := Lib.hid (show sizT t = 1 + lbl (lenT t) + lenT t from rfl)
    have HM := Lib.hid K.len
    have HML := K.lim
    have HNl := Lib.hid N.len
    have HLim := Lib.hid hlim
    have HW := Lib.hid hw1
    have HZ := Lib.hid hz1
    have HX := Lib.hid hx1
    have HBase := Lib.hid (show base ≤ w1.heap.size by omega)
    have ET := Lib.hid et
    clear H G K hx1 hlim et
    obtain ⟨ht, hA, hn, hc, hK, hm, hd⟩ := h
    unfold Hd.val Hd.cells at *
    dsimp only at *
    go_enter Try.func34, Try.ntmps34
    go_upto_region 1 with (fail)
    rw [← hw1]
    obtain ⟨c0, c1, c2, f0, f1, f2⟩ := HX.out.cells
    obtain ⟨z, hz⟩ : ∃ z : Nat, ht % 256 = (z : Int) := ⟨(ht % 256).toNat, by omega⟩
    have hz256 : z < 256 := by omega
    have HZ2 := Lib.hid (show (t.tag % 256).toNat = z by rw [← ET.out, hz]; rfl)
    have b1b : Below w1.heap.size w1 (w1.alloc (.cells #[.int .u8 (z : Int)] 5)) := (Below.refl _ _).alloc (Nat.le_refl _) _
    have HN1 := Lib.hid ((gb_one w1 w1.heap.size (Nat.le_refl _) z).nb (Lim.one hz256))
    have HG1b := Lib.hid (G1.out.below b1b)
    have HR1b := Lib.hid (Gr.of b1b A)
    have hs1b : base ≤ (w1.alloc (.cells #[.int .u8 (z : Int)] 5)).heap.size := by have := HBase.out; simp; omega
    have hl1 : n + 1 ≤ 1099511627776 := by have := HLim.out; rw [HSz.out] at this; omega
    have HNE := Lib.hid (show blk A ≠ some w.heap.size from fun e => by have := HA2.out _ e; omega)
    have HB1 := Lib.hid (Gr.of hb1 A)
    have HNB := Lib.hid N
    clear hw1 hz1 b1b f0 f1 f2 hb1 N
    go_upto_region 2 with (at_builtin; refine wpList_appb _ rfl (.tmp 7) (.tmp 11) rfl rfl HG1b.out rfl HN1.out hl1 hs1b ?_; intro A2 cc2 w2 hg2 hr2)
    have GR2 := Lib.hid (HR1b.out.trans hr2)
    have G2 := Lib.hid hg2
    have hs2 : base ≤ w2.heap.size := Nat.le_trans HBase.out GR2.out.size
    have HT2 := Lib.hid (T1.out.keep (GR2.out.low HA.out HBase.out))
    have HC2 := Lib.hid (len_all (f + 1) (HT2.out.more hs2) (by have := HLim.out; rw [HSz.out] at this; omega))
    unfold Hd.val at HC2
    dsimp only at HC2
    obtain ⟨c0', c1', c2', -, -, -⟩ := (HX.out.gr GR2.out HNE.out).cells
    have HLN := Lib.hid (fun w => lenb_any (lenT t) (by have := HLim.out; rw [HSz.out] at this; omega) w)
    have hl2 : n + 1 + lbl (lenT t) ≤ 1099511627776 := by have := HLim.out; rw [HSz.out] at this; omega
    obtain ⟨L, hL⟩ : ∃ L, Hid (lenT t = L) := ⟨_, Lib.hid rfl⟩
    rw [hL.out] at HC2 HLN hl2
    obtain ⟨Q, hQ⟩ : ∃ Q, Hid (lbl L = Q) := ⟨_, Lib.hid rfl⟩
    clear hg2 hr2 c0 c1 c2
    go_wp2_with fail
    refine (HC2.out).mono ?_
    rintro e w3 ⟨rfl, b3⟩
    have B3 := Lib.hid b3
    clear b3
    go_wp2_with fail
    refine (HLN.out _).mono ?_
    rintro e w4 ⟨A4, c4, rfl, n4, b4⟩
    rw [hQ.out] at n4 hl2
    have G4 := Lib.hid ((G2.out.below B3.out).below b4)
    have GR4 := Lib.hid ((GR2.out.trans (Gr.of B3.out A2)).trans (Gr.of b4 A2))
    have hs4 : base ≤ w4.heap.size := Nat.le_trans HBase.out GR4.out.size
    have N4 := Lib.hid n4
    rw [hQ.out]
    clear n4 b4 c0' c1' c2'
    go_upto_region 3 with (at_builtin; refine wpList_appb _ rfl (.tmp 13) (.tmp 16) rfl rfl G4.out rfl N4.out hl2 hs4 ?_; intro A5 cc5 w5 hg5 hr5)
    have GR5 := Lib.hid (GR4.out.trans hr5)
    have G5 := Lib.hid hg5
    have hs5 : base ≤ w5.heap.size := Nat.le_trans HBase.out GR5.out.size
    obtain ⟨d0, d1, d2, -, -, -⟩ := (HX.out.gr GR5.out HNE.out).cells
    have N5 := Lib.hid (T1.out.keep (GR5.out.low HA.out HBase.out)).parts.2.2.1
    dsimp only at N5
    have hl5 : n + 1 + Q + hn ≤ 1099511627776 := by have h1 := HLim.out; have h2 := HLen.out; rw [HSz.out, hL.out, hQ.out] at h1; rw [hL.out, HNl.out] at h2; omega
    clear hg5 hr5
    go_upto_region 4 with (at_builtin; refine wpList_appb _ rfl (.tmp 18) (.tmp 20) rfl rfl G5.out rfl N5.out hl5 hs5 ?_; intro A6 cc6 w6 hg6 hr6)
    have GR6 := Lib.hid (GR5.out.trans hr6)
    have G6 := Lib.hid hg6
    obtain ⟨d0', d1', d2', -, -, -⟩ := (HX.out.gr GR6.out HNE.out).cells
    clear d0 d1 d2 hg6 hr6
    go_wp2_with fail
    obtain ⟨N6, hN6⟩ : ∃ N6, Hid (n + 1 + Q + hn = N6) := ⟨_, Lib.hid rfl⟩
    obtain ⟨pre, hpre⟩ : ∃ pre, Hid (xs ++ [z] ++ lb L ++ t.bs = pre) := ⟨_, Lib.hid rfl⟩
    rw [hN6.out, hpre.out] at G6
    rw [hN6.out]
    have HK1 := Lib.hid T1.out.parts.2.2.2.2
    dsimp only at HK1
    have HEnd := Lib.hid (show xs ++ byT t = pre ++ byL t.ks by rw [HBy.out, HZ2.out, hL.out, ← hpre.out]; simp [body])
    have HNd := Lib.hid (show n + sizT t = N6 + lenL t.ks by have h1 := HLen.out; have h2 := HSz.out; have h3 := hN6.out; rw [hL.out] at h1 h2; rw [hQ.out] at h2; rw [HNl.out] at h1; omega)
    clear hl1 hl2 hl5 hs1b hs2 hs4 hs5 d0' d1' d2'
    go_loopw [0, 25] (fun o i wr => ∃ (j : Nat) (A' : Option Addr) (N' c' : Nat), j ≤ hm ∧ o = .slice A' N' c' ∧ i = .int .i64 (j : Int) ∧ Hid (N' = N6 + lenL (t.ks.take j)) ∧ Hid (Gb wr base A' N' c' (pre ++ byL (t.ks.take j))) ∧ Hid (Gr w1 A wr A')) (fun _ i _ => hm - (intOf i).toNat)
    case atStart => exact ⟨0, _, _, _, Nat.zero_le _, rfl, rfl, Lib.hid rfl, Lib.hid (by simpa [byL] using G6.out), GR6⟩
    case round =>
      obtain ⟨j, A', N', c', hj, rfl, rfl, hN', G', R'⟩ := hrel
      by_cases hlt : j < hm
      · have e1 : (j : Int) < (hm : Int) := by omega
        obtain ⟨k, hk⟩ : ∃ k, t.ks[j]? = some k := ⟨_, List.getElem?_eq_getElem (by rw [HM.out]; exact hlt)⟩
        obtain ⟨-, g, off, rfl, hg, h', q0, q1, q2, q3⟩ := (HK1.out.keep (R'.out.low HA.out HBase.out)).at_ hk
        have b2 : Below wr.heap.size wr (wr.alloc (.cells h'.cells 25)) := (Below.refl _ _).alloc (Nat.le_refl _) _
        have hsr : base ≤ wr.heap.size := Nat.le_trans HBase.out R'.out.size
        have hsk : N' + sizT k ≤ 1099511627776 := by
          have h1 := lenL_take_succ hk
          have h2 := lenL_take_le t.ks (j + 1)
          have h3 := HNd.out
          have h4 := HLim.out
          have h6 := hN'.out
          omega
        have HC := Lib.hid (IH.out (q3.below (b2.mono hsr)) (Nat.le_trans hsr b2.size) (G'.out.below b2) hsk)
        have HRb := Lib.hid (R'.out.trans (Gr.of b2 A'))
        have HN2 := Lib.hid (show N' + sizT k = N6 + lenL (t.ks.take (j + 1)) by rw [lenL_take_succ hk, hN'.out]; omega)
        have HY2 := Lib.hid (show pre ++ byL (t.ks.take j) ++ byT k = pre ++ byL (t.ks.take (j + 1)) by rw [byL_take_succ hk, List.append_assoc])
        clear b2 q3 hk
        obtain ⟨a1, a2, a3, a4, a5, a6, a7⟩ := h'
        unfold Hd.cells Hd.val at *
        dsimp only at *
        go_wp2_with fail
        refine (HC.out).mono ?_
        rintro e w3 ⟨A3, c3, rfl, g3, r3⟩
        have HG3 : Hid (Gb w3 base A3 (N' + sizT k) c3 (pre ++ byL (t.ks.take (j + 1)))) := by show Gb _ _ _ _ _ _; rw [← HY2.out]; exact g3
        have HR3 := Lib.hid (HRb.out.trans r3)
        have HJ := Lib.hid hlt
        clear g3 r3 hlt
        generalize sizT k = S at *
        go_wp2_with fail
        exact ⟨⟨j + 1, A3, N' + S, c3, HJ.out, rfl, by go_num, HN2, HG3, HR3⟩, by show hm - ((j : Int) + 1).toNat < hm - (j : Int).toNat; have := HJ.out; omega⟩
      · have e1' : ((j : Int) < (hm : Int)) = False := by simp only [eq_iff_iff, iff_false]; omega
        have HF := Lib.hid (show N' = n + sizT t by rw [hN'.out, HNd.out, List.take_of_length_le (by rw [HM.out]; omega)])
        have HG := Lib.hid (show Gb wr base A' (n + sizT t) c' (xs ++ byT t) by have := G'.out; rw [HF.out, List.take_of_length_le (by rw [HM.out]; omega), ← HEnd.out] at this; exact this)
        clear hlt
        go_wp2_with fail
        go_ret
        exact ⟨A', c', by rw [← HF.out]; rfl, HG.out, HB1.out.trans R'.out⟩
end Go.Proofs.Ytddpgckbdccldaa
