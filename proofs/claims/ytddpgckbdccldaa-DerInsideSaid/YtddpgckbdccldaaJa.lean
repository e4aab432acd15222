/- How many values, and how deep: the reference's Count. The reference's Same: are two values alike? How the bytes of values compare (pure). The bytes of a value are read as it was (pure). The bytes of a value, cut anywhere, end too soon (pure). -/
import Derived.Test.YtddpgckbdccldaaJ1
import Derived.Lib.Bytes
namespace Go.Proofs.Ytddpgckbdccldaa
open Go.RowKit
set_option linter.unusedVariables false
set_option linter.unusedSimpArgs false
set_option maxRecDepth 100000
mutual
/-- how deep a value is -/
def depT : T → Nat
  | .mk _ _ ks => 1 + depL ks
def depL : List T → Nat
  | [] => 0
  | k :: ks => max (depT k) (depL ks)
end
theorem depT_eq (t : T) : depT t = 1 + depL t.ks := by cases t; simp [depT, T.ks]
theorem cnt_eq (t : T) : cnt t = 1 + cntL t.ks := by cases t; simp [cnt, T.ks]
theorem cntL_drop {ks : List T} {j : Nat} {k : T} (h : ks[j]? = some k) : cntL (ks.drop j) = cnt k + cntL (ks.drop (j + 1)) := by rw [drop_next h]; rfl
theorem depL_drop {ks : List T} {j : Nat} {k : T} (h : ks[j]? = some k) : depL (ks.drop j) = max (depT k) (depL (ks.drop (j + 1))) := by rw [drop_next h]; rfl
/-- so many, and so deep, of at most most + 1 -/
structure CntIs (t : T) (most s d : Nat) : Prop where
  d1 : 1 ≤ d
  ds : d ≤ s
  sm : s ≤ most + 1
  le : s ≤ cnt t
  ok : s ≤ most → s = cnt t ∧ d = depT t
def CntC (f : Nat) : Prop := ∀ {h : Hd} {t : T} {w : World} (most : Nat), most ≤ 4096 → Tr w w.heap.size f h t → Calls Try.prog 32 #[h.val, .int .i64 (most : Int)] w fun e w' => ∃ s d : Nat, e = .returned (.tuple #[.int .i64 (s : Int), .int .i64 (d : Int)]) ∧ CntIs t most s d ∧ Below w.heap.size w w'
set_option maxHeartbeats 4000000 in
theorem count_all : ∀ f, CntC f
  | 0, _, _, _, _, _, H => H.elim
  | f + 1, h, t, w, most, hmo, H => by
    have IH : Hid (CntC f) := Lib.hid (count_all f)
    have hb : Below w.heap.size w (w.alloc (.cells h.cells 25)) := (Below.refl _ _).alloc (Nat.le_refl _) _
    obtain ⟨-, -, N, hn1, K⟩ := H.parts
    obtain ⟨w1, hw1⟩ : ∃ w1, w1 = w.alloc (.cells h.cells 25) := ⟨_, rfl⟩
    have hx1 : Bx w1 w.heap.size 25 (.int .i64 h.t) (.slice h.A h.n h.c) (.slice h.K h.m h.d) := by rw [hw1]; exact Bx.new w 25 _ _ _
    rw [← hw1] at hb
    have HX := Lib.hid hx1
    have HK := Lib.hid K
    have HB := Lib.hid hb
    have HM := Lib.hid K.len
    have HML := K.lim
    have HE := Lib.hid (cnt_eq t)
    have HD := Lib.hid (depT_eq t)
    clear K H hb N hx1
    obtain ⟨ht, hA, hn, hc, hK, hm, hd⟩ := h
    unfold Hd.val Hd.cells at *
    dsimp only at *
    go_enter Try.func32, Try.ntmps32
    go_upto_region 1 with (fail)
    rw [← hw1]
    clear hw1
    go_wp2_with fail
    go_loopw [6, 7, 8] (fun a c i wr => ∃ s d j : Nat, j ≤ hm ∧ s ≤ most + 1 ∧ d ≤ s ∧ a = .int .i64 (s : Int) ∧ c = .int .i64 (d : Int) ∧ i = .int .i64 (j : Int) ∧ Hid (1 ≤ d ∧ s + cntL (t.ks.drop j) ≤ cnt t ∧ (s ≤ most → s + cntL (t.ks.drop j) = cnt t ∧ max d (1 + depL (t.ks.drop j)) = depT t)) ∧ Hid (Below w1.heap.size w1 wr)) (fun _ _ i _ => hm - (intOf i).toNat)
    case atStart => exact ⟨1, 1, 0, Nat.zero_le _, by omega, by omega, rfl, rfl, rfl, Lib.hid ⟨by omega, by rw [HE.out]; exact Nat.le_refl _, fun _ => ⟨by rw [HE.out]; rfl, by rw [HD.out]; simp⟩⟩, Lib.hid (Below.refl _ _)⟩
    case round =>
      obtain ⟨s, d, j, hj, hs, hds, rfl, rfl, rfl, hq, hBr⟩ := hrel
      have HBw := Lib.hid (HB.out.trans (hBr.out.mono HB.out.size))
      obtain ⟨x0, x1, x2, -, -, -⟩ := (HX.out.keep hBr.out HX.out.lt).cells
      by_cases hlt : j < hm
      · have e1 : (j : Int) < (hm : Int) := by omega
        by_cases hsm : s ≤ most
        · have e2 : (s : Int) ≤ (most : Int) := by omega
          obtain ⟨k, hk⟩ : ∃ k, t.ks[j]? = some k := ⟨_, List.getElem?_eq_getElem (by rw [HM.out]; exact hlt)⟩
          obtain ⟨-, g, off, rfl, hg, h', q0, q1, q2, q3⟩ := (HK.out.below HBw.out).at_ hk
          obtain ⟨r, hr⟩ : ∃ r, r = most - s := ⟨_, rfl⟩
          have er : (most : Int) - (s : Int) = (r : Int) := by omega
          have HC := Lib.hid (IH.out r (by omega) (q3.more HBw.out.size))
          have HX1 := Lib.hid (cntL_drop hk)
          have HY := Lib.hid (depL_drop hk)
          have HR := Lib.hid hr
          have HRR : r ≤ 4096 := by omega
          clear q3 hk hr
          obtain ⟨a1, a2, a3, a4, a5, a6, a7⟩ := h'
          unfold Hd.val at *
          dsimp only at *
          go_upto_region 5 with (fail)
          have er2 : IntKind.i64.wrap ((most : Int) - (s : Int)) = (r : Int) := by rw [IntKind.wrap_i64]; omega
          go_wp2_with fail
          refine (HC.out).mono ?_
          rintro e w3 ⟨m', d', rfl, hci, b3⟩
          obtain ⟨c1, c2, c3, c4, c5⟩ := hci
          have HB3 := Lib.hid (bthen hBr.out b3)
          have HJ := Lib.hid hlt
          have HC4 := Lib.hid c4
          have HC5 := Lib.hid c5
          have HC1 := Lib.hid c1
          clear b3 hlt c5 c4 c1
          have f1 : m' ≤ 4097 := by omega
          have f2 : s ≤ 4096 := by omega
          have f3 : d ≤ 4097 := by omega
          have f4 : d' ≤ 4097 := by omega
          have s1 : IntKind.i64.wrap ((s : Int) + (m' : Int)) = ((s + m' : Nat) : Int) := by rw [IntKind.wrap_i64]; omega
          have s2 : IntKind.i64.wrap ((d' : Int) + 1) = ((d' + 1 : Nat) : Int) := by rw [IntKind.wrap_i64]; omega
          generalize hS : s + m' = S at *
          by_cases hdd : d ≤ d'
          · have e3 : (d : Int) ≤ (d' : Int) := by omega
            have HG := Lib.hid (show 1 ≤ d' + 1 ∧ S + cntL (t.ks.drop (j + 1)) ≤ cnt t ∧ (S ≤ most → S + cntL (t.ks.drop (j + 1)) = cnt t ∧ max (d' + 1) (1 + depL (t.ks.drop (j + 1))) = depT t) by
              obtain ⟨g1, g2, g3⟩ := hq.out
              have h4 := HC4.out
              rw [HX1.out] at g2 g3
              refine ⟨by omega, by omega, fun h => ?_⟩
              obtain ⟨h5, h6⟩ := HC5.out (by have := HR.out; omega)
              obtain ⟨h7, h8⟩ := g3 (by omega)
              rw [HY.out] at h8
              exact ⟨by omega, by omega⟩)
            have HLe := Lib.hid (show S ≤ most + 1 ∧ d' + 1 ≤ S by have := HR.out; have := hq.out.1; omega)
            go_wp2_with fail
            exact ⟨⟨S, d' + 1, j + 1, HJ.out, HLe.out.1, HLe.out.2, by go_num, by go_num, by go_num, HG, HB3⟩, by show hm - ((j : Int) + 1).toNat < hm - (j : Int).toNat; have := HJ.out; omega⟩
          · have e3 : ((d : Int) ≤ (d' : Int)) = False := by simp only [eq_iff_iff, iff_false]; omega
            have HG := Lib.hid (show 1 ≤ d ∧ S + cntL (t.ks.drop (j + 1)) ≤ cnt t ∧ (S ≤ most → S + cntL (t.ks.drop (j + 1)) = cnt t ∧ max d (1 + depL (t.ks.drop (j + 1))) = depT t) by
              obtain ⟨g1, g2, g3⟩ := hq.out
              have h4 := HC4.out
              rw [HX1.out] at g2 g3
              refine ⟨g1, by omega, fun h => ?_⟩
              obtain ⟨h5, h6⟩ := HC5.out (by have := HR.out; omega)
              obtain ⟨h7, h8⟩ := g3 (by omega)
              rw [HY.out] at h8
              exact ⟨by omega, by omega⟩)
            have HLe := Lib.hid (show S ≤ most + 1 ∧ d ≤ S by have := HR.out; omega)
            go_wp2_with fail
            exact ⟨⟨S, d, j + 1, HJ.out, HLe.out.1, HLe.out.2, by go_num, by go_num, by go_num, HG, HB3⟩, by show hm - ((j : Int) + 1).toNat < hm - (j : Int).toNat; have := HJ.out; omega⟩
        · have e2 : ((s : Int) ≤ (most : Int)) = False := by simp only [eq_iff_iff, iff_false]; omega
          have HF := Lib.hid (show CntIs t most s d from ⟨hq.out.1, hds, hs, by have := hq.out.2.1; omega, fun h => absurd h hsm⟩)
          clear hlt hsm
          go_wp2_with fail
          refine bodyPost_ret (results_tmp2 rfl _ _ _) rfl ?_
          exact ⟨s, d, rfl, HF.out, HBw.out⟩
      · have e1' : ((j : Int) < (hm : Int)) = False := by simp only [eq_iff_iff, iff_false]; omega
        have HF := Lib.hid (show CntIs t most s d by
          have hd0 : t.ks.drop j = [] := List.drop_of_length_le (by rw [HM.out]; omega)
          have h0 := hq.out
          rw [hd0] at h0
          simp only [cntL, depL] at h0
          exact ⟨h0.1, hds, hs, by omega, fun h => ⟨by have := (h0.2.2 h).1; omega, by have := (h0.2.2 h).2; omega⟩⟩)
        clear hlt
        go_wp2_with fail
        refine bodyPost_ret (results_tmp2 rfl _ _ _) rfl ?_
        exact ⟨s, d, rfl, HF.out, HBw.out⟩
theorem heavy_any {f : Nat} {h : Hd} {t : T} {w : World} (H : Tr w w.heap.size f h t) : Calls Try.prog 9 #[h.val] w fun e w' => ∃ z : Bool, e = .returned (.bool z) ∧ Below w.heap.size w w' ∧ (z = false → cnt t ≤ 400) := by
  have hb : Below w.heap.size w (w.alloc (.cells h.cells 25)) := (Below.refl _ _).alloc (Nat.le_refl _) _
  have HC := Lib.hid (count_all f 400 (by omega) (H.up hb))
  have HB := Lib.hid hb
  clear H hb
  obtain ⟨ht, hA, hn, hc, hK, hm, hd⟩ := h
  unfold Hd.val Hd.cells at *
  dsimp only at *
  go_enter Try.func9, Try.ntmps9
  go_wp2_with fail
  refine (HC.out).mono ?_
  rintro e w1 ⟨s, d, rfl, hci, b1⟩
  have HB1 := Lib.hid (bthen HB.out b1)
  have HCI := Lib.hid hci
  clear b1 hci
  by_cases hs : 400 < s
  · have e1 : (400 : Int) < (s : Int) := by omega
    clear hs
    go_wp2_with fail
    go_ret
    exact ⟨true, rfl, HB1.out, fun h => by cases h⟩
  · have e1 : ((400 : Int) < (s : Int)) = False := by simp only [eq_iff_iff, iff_false]; omega
    have HF := Lib.hid (show cnt t ≤ 400 by have := (HCI.out.ok (by omega)).1; omega)
    clear hs
    go_wp2_with fail
    go_ret
    exact ⟨false, rfl, HB1.out, fun _ => HF.out⟩
end Go.Proofs.Ytddpgckbdccldaa
namespace Go.Proofs.Ytddpgckbdccldaa
open Go.RowKit
set_option linter.unusedVariables false
set_option linter.unusedSimpArgs false
set_option maxRecDepth 100000
theorem bstr_inj {a b : List Nat} (ha : Lim 256 a) (hb : Lim 256 b) (h : (bstr a).toList = (bstr b).toList) : a = b := by
  unfold bstr at h
  rw [Lib.strOfNums_toList, Lib.strOfNums_toList] at h
  have back : ∀ l : List Nat, Lim 256 l → (Lib.bytesOf (l.map fun x : Nat => (x : Int))).map (fun u => u.toNat) = l := by
    intro l hl
    induction l with
    | nil => rfl
    | cons x l ih =>
      have hx := hl x (by simp)
      simp only [Lib.bytesOf, List.map_cons, List.map_map] at ih ⊢
      rw [ih (fun y hy => hl y (List.mem_cons_of_mem _ hy))]
      congr 1
      simp only [Int.toNat_natCast, UInt8.toNat_ofNat']
      omega
  rw [← back a ha, ← back b hb, h]
theorem bstr_beq {a b : List Nat} (ha : Lim 256 a) (hb : Lim 256 b) : ((bstr a).toList != (bstr b).toList) = !(a == b) := by
  by_cases h : a = b
  · subst h; simp
  · have h2 : (bstr a).toList ≠ (bstr b).toList := fun e => h (bstr_inj ha hb e)
    have h3 : (a == b) = false := by simpa using h
    rw [h3]; simpa using h2
mutual
/-- are two values alike? -/
def sameT : T → T → Bool
  | .mk ta ba ka, u => ta == u.tag && (ba == u.bs && (ka.length == u.ks.length && sameL ka u.ks))
def sameL : List T → List T → Bool
  | [], _ => true
  | _ :: _, [] => false
  | a :: ka, b :: kb => sameT a b && sameL ka kb
end
theorem sameT_eq (t u : T) : sameT t u = (t.tag == u.tag && (t.bs == u.bs && (t.ks.length == u.ks.length && sameL t.ks u.ks))) := by cases t; rw [sameT]; rfl
mutual
theorem sameT_iff : ∀ t u : T, sameT t u = true ↔ t = u
  | .mk ta ba ka, .mk tb bb kb => by
    rw [sameT]
    simp only [T.tag, T.bs, T.ks, Bool.and_eq_true, beq_iff_eq, T.mk.injEq]
    constructor
    · rintro ⟨h1, h2, h3, h4⟩
      exact ⟨h1, h2, (sameL_iff ka kb h3).1 h4⟩
    · rintro ⟨h1, h2, h3⟩
      exact ⟨h1, h2, by rw [h3], (sameL_iff ka kb (by rw [h3])).2 h3⟩
theorem sameL_iff : ∀ l k : List T, l.length = k.length → (sameL l k = true ↔ l = k)
  | [], [], _ => by simp [sameL]
  | [], _ :: _, h => by simp at h
  | _ :: _, [], h => by simp at h
  | a :: ka, b :: kb, h => by
    rw [sameL]
    simp only [Bool.and_eq_true, List.cons.injEq]
    rw [sameT_iff a b, sameL_iff ka kb (by simpa using h)]
end
theorem sameL_drop {k l : List T} {j : Nat} {p q : T} (hp : k[j]? = some p) (hq : l[j]? = some q) : sameL (k.drop j) (l.drop j) = (sameT p q && sameL (k.drop (j + 1)) (l.drop (j + 1))) := by rw [drop_next hp, drop_next hq]; rfl
def SameC (f : Nat) : Prop := ∀ {f2 : Nat} {h1 h2 : Hd} {t1 t2 : T} {w : World}, Tr w w.heap.size f h1 t1 → Tr w w.heap.size f2 h2 t2 →
  Calls Try.prog 16 #[h1.val, h2.val] w fun e w' => e = .returned (.bool (sameT t1 t2)) ∧ Below w.heap.size w w'
set_option maxHeartbeats 8000000 in
theorem same_all : ∀ f, SameC f
  | 0, _, _, _, _, _, _, H, _ => H.elim
  | f + 1, f2, h1, h2, t1, t2, w, H1, H2 => by
    have IH : Hid (SameC f) := Lib.hid (same_all f)
    obtain ⟨f2, rfl⟩ : ∃ g, f2 = g + 1 := by cases f2 with | zero => exact H2.elim | succ g => exact ⟨g, rfl⟩
    obtain ⟨w1, hw1⟩ : ∃ w1, w1 = (w.alloc (.cells h1.cells 25)).alloc (.cells h2.cells 25) := ⟨_, rfl⟩
    have hb1 : Below w.heap.size w w1 := by rw [hw1]; exact ((Below.refl _ _).alloc (Nat.le_refl _) _).alloc (by simp) _
    have hx1 : Bx w1 w.heap.size 25 (.int .i64 h1.t) (.slice h1.A h1.n h1.c) (.slice h1.K h1.m h1.d) := by
      rw [hw1]; exact (Bx.new w 25 _ _ _).keep (B := w.heap.size + 1) ((Below.refl _ _).alloc (by simp) _) (by omega)
    have hy1 : Bx w1 (w.heap.size + 1) 25 (.int .i64 h2.t) (.slice h2.A h2.n h2.c) (.slice h2.K h2.m h2.d) := by
      rw [hw1]
      have := Bx.new (w.alloc (.cells h1.cells 25)) 25 (.int .i64 h2.t) (.slice h2.A h2.n h2.c) (.slice h2.K h2.m h2.d)
      rw [show (w.alloc (.cells h1.cells 25)).heap.size = w.heap.size + 1 by simp] at this
      exact this
    obtain ⟨et1, -, N1, -, K1⟩ := H1.parts
    obtain ⟨et2, -, N2, -, K2⟩ := H2.parts
    have k1 := conv_any (N1.below hb1)
    have k2 := conv_any (N2.below hb1)
    have hbe := bstr_beq N1.lim N2.lim
    have HK1 := Lib.hid K1
    have HK2 := Lib.hid K2
    have HM1 := Lib.hid K1.len
    have HM2 := Lib.hid K2.len
    have hm1 := K1.lim
    have hm2 := K2.lim
    have HE := Lib.hid (sameT_eq t1 t2)
    rw [← et1, ← et2, K1.len, K2.len] at HE
    have HB := Lib.hid hb1
    have HX := Lib.hid hx1
    have HY := Lib.hid hy1
    obtain ⟨c0, c1, c2, -, -, -⟩ := hx1.cells
    obtain ⟨d0, d1, d2, -, -, -⟩ := hy1.cells
    clear hb1 hx1 hy1 H1 H2 K1 K2 N1 N2 et1 et2
    obtain ⟨u1, A1, n1, cc1, KK1, m1, dd1⟩ := h1
    obtain ⟨u2, A2, n2, cc2, KK2, m2, dd2⟩ := h2
    unfold Hd.cells Hd.val at *
    dsimp only at *
    obtain ⟨b1, e1⟩ : ∃ b, (u1 == u2) = b := ⟨_, rfl⟩
    obtain ⟨b2, e2⟩ : ∃ b, (t1.bs == t2.bs) = b := ⟨_, rfl⟩
    obtain ⟨b3, e3⟩ : ∃ b, (m1 == m2) = b := ⟨_, rfl⟩
    rw [e1, e2, e3] at HE
    rw [e2] at hbe
    have f1 : (u1 != u2) = !b1 := by rw [← e1]; rfl
    have f3 : ((m1 : Int) != (m2 : Int)) = !b3 := by
      rw [← e3, bne]
      congr 1
      rw [Bool.eq_iff_iff]; simp; omega
    have E3 := Lib.hid e3
    generalize (bstr t1.bs) = S1 at *
    generalize (bstr t2.bs) = S2 at *
    clear e1 e2 e3
    cases b1 with
    | false =>
      clear f3 hbe k1 k2
      go_enter Try.func16, Try.ntmps16
      go_upto_region 1 with (fail)
      rw [← hw1]
      clear hw1
      go_wp2_with fail
      go_ret
      exact ⟨by rw [HE.out]; rfl, HB.out⟩
    | true =>
      cases b2 with
      | false =>
        clear f3
        have hs : (S1.toList = S2.toList) = False := by simpa using hbe
        clear hbe
        go_enter Try.func16, Try.ntmps16
        go_upto_region 1 with (fail)
        rw [← hw1]
        clear hw1
        go_wp2_with fail
        go_ret
        exact ⟨by rw [HE.out]; rfl, HB.out⟩
      | true =>
        have hs : S1.toList = S2.toList := by simpa using hbe
        clear hbe
        cases b3 with
        | false =>
          go_enter Try.func16, Try.ntmps16
          go_upto_region 1 with (fail)
          rw [← hw1]
          clear hw1
          go_wp2_with fail
          go_ret
          exact ⟨by rw [HE.out]; rfl, HB.out⟩
        | true =>
          obtain rfl : m1 = m2 := by simpa using E3.out
          go_enter Try.func16, Try.ntmps16
          go_upto_region 1 with (fail)
          rw [← hw1]
          clear hw1
          go_wp2_with fail
          clear c0 c1 d0 d1 k1 k2 f1 f3 hs
          go_loopw [5] (fun i wr => ∃ j : Nat, j ≤ m1 ∧ i = .int .i64 (j : Int) ∧ Hid (sameT t1 t2 = sameL (t1.ks.drop j) (t2.ks.drop j)) ∧ Hid (Below w1.heap.size w1 wr)) (fun i _ => m1 - (intOf i).toNat)
          case atStart => exact ⟨0, Nat.zero_le _, rfl, Lib.hid (by rw [HE.out]; simp), Lib.hid (Below.refl _ _)⟩
          case round =>
            obtain ⟨j, hj, rfl, hR, hBr⟩ := hrel
            have HBw := Lib.hid (HB.out.trans (hBr.out.mono HB.out.size))
            obtain ⟨-, -, x2, -, -, -⟩ := (HX.out.keep hBr.out HX.out.lt).cells
            obtain ⟨-, -, y2, -, -, -⟩ := (HY.out.keep hBr.out HY.out.lt).cells
            clear c2 d2
            by_cases hlt : j < m1
            · have e1 : (j : Int) < (m1 : Int) := by omega
              have hj0 : (0 : Int) ≤ (j : Int) := by omega
              obtain ⟨p, hp⟩ : ∃ p, t1.ks[j]? = some p := ⟨_, List.getElem?_eq_getElem (by rw [HM1.out]; exact hlt)⟩
              obtain ⟨q, hq⟩ : ∃ q, t2.ks[j]? = some q := ⟨_, List.getElem?_eq_getElem (by rw [HM2.out]; exact hlt)⟩
              have hnx := sameL_drop hp hq
              obtain ⟨-, g, off, rfl, hg, h', p0, p1, p2, p3⟩ := (HK1.out.below HBw.out).at_ hp
              obtain ⟨-, g', off', rfl, hg', h'', q0, q1, q2, q3⟩ := (HK2.out.below HBw.out).at_ hq
              have bd : Below wr.heap.size wr wr.drew := (Below.refl _ _).drew
              have HC := Lib.hid (IH.out ((p3.more HBw.out.size).up bd) ((q3.more HBw.out.size).up bd))
              have HX1 := Lib.hid (hR.out.trans hnx)
              have HG := Lib.hid (Nat.lt_of_lt_of_le hg HBw.out.size)
              have HG' := Lib.hid (Nat.lt_of_lt_of_le hg' HBw.out.size)
              have HL1 := Lib.hid (Nat.lt_of_lt_of_le HX.out.lt hBr.out.size)
              have HL2 := Lib.hid (Nat.lt_of_lt_of_le HY.out.lt hBr.out.size)
              clear hnx hp hq p3 q3 bd hg hg'
              obtain ⟨z, hz⟩ : ∃ z, Hid (sameT p q = z) := ⟨_, Lib.hid rfl⟩
              rw [hz.out] at HX1 HC
              obtain ⟨a1, a2, a3, a4, a5, a6, a7⟩ := h'
              obtain ⟨c1, c2, c3, c4, c5, c6, c7⟩ := h''
              unfold Hd.val at *
              dsimp only at *
              have HJ := Lib.hid hlt
              go_wp2_with fail
              go_region_held3 (fun w' => w'.cell? ⟨w.heap.size, 2, none⟩ = some (.slice (some ⟨g, off, none⟩) m1 dd1) ∧ w'.cell? ⟨w.heap.size + 1, 2, none⟩ = some (.slice (some ⟨g', off', none⟩) m1 dd2) ∧ w'.cell? ⟨g, off + j * 3, none⟩ = some (.int .i64 a1) ∧ w'.cell? ⟨g, off + j * 3 + 1, none⟩ = some (.slice a2 a3 a4) ∧ w'.cell? ⟨g, off + j * 3 + 2, none⟩ = some (.slice a5 a6 a7) ∧ w'.cell? ⟨g', off' + j * 3, none⟩ = some (.int .i64 c1) ∧ w'.cell? ⟨g', off' + j * 3 + 1, none⟩ = some (.slice c2 c3 c4) ∧ w'.cell? ⟨g', off' + j * 3 + 2, none⟩ = some (.slice c5 c6 c7))
                (first | exact ⟨x2, y2, p0, p1, p2, q0, q1, q2⟩ | exact HS2.out)
                (first
                  | (go_at_call 16; (with_reducible refine HC.out.mono ?_)
                     rintro r w2 ⟨rfl, b2⟩
                     have HB2 : Hid (Below wr.heap.size wr w2) := bthen (w1 := wr.drew) ((Below.refl _ _).drew) b2
                     have HS2 : Hid (w2.cell? ⟨w.heap.size, 2, none⟩ = some (.slice (some ⟨g, off, none⟩) m1 dd1) ∧ w2.cell? ⟨w.heap.size + 1, 2, none⟩ = some (.slice (some ⟨g', off', none⟩) m1 dd2) ∧ w2.cell? ⟨g, off + j * 3, none⟩ = some (.int .i64 a1) ∧ w2.cell? ⟨g, off + j * 3 + 1, none⟩ = some (.slice a2 a3 a4) ∧ w2.cell? ⟨g, off + j * 3 + 2, none⟩ = some (.slice a5 a6 a7) ∧ w2.cell? ⟨g', off' + j * 3, none⟩ = some (.int .i64 c1) ∧ w2.cell? ⟨g', off' + j * 3 + 1, none⟩ = some (.slice c2 c3 c4) ∧ w2.cell? ⟨g', off' + j * 3 + 2, none⟩ = some (.slice c5 c6 c7)) :=
                       ⟨(HB2.out.cell (p := ⟨_, _, none⟩) HL1.out).trans x2, (HB2.out.cell (p := ⟨_, _, none⟩) HL2.out).trans y2, (HB2.out.cell (p := ⟨_, _, none⟩) HG.out).trans p0, (HB2.out.cell (p := ⟨_, _, none⟩) HG.out).trans p1, (HB2.out.cell (p := ⟨_, _, none⟩) HG.out).trans p2, (HB2.out.cell (p := ⟨_, _, none⟩) HG'.out).trans q0, (HB2.out.cell (p := ⟨_, _, none⟩) HG'.out).trans q1, (HB2.out.cell (p := ⟨_, _, none⟩) HG'.out).trans q2⟩
                     clear b2))
              have HB2' := Lib.hid (bthen hBr.out HB2.out)
              have HB2w := Lib.hid (bthen HBw.out HB2.out)
              rcases z with _ | _
              · have HF := Lib.hid (show sameT t1 t2 = false by rw [HX1.out]; rfl)
                go_wp2_with fail
                go_ret
                exact ⟨by rw [HF.out]; rfl, HB2w.out⟩
              · rw [Bool.true_and] at HX1
                clear hlt
                go_wp2_with fail
                exact ⟨⟨j + 1, HJ.out, by go_num, HX1, HB2'⟩, by show m1 - ((j : Int) + 1).toNat < m1 - (j : Int).toNat; have := HJ.out; omega⟩
            · have e1' : ((j : Int) < (m1 : Int)) = False := by simp only [eq_iff_iff, iff_false]; omega
              have HF := Lib.hid (show sameT t1 t2 = true by rw [hR.out, List.drop_of_length_le (by rw [HM1.out]; omega)]; rfl)
              clear hlt
              go_wp2_with fail
              go_ret
              exact ⟨by rw [HF.out]; rfl, HBw.out⟩
end Go.Proofs.Ytddpgckbdccldaa
namespace Go.Proofs.Ytddpgckbdccldaa
set_option linter.unusedVariables false
set_option linter.unusedSimpArgs false
set_option maxRecDepth 100000
theorem cmpB_same (p x y : List Nat) : cmpB (p ++ x) (p ++ y) = cmpB x y := by
  induction p with
  | nil => rfl
  | cons a p ih => rw [List.cons_append, List.cons_append, cmpB, if_neg (Nat.lt_irrefl a), if_neg (Nat.lt_irrefl a), ih]
theorem cmpB_lt {a b : Nat} (h : a < b) (x y : List Nat) : cmpB (a :: x) (b :: y) = -1 := by rw [cmpB, if_pos h]
theorem cmpB_gt {a b : Nat} (h : b < a) (x y : List Nat) : cmpB (a :: x) (b :: y) = 1 := by rw [cmpB, if_neg (by omega), if_pos h]
theorem cmpB_app : ∀ (p q x y : List Nat), p.length = q.length → cmpB (p ++ x) (q ++ y) = if cmpB p q ≠ 0 then cmpB p q else cmpB x y
  | [], [], x, y, _ => by simp [cmpB]
  | [], _ :: _, _, _, h => by simp at h
  | _ :: _, [], _, _, h => by simp at h
  | a :: p, b :: q, x, y, h => by
    rw [List.cons_append, List.cons_append, cmpB, cmpB]
    by_cases h1 : a < b
    · simp [h1]
    · by_cases h2 : b < a
      · simp [h1, h2]
      · rw [if_neg h1, if_neg h2, if_neg h1, if_neg h2, cmpB_app p q x y (by simpa using h)]
theorem mod_split (m i : Nat) : m % 256 ^ (i + 1) = m / 256 ^ i % 256 * 256 ^ i + m % 256 ^ i := by
  rw [Nat.pow_succ, Nat.mod_mul]
  rw [Nat.mul_comm, Nat.add_comm]
theorem bts_lt {m n : Nat} : ∀ (k : Nat) (x y : List Nat), m % 256 ^ k < n % 256 ^ k → cmpB (bts m k ++ x) (bts n k ++ y) = -1 ∧ cmpB (bts n k ++ y) (bts m k ++ x) = 1
  | 0, x, y, h => by simp [Nat.mod_one] at h
  | i + 1, x, y, h => by
    rw [mod_split m i, mod_split n i] at h
    rw [bts, bts, List.cons_append, List.cons_append]
    have hm : m % 256 ^ i < 256 ^ i := Nat.mod_lt _ (Nat.pow_pos (by decide))
    have hn : n % 256 ^ i < 256 ^ i := Nat.mod_lt _ (Nat.pow_pos (by decide))
    rcases Nat.lt_trichotomy (m / 256 ^ i % 256) (n / 256 ^ i % 256) with h1 | h1 | h1
    · exact ⟨cmpB_lt h1 _ _, cmpB_gt h1 _ _⟩
    · rw [h1] at h ⊢
      obtain ⟨g1, g2⟩ := bts_lt (m := m) (n := n) i x y (by omega)
      constructor
      · rw [cmpB, if_neg (Nat.lt_irrefl _), if_neg (Nat.lt_irrefl _), g1]
      · rw [cmpB, if_neg (Nat.lt_irrefl _), if_neg (Nat.lt_irrefl _), g2]
    · exfalso
      have := Nat.mul_le_mul_right (256 ^ i) (show n / 256 ^ i % 256 + 1 ≤ m / 256 ^ i % 256 by omega)
      rw [Nat.add_mul] at this
      omega
theorem bl_mono {m n : Nat} (h : m ≤ n) : bl m ≤ bl n := bl_le (Nat.lt_of_le_of_lt h (bl_up n))
theorem lt_bytes (n : Nat) : n < 256 ^ ((bl n + 7) / 8) := by
  have h1 := bl_up n
  have h2 : 2 ^ bl n ≤ 2 ^ (8 * ((bl n + 7) / 8)) := Nat.pow_le_pow_right (by decide) (by omega)
  rw [Nat.pow_mul] at h2
  exact Nat.lt_of_lt_of_le h1 h2
theorem lb_lt {m n : Nat} (h : m < n) (x y : List Nat) : cmpB (lb m ++ x) (lb n ++ y) = -1 ∧ cmpB (lb n ++ y) (lb m ++ x) = 1 := by
  have hb := bl_mono (Nat.le_of_lt h)
  have hk : (bl m + 7) / 8 ≤ (bl n + 7) / 8 := by omega
  unfold lb
  by_cases h1 : n < 128
  · rw [if_pos h1, if_pos (by omega)]
    exact ⟨cmpB_lt h _ _, cmpB_gt h _ _⟩
  · rw [if_neg h1]
    by_cases h2 : m < 128
    · rw [if_pos h2]
      exact ⟨cmpB_lt (by omega) _ _, cmpB_gt (by omega) _ _⟩
    · rw [if_neg h2]
      rw [List.cons_append, List.cons_append]
      rcases Nat.lt_or_ge ((bl m + 7) / 8) ((bl n + 7) / 8) with h3 | h3
      · exact ⟨cmpB_lt (by omega) _ _, cmpB_gt (by omega) _ _⟩
      · have h4 : (bl m + 7) / 8 = (bl n + 7) / 8 := by omega
        have hn := lt_bytes n
        have hm := lt_bytes m
        rw [h4] at hm ⊢
        obtain ⟨g1, g2⟩ := bts_lt (m := m) (n := n) _ x y (by rwa [Nat.mod_eq_of_lt hm, Nat.mod_eq_of_lt hn])
        constructor
        · rw [cmpB, if_neg (Nat.lt_irrefl _), if_neg (Nat.lt_irrefl _), g1]
        · rw [cmpB, if_neg (Nat.lt_irrefl _), if_neg (Nat.lt_irrefl _), g2]
theorem lb_cmp (m n : Nat) (x y : List Nat) : cmpB (lb m ++ x) (lb n ++ y) = if ordC (m : Int) (n : Int) ≠ 0 then ordC (m : Int) (n : Int) else cmpB x y := by
  unfold ordC
  rcases Nat.lt_trichotomy m n with h | h | h
  · rw [(lb_lt h x y).1, if_pos (show (m : Int) < (n : Int) by omega)]; simp
  · subst h; rw [cmpB_same]; simp
  · rw [(lb_lt h y x).2, if_neg (show ¬ (m : Int) < (n : Int) by omega), if_pos (show (n : Int) < (m : Int) by omega)]; simp
/-- a suited value's tag is one of the table -/
theorem suit_tag {t : T} (h : suitM t = true) : t.tag = 1 ∨ t.tag = 2 ∨ t.tag = 3 ∨ t.tag = 4 ∨ t.tag = 5 ∨ t.tag = 12 ∨ t.tag = 48 ∨ t.tag = 49 := by
  rw [suitM_eq] at h
  by_cases hh : hk t.tag = true
  · unfold hk at hh
    simp at hh
    omega
  · rw [if_neg hh] at h
    unfold may at h
    simp only [Bool.and_eq_true] at h
    have h2 := h.2
    split at h2
    · omega
    · split at h2
      · omega
      · split at h2
        · omega
        · split at h2
          · omega
          · split at h2
            · omega
            · split at h2
              · omega
              · cases h2
theorem ordC_zero {x y : Int} : ordC x y = 0 ↔ x = y := by
  unfold ordC
  split
  · constructor
    · intro h; omega
    · intro h; omega
  · split
    · constructor
      · intro h; omega
      · intro h; omega
    · constructor
      · intro h; omega
      · intro h; rfl
theorem ordT_zero_siz {a b : T} (h : ordT a b = 0) : a.tag = b.tag ∧ lenT a = lenT b := by
  rw [ordT_eq] at h
  split at h
  · next h1 => exact absurd (ordC_zero.1 h) h1
  · next h1 =>
    split at h
    · next h2 => exact absurd h h2
    · next h2 => 
      have := ordC_zero.1 (by simpa using h2)
      exact ⟨by simpa using h1, by omega⟩
theorem ordT_tag {a b : T} (h : a.tag ≠ b.tag) : ordT a b = ordC a.tag b.tag := by rw [ordT_eq, if_pos h]
theorem ordT_len {a b : T} (h : a.tag = b.tag) (h2 : ordC (lenT a : Int) (lenT b : Int) ≠ 0) : ordT a b = ordC (lenT a : Int) (lenT b : Int) := by rw [ordT_eq, if_neg (fun q => q h), if_pos h2]
theorem ordT_kids {a b : T} (h : a.tag = b.tag) (h2 : lenT a = lenT b) (hh : hk a.tag = true) : ordT a b = ordL a.ks b.ks := by
  rw [ordT_eq, if_neg (fun q => q h), if_neg (fun q => q (ordC_zero.2 (by omega))), if_pos hh]
theorem ordT_leaf {a b : T} (h : a.tag = b.tag) (h2 : lenT a = lenT b) (hh : ¬ hk a.tag = true) : ordT a b = cmpB a.bs b.bs := by
  rw [ordT_eq, if_neg (fun q => q h), if_neg (fun q => q (ordC_zero.2 (by omega))), if_neg hh]
theorem suit_kids {t : T} (h : suitM t = true) (hh : hk t.tag = true) : t.bs = [] ∧ suitL t.ks = true ∧ (t.tag = 49 → risesT t.ks = true) := by
  rw [suitM_eq, if_pos hh] at h
  simp only [Bool.and_eq_true, List.isEmpty_iff, Bool.or_eq_true, decide_eq_true_eq] at h
  exact ⟨h.1.1, h.1.2, fun e => h.2.resolve_left (fun q => q e)⟩
theorem suit_leaf {t : T} (h : suitM t = true) (hh : ¬ hk t.tag = true) : t.ks = [] ∧ may t.tag t.bs = true := by
  rw [suitM_eq, if_neg hh] at h
  simpa only [Bool.and_eq_true, List.isEmpty_iff] using h
theorem body_kids {t : T} (h : suitM t = true) (hh : hk t.tag = true) : body t = byL t.ks ∧ lenT t = lenL t.ks := by
  have := (suit_kids h hh).1
  rw [lenT_eq, body, this]; simp
theorem body_leaf {t : T} (h : suitM t = true) (hh : ¬ hk t.tag = true) : body t = t.bs ∧ lenT t = t.bs.length := by
  have := (suit_leaf h hh).1
  rw [lenT_eq, body, this]; simp [byL, lenL]
mutual
theorem byT_cmp : ∀ (a b : T) (u v : List Nat), suitM a = true → suitM b = true → cmpB (byT a ++ u) (byT b ++ v) = if ordT a b ≠ 0 then ordT a b else cmpB u v
  | .mk ta ba ka, b, u, v, ha, hb => by
    have h1 := suit_tag ha
    have h2 := suit_tag hb
    rw [byT_eq, byT_eq]
    by_cases ht : (T.mk ta ba ka).tag = b.tag
    · rw [ht, List.cons_append, List.cons_append, cmpB, if_neg (Nat.lt_irrefl _), if_neg (Nat.lt_irrefl _), List.append_assoc, List.append_assoc, lb_cmp]
      by_cases hl : ordC ((lenT (T.mk ta ba ka) : Nat) : Int) (lenT b : Int) = 0
      · have e : lenT (T.mk ta ba ka) = lenT b := by have := ordC_zero.1 hl; omega
        rw [if_neg (fun q => q hl)]
        by_cases hkt : hk (T.mk ta ba ka).tag = true
        · have hkb : hk b.tag = true := by rw [← ht]; exact hkt
          rw [ordT_kids ht e hkt, (body_kids ha hkt).1, (body_kids hb hkb).1]
          exact byL_cmp ka b.ks u v (suit_kids ha hkt).2.1 (suit_kids hb hkb).2.1 (by have h3 : lenT (T.mk ta ba ka) = lenL ka := (body_kids ha hkt).2; have h4 := (body_kids hb hkb).2; omega)
        · have hkb : ¬ hk b.tag = true := by rw [← ht]; exact hkt
          rw [ordT_leaf ht e hkt, (body_leaf ha hkt).1, (body_leaf hb hkb).1]
          exact cmpB_app _ _ u v (by have h3 := (body_leaf ha hkt).2; have h4 := (body_leaf hb hkb).2; omega)
      · rw [if_pos hl, ordT_len ht hl, if_pos hl]
    · rw [ordT_tag ht, List.cons_append, List.cons_append]
      generalize (T.mk ta ba ka).tag = ta at *
      generalize b.tag = tb at *
      have e1 : ((ta % 256).toNat : Int) = ta := by omega
      have e2 : ((tb % 256).toNat : Int) = tb := by omega
      unfold ordC
      rcases Int.lt_trichotomy ta tb with h | h | h
      · rw [cmpB_lt (by omega), if_pos h]; simp
      · exact absurd h ht
      · rw [cmpB_gt (by omega), if_neg (show ¬ ta < tb by omega), if_pos h]; simp
theorem byL_cmp : ∀ (ka kb : List T) (u v : List Nat), suitL ka = true → suitL kb = true → lenL ka = lenL kb → cmpB (byL ka ++ u) (byL kb ++ v) = if ordL ka kb ≠ 0 then ordL ka kb else cmpB u v
  | [], [], u, v, _, _, _ => by simp [byL, ordL]
  | [], b :: kb, _, _, _, _, h => by rw [lenL_cons] at h; simp [lenL, sizT] at h; omega
  | a :: ka, [], _, _, _, _, h => by rw [lenL_cons] at h; simp [lenL, sizT] at h
  | a :: ka, b :: kb, u, v, ha, hb, h => by
    rw [suitL, Bool.and_eq_true] at ha hb
    rw [byL, byL, List.append_assoc, List.append_assoc, byT_cmp a b _ _ ha.1 hb.1, ordL]
    by_cases ho : ordT a b = 0
    · obtain ⟨h1, h2⟩ := ordT_zero_siz ho
      simp only [ho]
      simp only [ne_eq, not_true_eq_false, if_false]
      refine byL_cmp ka kb u v ha.2 hb.2 ?_
      rw [lenL_cons, lenL_cons, sizT, sizT, h2] at h
      omega
    · simp only [ne_eq, ho, not_false_eq_true, if_true]
end
/-- the places of some values, one behind the other -/
def plsL : Nat → List T → List (Nat × Nat)
  | _, [] => []
  | a, k :: ks => (a, a + sizT k) :: plsL (a + sizT k) ks
theorem cut_of {bs v : List Nat} {a : Nat} {t : T} (h : bs.drop a = byT t ++ v) : cutP bs (a, a + sizT t) = byT t := by
  unfold cutP
  simp only
  rw [h, show a + sizT t - a = (byT t).length by rw [byT_len]; unfold sizT; omega, List.take_left]
theorem drop_of {bs v : List Nat} {a : Nat} {t : T} (h : bs.drop a = byT t ++ v) : bs.drop (a + sizT t) = v := by
  rw [← List.drop_drop, h, show sizT t = (byT t).length by rw [byT_len]; unfold sizT; omega, List.drop_left]
theorem cmp_of {a b : T} (ha : suitM a = true) (hb : suitM b = true) : cmpB (byT a) (byT b) = ordT a b := by
  have := byT_cmp a b [] [] ha hb
  rw [List.append_nil, List.append_nil] at this
  rw [this]
  by_cases h : ordT a b = 0
  · simp [h, cmpB]
  · simp [h]
theorem rises_of {bs : List Nat} : ∀ (ks : List T) (a : Nat) (v : List Nat), suitL ks = true → bs.drop a = byL ks ++ v → risesP bs (plsL a ks) = risesT ks
  | [], a, v, _, _ => rfl
  | [k], a, v, _, _ => rfl
  | k :: k2 :: ks, a, v, hs, h => by
    rw [suitL, Bool.and_eq_true] at hs
    have hs2 := hs.2
    rw [suitL, Bool.and_eq_true] at hs2
    rw [byL, List.append_assoc] at h
    have h2 := drop_of h
    have h3 := h2
    rw [byL, List.append_assoc] at h3
    have ih := rises_of (k2 :: ks) (a + sizT k) v hs.2 h2
    rw [plsL, plsL] at *
    rw [risesP, risesT, ih, cut_of h, cut_of h3, cmp_of hs.1 hs2.1]
end Go.Proofs.Ytddpgckbdccldaa
namespace Go.Proofs.Ytddpgckbdccldaa
set_option linter.unusedVariables false
set_option linter.unusedSimpArgs false
set_option maxRecDepth 100000
theorem dropc {bs v : List Nat} {a x : Nat} (h : bs.drop a = x :: v) : a < bs.length ∧ bs.getD a 0 = x ∧ bs.drop (a + 1) = v := by
  have hl : a < bs.length := by
    rcases Nat.lt_or_ge a bs.length with h1 | h1
    · exact h1
    · rw [List.drop_of_length_le h1] at h; cases h
  refine ⟨hl, ?_, ?_⟩
  · rw [List.drop_eq_getElem_cons hl] at h
    rw [List.getD_eq_getElem?_getD, List.getElem?_eq_getElem hl]
    exact (List.cons.inj h).1
  · rw [← List.drop_drop, h]; rfl
theorem more_of {bs : List Nat} {f n : Nat} (hn : 128 ≤ n) : ∀ (k a : Nat) (v : List Nat), bs.drop a = bts n k ++ v → (k = 0 ∨ 256 ^ (k - 1) ≤ n) → moreM bs f k a (n / 256 ^ k) = .ok (n, a + k)
  | 0, a, v, h, _ => by
    rw [moreM, Nat.pow_zero, Nat.div_one, if_neg (by omega)]; rfl
  | i + 1, a, v, h, hk => by
    rw [bts, List.cons_append] at h
    obtain ⟨h1, h2, h3⟩ := dropc h
    have hp : 256 ^ i ≤ n := by
      rcases hk with hk | hk
      · omega
      · simpa using hk
    have e : n / 256 ^ (i + 1) * 256 + n / 256 ^ i % 256 = n / 256 ^ i := by
      rw [Nat.pow_succ, ← Nat.div_div_eq_div_mul]
      omega
    have h0 : 0 < n / 256 ^ i := Nat.div_pos hp (Nat.pow_pos (by decide))
    rw [moreM, if_neg (by omega), h2, e, if_neg (by omega), more_of hn i (a + 1) v h3 (by
      rcases Nat.eq_zero_or_pos i with h4 | h4
      · exact .inl h4
      · exact .inr (Nat.le_trans (Nat.pow_le_pow_right (by decide) (by omega)) hp))]
    congr 2; omega
theorem len_of {bs v : List Nat} {a n : Nat} (hn : n < 4294967296) (h : bs.drop a = lb n ++ v) : lenM bs a = .ok (n, a + lbl n) := by
  unfold lb at h
  unfold lenM lbl
  by_cases h1 : n < 128
  · rw [if_pos h1] at h ⊢
    obtain ⟨h2, h3, h4⟩ := dropc h
    rw [if_neg (by omega), h3, if_pos h1]
  · rw [if_neg h1] at h ⊢
    rw [List.cons_append] at h
    obtain ⟨h2, h3, h4⟩ := dropc h
    have hb : bl n ≤ 32 := bl_le (by omega)
    have hb2 := (bl_low (v := n) (by omega)).2
    have hk : 1 ≤ (bl n + 7) / 8 := by
      have : 8 ≤ bl n := by
        rcases Nat.lt_or_ge (bl n) 8 with h5 | h5
        · have h6 := bl_up n
          have h7 : 2 ^ bl n ≤ 2 ^ 7 := Nat.pow_le_pow_right (by decide) (by omega)
          omega
        · exact h5
      omega
    have hp : 256 ^ ((bl n + 7) / 8 - 1) ≤ n := by
      have h8 : 2 ^ (8 * ((bl n + 7) / 8 - 1)) ≤ 2 ^ (bl n - 1) := Nat.pow_le_pow_right (by decide) (by omega)
      rw [Nat.pow_mul] at h8
      exact Nat.le_trans h8 hb2
    have hz : n / 256 ^ ((bl n + 7) / 8) = 0 := Nat.div_eq_of_lt (lt_bytes n)
    have hm := more_of (f := a) (by omega) ((bl n + 7) / 8) (a + 1) v h4 (.inr hp)
    rw [hz] at hm
    rw [if_neg (by omega), h3, if_neg (by omega), if_neg (by omega), show 128 + (bl n + 7) / 8 - 128 = (bl n + 7) / 8 by omega, hm]
    congr 2; omega
theorem tag_of {t : T} (h : suitM t = true) : (((t.tag % 256).toNat : Nat) : Int) = t.tag ∧ tg t.tag = true := by
  have := suit_tag h
  constructor
  · omega
  · unfold tg hk
    rcases this with e | e | e | e | e | e | e | e <;> rw [e] <;> rfl
mutual
theorem val_of (bs : List Nat) : ∀ (t : T) (L a r r' around : Nat) (v : List Nat), room t L r = some r' → suitM t = true → bs.drop a = byT t ++ v → a + sizT t ≤ around → around ≤ bs.length → lenT t < 4294967296 → r ≤ 4096 →
    valM bs L a (4096 - r) around = .ok (t, a + sizT t, 4096 - r')
  | .mk ta ba ka, 0, a, r, r', around, v, hr, _, _, _, _, _, _ => by simp [room] at hr
  | .mk ta ba ka, L + 1, a, 0, r', around, v, hr, _, _, _, _, _, _ => by simp [room] at hr
  | .mk ta ba ka, L + 1, a, r + 1, r', around, v, hr, hs, hd, ha, hbs, hl, hr4 => by
    simp only [room] at hr
    obtain ⟨et, htg⟩ := tag_of hs
    have hd' := hd
    rw [byT_eq, List.cons_append] at hd'
    obtain ⟨d1, d2, d3⟩ := dropc hd'
    rw [List.append_assoc] at d3
    have hlen := len_of hl d3
    have d4 : bs.drop (a + 1 + lbl (lenT (T.mk ta ba ka))) = body (T.mk ta ba ka) ++ v := by
      rw [← List.drop_drop, d3, ← lb_len, List.drop_left]
    generalize hT : T.mk ta ba ka = t at *
    have hsz : sizT t = 1 + lbl (lenT t) + lenT t := rfl
    have htag : tagM bs a (4096 - (r + 1)) (L + 1) = .ok (t.tag % 256).toNat := by
      unfold tagM
      rw [if_neg (by omega), d2, et, htg, if_neg (by simp), if_neg (by omega), if_neg (by omega)]
    have hend : endM bs (a + 1) around = .ok (a + sizT t, a + 1 + lbl (lenT t)) := by
      unfold endM
      rw [hlen]
      simp only
      rw [if_pos (by omega)]
      congr 2; omega
    unfold valM
    rw [htag]
    simp only
    rw [hend]
    simp only
    rw [et]
    by_cases hkt : hk t.tag = true
    · rw [if_pos hkt]
      obtain ⟨s1, s2, s3⟩ := suit_kids hs hkt
      obtain ⟨b1, b2⟩ := body_kids hs hkt
      rw [b1] at d4
      have hks := kids_of bs ka L (a + sizT t) (a + sizT t - (a + 1 + lbl (lenT t))) (a + 1 + lbl (lenT t)) r r' v [] [] hr (by rw [← hT] at s2; exact s2) (by rw [← hT] at d4 ⊢; exact d4) (by rw [← hT] at b2 ⊢; simp only [T.ks] at b2; rw [← b2]; unfold sizT; omega) (by omega) (Nat.le_refl _) (by rw [← hT] at b2 hl; simp only [T.ks] at b2; omega) (by omega)
      rw [show 4096 - (r + 1) + 1 = 4096 - r by omega, hks]
      simp only [List.nil_append]
      rw [if_neg (by
        rintro ⟨q1, q2⟩
        have h49 : t.tag = 49 := by omega
        have := rises_of ka (a + 1 + lbl (lenT t)) v (by rw [← hT] at s2; exact s2) (by rw [← hT] at d4 ⊢; exact d4)
        rw [this] at q2
        have s4 := s3 h49
        rw [← hT] at s4
        simp only [T.ks] at s4
        rw [s4] at q2
        cases q2)]
      have : T.mk t.tag [] ka = t := by
        rw [← hT] at s1 ⊢
        simp only [T.bs] at s1
        rw [s1]; rfl
      rw [this]
    · rw [if_neg hkt]
      obtain ⟨s1, s2⟩ := suit_leaf hs hkt
      obtain ⟨b1, b2⟩ := body_leaf hs hkt
      rw [b1] at d4
      have hrow : (bs.drop (a + 1 + lbl (lenT t))).take (a + sizT t - (a + 1 + lbl (lenT t))) = t.bs := by
        rw [d4, show a + sizT t - (a + 1 + lbl (lenT t)) = t.bs.length by omega, List.take_left]
      rw [hrow, if_pos s2]
      have hk0 : ka = [] := by rw [← hT] at s1; exact s1
      have : T.mk t.tag t.bs [] = t := by rw [← hT, hk0]; rfl
      rw [this]
      rw [hk0] at hr
      simp only [roomL, Option.some.injEq] at hr
      rw [show 4096 - (r + 1) + 1 = 4096 - r' by omega]
theorem kids_of (bs : List Nat) : ∀ (ks : List T) (L to f a r r' : Nat) (v : List Nat) (k0 : List T) (p0 : List (Nat × Nat)), roomL ks L r = some r' → suitL ks = true → bs.drop a = byL ks ++ v → a + lenL ks = to → to ≤ bs.length → to - a ≤ f → lenL ks < 4294967296 → r ≤ 4096 →
    kidsM (valM bs L) to f a (4096 - r) k0 p0 = .ok (k0 ++ ks, p0 ++ plsL a ks, to, 4096 - r')
  | [], L, to, f, a, r, r', v, k0, p0, hr, _, _, ht, _, _, _, _ => by
    simp only [roomL, Option.some.injEq] at hr
    subst hr
    simp only [lenL, Nat.add_zero] at ht
    subst ht
    cases f with
    | zero => simp [kidsM, plsL]
    | succ f => simp [kidsM, plsL]
  | k :: ks, L, to, f, a, r, r', v, k0, p0, hr, hs, hd, ht, hb, hf, hl, hr4 => by
    rw [lenL_cons] at ht hl
    have hk2 : 1 ≤ sizT k := by unfold sizT; omega
    have hkl := lenT_le_siz k
    rw [suitL, Bool.and_eq_true] at hs
    rw [byL, List.append_assoc] at hd
    cases f with
    | zero => omega
    | succ f =>
      simp only [roomL] at hr
      cases hq : room k L r with
      | none => rw [hq] at hr; cases hr
      | some q =>
        rw [hq] at hr
        simp only at hr
        have hrc := room_cnt k L r q hq
        rw [kidsM, if_pos (by omega), val_of bs k L a r q to _ hq hs.1 hd (by omega) hb (by omega) hr4]
        simp only
        rw [kids_of bs ks L to f (a + sizT k) q r' v _ _ hr hs.2 (drop_of hd) (by omega) hb (by omega) (by omega) (by omega)]
        simp [plsL]
end
theorem val_top {bs v : List Nat} {t : T} (h : rightM t = true) (hd : bs = byT t ++ v) (hl : bs.length ≤ 65535) : ∃ h', valM bs 16 0 0 bs.length = .ok (t, sizT t, h') := by
  unfold rightM at h
  rw [Bool.and_eq_true] at h
  obtain ⟨r', hr⟩ := Option.isSome_iff_exists.1 h.1
  have hlen : bs.length = sizT t + v.length := by rw [hd, List.length_append, byT_len]; rfl
  have := val_of bs t 16 0 4096 r' bs.length v hr h.2 (by rw [List.drop_zero]; exact hd) (by omega) (Nat.le_refl _) (by have := lenT_le_siz t; omega) (Nat.le_refl _)
  rw [Nat.zero_add] at this
  exact ⟨_, this⟩
/-- what is written is read as it was -/
theorem read_back {t : T} (h : rightM t = true) (hl : sizT t ≤ 65535) : readM (byT t) = .ok t := by
  have hlen : (byT t).length = sizT t := byT_len t
  obtain ⟨h', hv⟩ := val_top (bs := byT t) (v := []) h (by simp) (by omega)
  unfold readM
  rw [if_neg (by omega), hv]
  simp only
  rw [if_neg (by omega)]
/-- with others behind, it is read up to these -/
theorem read_more {t : T} (h : rightM t = true) (x : Nat) (hl : sizT t < 65535) : readM (byT t ++ [x]) = .error (sizT t, 73) := by
  have hlen : (byT t ++ [x]).length = sizT t + 1 := by rw [List.length_append, byT_len]; rfl
  obtain ⟨h', hv⟩ := val_top (bs := byT t ++ [x]) (v := [x]) h rfl (by omega)
  unfold readM
  rw [if_neg (by omega), hv]
  simp only
  rw [if_pos (by omega)]
/-- bytes say which value they are -/
theorem byT_inj {a b : T} (ha : rightM a = true) (hb : rightM b = true) (hl : sizT a ≤ 65535) (h : byT a = byT b) : a = b := by
  have e : sizT a = sizT b := by have h1 : (byT a).length = sizT a := byT_len a; have h2 : (byT b).length = sizT b := byT_len b; rw [← h1, h, h2]
  have h1 := read_back ha hl
  rw [h, read_back hb (by omega)] at h1
  exact (Except.ok.inj h1).symm
end Go.Proofs.Ytddpgckbdccldaa
namespace Go.Proofs.Ytddpgckbdccldaa
set_option linter.unusedVariables false
set_option linter.unusedSimpArgs false
set_option maxRecDepth 100000
theorem more_cut {bs : List Nat} {f n : Nat} : ∀ (m k a : Nat), bs.drop a = (bts n k).take m → m < k → 256 ^ (k - 1) ≤ n → a + m = bs.length → moreM bs f k a (n / 256 ^ k) = .error (bs.length, 72)
  | _, 0, a, h, hm, _, _ => by omega
  | 0, i + 1, a, h, hm, hp, ha => by rw [moreM, if_pos (by omega)]
  | m + 1, i + 1, a, h, hm, hp, ha => by
    rw [bts, List.take_succ_cons] at h
    obtain ⟨h1, h2, h3⟩ := dropc h
    have hp' : 256 ^ i ≤ n := by simpa using hp
    have e : n / 256 ^ (i + 1) * 256 + n / 256 ^ i % 256 = n / 256 ^ i := by
      rw [Nat.pow_succ, ← Nat.div_div_eq_div_mul]
      omega
    have h0 : 0 < n / 256 ^ i := Nat.div_pos hp' (Nat.pow_pos (by decide))
    rw [moreM, if_neg (by omega), h2, e, if_neg (by omega), more_cut m i (a + 1) h3 (by omega) (Nat.le_trans (Nat.pow_le_pow_right (by decide) (by omega)) hp') (by omega)]
theorem len_cut {bs : List Nat} {a n m : Nat} (hn : n < 4294967296) (h : bs.drop a = (lb n).take m) (hm : m < lbl n) (ha : a + m = bs.length) : lenM bs a = .error (bs.length, 72) := by
  unfold lb at h
  unfold lenM
  unfold lbl at hm
  cases m with
  | zero => rw [if_pos (by omega)]
  | succ m =>
    by_cases h1 : n < 128
    · rw [if_pos h1] at hm; omega
    · rw [if_neg h1] at h hm
      rw [List.take_succ_cons] at h
      obtain ⟨h2, h3, h4⟩ := dropc h
      have hb : bl n ≤ 32 := bl_le (by omega)
      have hb2 := (bl_low (v := n) (by omega)).2
      have hk : 1 ≤ (bl n + 7) / 8 := by omega
      have hp : 256 ^ ((bl n + 7) / 8 - 1) ≤ n := by
        have h8 : 2 ^ (8 * ((bl n + 7) / 8 - 1)) ≤ 2 ^ (bl n - 1) := Nat.pow_le_pow_right (by decide) (by omega)
        rw [Nat.pow_mul] at h8
        exact Nat.le_trans h8 hb2
      have hz : n / 256 ^ ((bl n + 7) / 8) = 0 := Nat.div_eq_of_lt (lt_bytes n)
      have hmm := more_cut (f := a) m ((bl n + 7) / 8) (a + 1) h4 (by omega) hp (by omega)
      rw [hz] at hmm
      rw [if_neg (by omega), h3, if_neg (by omega), if_neg (by omega), show 128 + (bl n + 7) / 8 - 128 = (bl n + 7) / 8 by omega, hmm]
/-- cut anywhere, a value's bytes end too soon -/
theorem read_cut {t : T} {cut : Nat} (h : rightM t = true) (hl : sizT t ≤ 65535) (hc : cut < sizT t) : readM ((byT t).take cut) = .error (cut, 72) := by
  have hs : suitM t = true := by unfold rightM at h; rw [Bool.and_eq_true] at h; exact h.2
  obtain ⟨et, htg⟩ := tag_of hs
  have hsz : sizT t = 1 + lbl (lenT t) + lenT t := rfl
  have hbl : (byT t).length = sizT t := byT_len t
  obtain ⟨bs, hbs⟩ : ∃ bs, bs = (byT t).take cut := ⟨_, rfl⟩
  have hlen : bs.length = cut := by rw [hbs, List.length_take]; omega
  have key : valM bs 16 0 0 bs.length = .error (cut, 72) := by
    unfold valM
    cases cut with
    | zero =>
      have : tagM bs 0 0 16 = .error (0, 72) := by unfold tagM; rw [if_pos hlen.symm]
      rw [this]
    | succ m =>
      rw [byT_eq, List.take_succ_cons] at hbs
      obtain ⟨d1, d2, d3⟩ := dropc (bs := bs) (a := 0) (by rw [List.drop_zero]; exact hbs)
      rw [Nat.zero_add] at d3
      have htag : tagM bs 0 0 16 = .ok (t.tag % 256).toNat := by
        unfold tagM
        rw [if_neg (by omega), d2, et, htg, if_neg (by simp), if_neg (by omega), if_neg (by omega)]
      rw [htag]
      simp only [Nat.zero_add]
      have hend : endM bs 1 bs.length = .error (m + 1, 72) := by
        unfold endM
        by_cases hm : m < lbl (lenT t)
        · have h3 : bs.drop 1 = (lb (lenT t)).take m := by
            rw [d3, List.take_append_of_le_length (by rw [lb_len]; omega)]
          rw [len_cut (by omega) h3 hm (by omega)]
          simp only
          rw [hlen]
        · have h3 : bs.drop 1 = lb (lenT t) ++ (body t).take (m - lbl (lenT t)) := by
            rw [d3, List.take_append, List.take_of_length_le (by rw [lb_len]; omega), lb_len]
          rw [len_of (by omega) h3]
          simp only
          rw [if_neg (by omega), if_neg (by omega), hlen]
      rw [hend]
  rw [← hbs]
  unfold readM
  rw [if_neg (by omega), key]
end Go.Proofs.Ytddpgckbdccldaa
