/- How values compare; which are right (pure); cmp.Compare. slices.CompareFunc over values; der.order. neighbours over values; der.suits and der.Right of any value. der.suits and der.Right of any value. -/
import Derived.Test.YtddpgckbdccldaaG6
namespace Go.Proofs.Ytddpgckbdccldaa
open Go.RowKit
set_option linter.unusedVariables false
set_option linter.unusedSimpArgs false
set_option maxRecDepth 100000
def ordC (x y : Int) : Int := if x < y then -1 else if y < x then 1 else 0
mutual
/-- how two values compare -/
def ordT : T → T → Int
  | .mk ta ba ka, u => if ta ≠ u.tag then ordC ta u.tag
    else if ordC ((ba.length + lenL ka : Nat) : Int) (lenT u : Int) ≠ 0 then ordC ((ba.length + lenL ka : Nat) : Int) (lenT u : Int)
    else if hk ta then ordL ka u.ks else cmpB ba u.bs
/-- how two rows of values compare -/
def ordL : List T → List T → Int
  | [], [] => 0
  | [], _ :: _ => -1
  | _ :: _, [] => 1
  | a :: ka, b :: kb => if ordT a b ≠ 0 then ordT a b else ordL ka kb
end
theorem ordT_eq (t u : T) : ordT t u = if t.tag ≠ u.tag then ordC t.tag u.tag else if ordC (lenT t : Int) (lenT u : Int) ≠ 0 then ordC (lenT t : Int) (lenT u : Int) else if hk t.tag then ordL t.ks u.ks else cmpB t.bs u.bs := by
  cases t; rw [ordT]; simp only [lenT]; rfl
/-- do values rise? -/
def risesT : List T → Bool
  | [] => true
  | [_] => true
  | a :: b :: r => decide (ordT a b ≤ 0) && risesT (b :: r)
mutual
/-- are a value's bytes and kids such as its tag may have? -/
def suitM : T → Bool
  | .mk tag bs ks => if hk tag then bs.isEmpty && suitL ks && (decide (tag ≠ 49) || risesT ks) else ks.isEmpty && may tag bs
def suitL : List T → Bool
  | [] => true
  | k :: ks => suitM k && suitL ks
end
theorem suitM_eq (t : T) : suitM t = if hk t.tag then t.bs.isEmpty && suitL t.ks && (decide (t.tag ≠ 49) || risesT t.ks) else t.ks.isEmpty && may t.tag t.bs := by
  cases t; rw [suitM]; rfl
/-- is a value right? -/
def rightM (t : T) : Bool := (room t 16 4096).isSome && suitM t
theorem nan_any (x : Int) (w : World) : Calls Try.prog 77 #[.int .i64 x] w fun e w' => e = .returned (.bool false) ∧ w' = w := by
  have k : (x != x) = false := by simp
  go_enter Try.func77, Try.ntmps77
  go_wp2_with fail
  go_ret
  exact ⟨rfl, rfl⟩
theorem cmpC_any (x y : Int) (w : World) : Calls Try.prog 69 #[.int .i64 x, .int .i64 y] w fun e w' => e = .returned (.int .i64 (ordC x y)) ∧ w' = w := by
  rcases Int.lt_trichotomy x y with h | h | h
  · have HF := Lib.hid (show ordC x y = -1 by unfold ordC; rw [if_pos h])
    go_enter Try.func69, Try.ntmps69
    go_wp2_with fail
    refine (nan_any _ _).mono ?_
    rintro e w' ⟨rfl, rfl⟩
    go_wp2_with fail
    refine (nan_any _ _).mono ?_
    rintro e w' ⟨rfl, rfl⟩
    go_wp2_with fail
    go_ret
    exact ⟨by rw [HF.out]; rfl, rfl⟩
  · subst h
    have HF := Lib.hid (show ordC x x = 0 by unfold ordC; rw [if_neg (by omega), if_neg (by omega)])
    have k1 : (x < x) = False := by simp
    go_enter Try.func69, Try.ntmps69
    go_wp2_with fail
    refine (nan_any _ _).mono ?_
    rintro e w' ⟨rfl, rfl⟩
    go_wp2_with fail
    refine (nan_any _ _).mono ?_
    rintro e w' ⟨rfl, rfl⟩
    go_wp2_with fail
    go_ret
    exact ⟨by rw [HF.out]; rfl, rfl⟩
  · have HF := Lib.hid (show ordC x y = 1 by unfold ordC; rw [if_neg (by omega), if_pos h])
    have k1 : (x < y) = False := by simp; omega
    go_enter Try.func69, Try.ntmps69
    go_wp2_with fail
    refine (nan_any _ _).mono ?_
    rintro e w' ⟨rfl, rfl⟩
    go_wp2_with fail
    refine (nan_any _ _).mono ?_
    rintro e w' ⟨rfl, rfl⟩
    go_wp2_with fail
    go_ret
    exact ⟨by rw [HF.out]; rfl, rfl⟩
end Go.Proofs.Ytddpgckbdccldaa
namespace Go.Proofs.Ytddpgckbdccldaa
open Go.RowKit
set_option linter.unusedVariables false
set_option linter.unusedSimpArgs false
set_option maxRecDepth 100000
def OrdC (f : Nat) : Prop := ∀ {f2 : Nat} {h1 h2 : Hd} {t1 t2 : T} {w : World}, Tr w w.heap.size f h1 t1 → Tr w w.heap.size f2 h2 t2 → lenT t1 ≤ 2305843009213693952 → lenT t2 ≤ 2305843009213693952 →
  Calls Try.prog 55 #[h1.val, h2.val] w fun e w' => e = .returned (.int .i64 (ordT t1 t2)) ∧ Below w.heap.size w w'
theorem enter55 (args : Array Value) (w : World) : (callFunc 55 args).run Try.prog w = .ok (.enter 55 args) w := enter_of Try.func55 (by kernel_rfl) (by kernel_rfl) args w
theorem ordL_nil_r (ks : List T) : ordL [] ks = if ks = [] then 0 else -1 := by cases ks <;> rfl
theorem ordL_cons_nil (a : T) (ks : List T) : ordL (a :: ks) [] = 1 := rfl
theorem ordL_cons (a b : T) (ks ls : List T) : ordL (a :: ks) (b :: ls) = if ordT a b ≠ 0 then ordT a b else ordL ks ls := rfl
set_option maxHeartbeats 8000000 in
theorem cfun_any {f : Nat} (HO : OrdC f) {f2 : Nat} {K1 K2 : Option Addr} {m1 d1 m2 d2 : Nat} {ks1 ks2 : List T} {w : World} (H1 : Ks w w.heap.size f K1 m1 d1 ks1) (H2 : Ks w w.heap.size f2 K2 m2 d2 ks2) (l1 : lenL ks1 ≤ 2305843009213693952) (l2 : lenL ks2 ≤ 2305843009213693952) :
    Calls Try.prog 70 #[.slice K1 m1 d1, .slice K2 m2 d2, .func (.func 55) #[] #[]] w fun e w' => e = .returned (.int .i64 (ordL ks1 ks2)) ∧ Below w.heap.size w w' := by
  have hr := enter55
  have HK1 := Lib.hid H1
  have HK2 := Lib.hid H2
  have HM1 := Lib.hid H1.len
  have HM2 := Lib.hid H2.len
  have hm1 := H1.lim
  have hm2 := H2.lim
  have HO' : Hid (OrdC f) := @HO
  have HL := Lib.hid (And.intro l1 l2)
  clear H1 H2 l1 l2 HO
  go_enter Try.func70, Try.ntmps70
  go_wp2_with fail
  go_loopw [13] (fun i wr => ∃ j : Nat, j ≤ m1 ∧ j ≤ m2 ∧ i = .int .i64 (j : Int) ∧ Hid (ordL (ks1.drop j) (ks2.drop j) = ordL ks1 ks2) ∧ Hid (Below w.heap.size w wr)) (fun i _ => m1 - (intOf i).toNat)
  case atStart => exact ⟨0, Nat.zero_le _, Nat.zero_le _, rfl, Lib.hid rfl, Lib.hid (Below.refl _ _)⟩
  case round =>
    obtain ⟨j, hj1, hj2, rfl, hR, hBr⟩ := hrel
    by_cases hlt : j < m1
    · have e1 : (j : Int) < (m1 : Int) := by omega
      obtain ⟨k, hk⟩ : ∃ k, ks1[j]? = some k := ⟨_, List.getElem?_eq_getElem (by rw [HM1.out]; exact hlt)⟩
      obtain ⟨-, g, off, rfl, hg, h', q0, q1, q2, q3⟩ := (HK1.out.below hBr.out).at_ hk
      have b2 : Below wr.heap.size wr (wr.alloc (.cells h'.cells 25)) := (Below.refl _ _).alloc (Nat.le_refl _) _
      have hd1 := drop_next hk
      obtain ⟨w2, hw2⟩ : ∃ w2, w2 = wr.alloc (.cells h'.cells 25) := ⟨_, rfl⟩
      rw [← hw2] at b2
      have hx2 : Bx w2 wr.heap.size 25 (.int .i64 h'.t) (.slice h'.A h'.n h'.c) (.slice h'.K h'.m h'.d) := by rw [hw2]; exact Bx.new wr 25 _ _ _
      have HT2 := Lib.hid ((q3.more hBr.out.size).up b2)
      have HB2 := Lib.hid (bthen hBr.out b2)
      by_cases hlt2 : j < m2
      · have e2 : ((m2 : Int) ≤ (j : Int)) = False := by simp; omega
        have e3 : (j : Int) < (m2 : Int) := by omega
        obtain ⟨k', hk'⟩ : ∃ k', ks2[j]? = some k' := ⟨_, List.getElem?_eq_getElem (by rw [HM2.out]; exact hlt2)⟩
        obtain ⟨-, g', off', rfl, hg', h'', p0, p1, p2, p3⟩ := (HK2.out.below HB2.out).at_ hk'
        have hd2 := drop_next hk'
        have b3 : Below w2.heap.size w2 (w2.alloc (.cells h''.cells 25)) := (Below.refl _ _).alloc (Nat.le_refl _) _
        obtain ⟨w3, hw3⟩ : ∃ w3, w3 = w2.alloc (.cells h''.cells 25) := ⟨_, rfl⟩
        rw [← hw3] at b3
        have hx3 : Bx w3 w2.heap.size 25 (.int .i64 h''.t) (.slice h''.A h''.n h''.c) (.slice h''.K h''.m h''.d) := by rw [hw3]; exact Bx.new w2 25 _ _ _
        have HB3 := Lib.hid (bthen HB2.out b3)
        have HC := Lib.hid (HO'.out (HT2.out.up b3) ((p3.more HB2.out.size).up b3) (by have h1 := siz_le_len hk; have h2 := lenT_le_siz k; have := HL.out.1; omega) (by have h1 := siz_le_len hk'; have h2 := lenT_le_siz k'; have := HL.out.2; omega))
        obtain ⟨x0, x1, x2, -, -, -⟩ := (hx2.keep b3 hx2.lt).cells
        obtain ⟨y0, y1, y2, -, -, -⟩ := hx3.cells
        have HR2 := Lib.hid (show (if ordT k k' ≠ 0 then ordT k k' else ordL (ks1.drop (j + 1)) (ks2.drop (j + 1))) = ordL ks1 ks2 by rw [← hR.out, hd1, hd2]; rfl)
        clear b2 b3 q3 p3 hx2 hx3 hk hk' hd1 hd2
        obtain ⟨z, hz⟩ : ∃ z, Hid (ordT k k' = z) := ⟨_, Lib.hid rfl⟩
        rw [hz.out] at HR2 HC
        obtain ⟨a1, a2, a3, a4, a5, a6, a7⟩ := h'
        obtain ⟨c1, c2, c3, c4, c5, c6, c7⟩ := h''
        unfold Hd.cells Hd.val at *
        dsimp only at *
        go_upto_region 4 with (fail)
        rw [← hw2]
        clear hw2 q0 q1 q2
        go_upto_region 7 with (fail)
        rw [← hw3]
        clear hw3 p0 p1 p2
        go_wp2_with fail
        refine (HC.out).mono ?_
        rintro e w4 ⟨rfl, b4⟩
        have HB4 := Lib.hid (bthen HB3.out b4)
        have HJ := Lib.hid hlt
        have HJ2 := Lib.hid hlt2
        clear b4 hlt hlt2
        by_cases hz0 : z = 0
        · have HR3 := Lib.hid (show ordL (ks1.drop (j + 1)) (ks2.drop (j + 1)) = ordL ks1 ks2 by rw [← HR2.out, if_neg (by simp [hz0])])
          subst hz0
          go_wp2_with fail
          exact ⟨⟨j + 1, HJ.out, HJ2.out, by go_num, HR3, HB4⟩, by show m1 - ((j : Int) + 1).toNat < m1 - (j : Int).toNat; have := HJ.out; omega⟩
        · have kz : (z != 0) = true := by simpa using hz0
          have kz' : (z = 0) = False := by simpa using hz0
          have HR3 := Lib.hid (show ordL ks1 ks2 = z by rw [← HR2.out, if_pos hz0])
          clear hz0
          go_wp2_with fail
          go_ret
          exact ⟨by rw [HR3.out]; rfl, HB4.out⟩
      · have e2 : (m2 : Int) ≤ (j : Int) := by omega
        have HF := Lib.hid (show ordL ks1 ks2 = 1 by
          have hd2 : ks2.drop j = [] := List.drop_of_length_le (by rw [HM2.out]; omega)
          rw [← hR.out, hd1, hd2]; rfl)
        clear b2 q3 hx2 hk hd1 hlt2
        obtain ⟨a1, a2, a3, a4, a5, a6, a7⟩ := h'
        unfold Hd.cells at *
        dsimp only at *
        go_upto_region 4 with (fail)
        rw [← hw2]
        clear hw2 q0 q1 q2
        go_wp2_with fail
        go_ret
        exact ⟨by rw [HF.out]; rfl, HB2.out⟩
    · obtain rfl : j = m1 := by omega
      have e1' : ((j : Int) < (j : Int)) = False := by simp
      have hd1 : ks1.drop j = [] := List.drop_of_length_le (by rw [HM1.out]; exact Nat.le_refl _)
      by_cases hm : j < m2
      · have e2 : (j : Int) < (m2 : Int) := by omega
        have HF := Lib.hid (show ordL ks1 ks2 = -1 by
          rw [← hR.out, hd1, ordL_nil_r, if_neg]
          intro e
          have := congrArg List.length e
          rw [List.length_drop, HM2.out] at this
          simp at this
          omega)
        clear hlt hm hd1
        go_wp2_with fail
        go_ret
        exact ⟨by rw [HF.out]; rfl, hBr.out⟩
      · have e2 : ((j : Int) < (m2 : Int)) = False := by simp; omega
        have HF := Lib.hid (show ordL ks1 ks2 = 0 by
          rw [← hR.out, hd1, ordL_nil_r, if_pos (List.drop_of_length_le (by rw [HM2.out]; omega))])
        clear hlt hm hd1
        go_wp2_with fail
        go_ret
        exact ⟨by rw [HF.out]; rfl, hBr.out⟩
set_option maxHeartbeats 8000000 in
theorem order_all : ∀ f, OrdC f
  | 0, _, _, _, _, _, _, H, _, _, _ => H.elim
  | f + 1, f2, h1, h2, t1, t2, w, H1, H2, L1, L2 => by
    have IH : Hid (OrdC f) := Lib.hid (order_all f)
    match f2, H2 with
    | f2 + 1, H2 =>
    obtain ⟨et1, -, N1, -, K1⟩ := H1.parts
    obtain ⟨et2, -, N2, -, K2⟩ := H2.parts
    obtain ⟨w1, hw1⟩ : ∃ w1, w1 = (w.alloc (.cells h1.cells 25)).alloc (.cells h2.cells 25) := ⟨_, rfl⟩
    have hb1 : Below w.heap.size w w1 := by rw [hw1]; exact ((Below.refl _ _).alloc (Nat.le_refl _) _).alloc (by simp) _
    have hx1 : Bx w1 w.heap.size 25 (.int .i64 h1.t) (.slice h1.A h1.n h1.c) (.slice h1.K h1.m h1.d) := by
      rw [hw1]; exact (Bx.new w 25 _ _ _).keep (B := w.heap.size + 1) ((Below.refl _ _).alloc (by simp) _) (by omega)
    have hy1 : Bx w1 (w.heap.size + 1) 25 (.int .i64 h2.t) (.slice h2.A h2.n h2.c) (.slice h2.K h2.m h2.d) := by
      rw [hw1]
      have := Bx.new (w.alloc (.cells h1.cells 25)) 25 (.int .i64 h2.t) (.slice h2.A h2.n h2.c) (.slice h2.K h2.m h2.d)
      rw [show (w.alloc (.cells h1.cells 25)).heap.size = w.heap.size + 1 by simp] at this
      exact this
    have HX := Lib.hid hx1
    have HY := Lib.hid hy1
    have HB := Lib.hid hb1
    have HE := Lib.hid (ordT_eq t1 t2)
    have HK1 := Lib.hid K1
    have HK2 := Lib.hid K2
    have HN1 := Lib.hid N1
    have HN2 := Lib.hid N2
    have HLen1 := Lib.hid (fun (W : World) (b : Below w.heap.size w W) => len_all (f + 1) (H1.up b) L1)
    have HLen2 := Lib.hid (fun (W : World) (b : Below w.heap.size w W) => len_all (f2 + 1) (H2.up b) L2)
    have HLL := Lib.hid (show lenL t1.ks ≤ 2305843009213693952 ∧ lenL t2.ks ≤ 2305843009213693952 by have a1 := lenT_eq t1; have a2 := lenT_eq t2; omega)
    rw [← et1, ← et2] at HE
    clear hb1 H1 H2 K1 K2 N1 N2 et1 et2
    obtain ⟨c0, c1, c2, -, -, -⟩ := hx1.cells
    obtain ⟨d0, d1, d2, -, -, -⟩ := hy1.cells
    clear hx1 hy1
    obtain ⟨u1, A1, n1, cc1, KK1, m1, dd1⟩ := h1
    obtain ⟨u2, A2, n2, cc2, KK2, m2, dd2⟩ := h2
    unfold Hd.cells Hd.val at *
    dsimp only at *
    by_cases htag : u1 = u2
    · subst htag
      have HE2 := Lib.hid (show ordT t1 t2 = if ordC (lenT t1 : Int) (lenT t2 : Int) ≠ 0 then ordC (lenT t1 : Int) (lenT t2 : Int) else if hk u1 then ordL t1.ks t2.ks else cmpB t1.bs t2.bs by rw [HE.out, if_neg (by simp)])
      have kt : (u1 != u1) = false := by simp
      have HS : Hid (∀ W, Below w1.heap.size w1 W → W.cell? ⟨w.heap.size, 0, none⟩ = some (.int .i64 u1) ∧ W.cell? ⟨w.heap.size, 1, none⟩ = some (.slice A1 n1 cc1) ∧ W.cell? ⟨w.heap.size, 2, none⟩ = some (.slice KK1 m1 dd1) ∧ W.cell? ⟨w.heap.size + 1, 0, none⟩ = some (.int .i64 u1) ∧ W.cell? ⟨w.heap.size + 1, 1, none⟩ = some (.slice A2 n2 cc2) ∧ W.cell? ⟨w.heap.size + 1, 2, none⟩ = some (.slice KK2 m2 dd2)) := by
        intro W b
        obtain ⟨x0, x1, x2, -, -, -⟩ := (HX.out.keep b HX.out.lt).cells
        obtain ⟨y0, y1, y2, -, -, -⟩ := (HY.out.keep b HY.out.lt).cells
        exact ⟨x0, x1, x2, y0, y1, y2⟩
      obtain ⟨z1, hz1⟩ : ∃ z, Hid ((lenT t1 : Int) = z) := ⟨_, Lib.hid rfl⟩
      obtain ⟨z2, hz2⟩ : ∃ z, Hid ((lenT t2 : Int) = z) := ⟨_, Lib.hid rfl⟩
      rw [hz1.out, hz2.out] at HE2
      rw [hz1.out] at HLen1
      rw [hz2.out] at HLen2
      have HLd := Lib.hid (HLen1.out w1.drew HB.out.drew)
      go_enter Try.func55, Try.ntmps55
      go_upto_region 1 with (fail)
      rw [← hw1]
      clear hw1
      go_wp2_with fail
      go_region_held3 (fun w' => w'.cell? ⟨w.heap.size, 0, none⟩ = some (.int .i64 u1) ∧ w'.cell? ⟨w.heap.size, 1, none⟩ = some (.slice A1 n1 cc1) ∧ w'.cell? ⟨w.heap.size, 2, none⟩ = some (.slice KK1 m1 dd1) ∧ w'.cell? ⟨w.heap.size + 1, 0, none⟩ = some (.int .i64 u1) ∧ w'.cell? ⟨w.heap.size + 1, 1, none⟩ = some (.slice A2 n2 cc2) ∧ w'.cell? ⟨w.heap.size + 1, 2, none⟩ = some (.slice KK2 m2 dd2))
        (first | exact ⟨c0, c1, c2, d0, d1, d2⟩ | exact HS.out _ HB3.out | exact HS.out _ HB2.out)
        (first
          | (go_at_call 48; (with_reducible refine HLd.out.mono ?_)
             rintro e w2 ⟨rfl, b2⟩
             have HB2 : Hid (Below w1.heap.size w1 w2) := bthen (w1 := w1.drew) ((Below.refl _ _).drew) b2
             have HLd2 := Lib.hid (HLen2.out w2 (HB.out.trans (HB2.out.mono HB.out.size)))
             clear b2)
          | (go_at_call 48; (with_reducible refine HLd2.out.mono ?_)
             rintro e w3 ⟨rfl, b3⟩
             have HB3 : Hid (Below w1.heap.size w1 w3) := bthen HB2.out b3
             clear b3)
          | (go_at_call 69; (with_reducible refine (cmpC_any _ _ _).mono ?_)
             rintro e w4 ⟨rfl, hw4⟩
             subst hw4))
      have HBw := Lib.hid (HB.out.trans (HB3.out.mono HB.out.size))
      obtain ⟨x0, x1, x2, y0, y1, y2⟩ := HS.out _ HB3.out
      clear c0 c1 c2 d0 d1 d2
      obtain ⟨z, hz⟩ : ∃ z, Hid (ordC z1 z2 = z) := ⟨_, Lib.hid rfl⟩
      rw [hz.out] at HE2 ⊢
      by_cases hz0 : z = 0
      · have HE3 := Lib.hid (show ordT t1 t2 = if hk u1 then ordL t1.ks t2.ks else cmpB t1.bs t2.bs by rw [HE2.out, if_neg (by simp [hz0])])
        subst hz0
        rcases hkx : hk u1 with _ | _
        · have HE4 := Lib.hid (show ordT t1 t2 = cmpB t1.bs t2.bs by rw [HE3.out, hkx]; rfl)
          have HH := Lib.hid (fun w => hasKids_any u1 w)
          rw [hkx] at HH
          have HC := Lib.hid (compare_any (HN1.out.up HBw.out) (HN2.out.up HBw.out))
          clear hkx
          go_wp2_with fail
          refine (HH.out _).mono ?_
          rintro e w5 ⟨rfl, hw5⟩
          subst hw5
          go_wp2_with fail
          refine (HC.out).mono ?_
          rintro e w6 ⟨rfl, hw6⟩
          subst hw6
          go_wp2_with fail
          go_ret
          exact ⟨by rw [HE4.out]; rfl, HBw.out⟩
        · have HE4 := Lib.hid (show ordT t1 t2 = ordL t1.ks t2.ks by rw [HE3.out, hkx]; rfl)
          have HH := Lib.hid (fun w => hasKids_any u1 w)
          rw [hkx] at HH
          have HC := Lib.hid (cfun_any IH.out (HK1.out.up HBw.out) (HK2.out.up HBw.out) HLL.out.1 HLL.out.2)
          clear hkx
          go_wp2_with fail
          refine (HH.out _).mono ?_
          rintro e w5 ⟨rfl, hw5⟩
          subst hw5
          go_wp2_with fail
          refine (HC.out).mono ?_
          rintro e w6 ⟨rfl, b6⟩
          go_wp2_with fail
          go_ret
          exact ⟨by rw [HE4.out]; rfl, bthen HBw.out b6⟩
      · have kz : (z != 0) = true := by simpa using hz0
        have kz' : (z = 0) = False := by simpa using hz0
        have HE3 := Lib.hid (show ordT t1 t2 = z by rw [HE2.out, if_pos hz0])
        clear hz0
        go_wp2_with fail
        go_ret
        exact ⟨by rw [HE3.out]; rfl, HBw.out⟩
    · have HE2 := Lib.hid (show ordT t1 t2 = ordC u1 u2 by rw [HE.out, if_pos htag])
      have kt : (u1 != u2) = true := by simpa using htag
      have kt' : (u1 = u2) = False := by simpa using htag
      clear htag
      go_enter Try.func55, Try.ntmps55
      go_upto_region 1 with (fail)
      rw [← hw1]
      clear hw1
      go_wp2_with fail
      refine (cmpC_any _ _ _).mono ?_
      rintro e w5 ⟨rfl, hw5⟩
      subst hw5
      go_wp2_with fail
      go_ret
      exact ⟨by rw [HE2.out]; rfl, HB.out⟩
end Go.Proofs.Ytddpgckbdccldaa
namespace Go.Proofs.Ytddpgckbdccldaa
open Go.RowKit
set_option linter.unusedVariables false
set_option linter.unusedSimpArgs false
set_option maxRecDepth 100000
set_option maxHeartbeats 2000000 in
theorem less_any {f f2 : Nat} {h1 h2 : Hd} {t1 t2 : T} {w : World} (H1 : Tr w w.heap.size f h1 t1) (H2 : Tr w w.heap.size f2 h2 t2) (L1 : lenT t1 ≤ 2305843009213693952) (L2 : lenT t2 ≤ 2305843009213693952) :
    Calls Try.prog 54 #[h1.val, h2.val] w fun e w' => e = .returned (.bool (decide (ordT t1 t2 ≤ 0))) ∧ Below w.heap.size w w' := by
  obtain ⟨w1, hw1⟩ : ∃ w1, w1 = (w.alloc (.cells h1.cells 25)).alloc (.cells h2.cells 25) := ⟨_, rfl⟩
  have hb1 : Below w.heap.size w w1 := by rw [hw1]; exact ((Below.refl _ _).alloc (Nat.le_refl _) _).alloc (by simp) _
  have hx1 : Bx w1 w.heap.size 25 (.int .i64 h1.t) (.slice h1.A h1.n h1.c) (.slice h1.K h1.m h1.d) := by
    rw [hw1]; exact (Bx.new w 25 _ _ _).keep (B := w.heap.size + 1) ((Below.refl _ _).alloc (by simp) _) (by omega)
  have hy1 : Bx w1 (w.heap.size + 1) 25 (.int .i64 h2.t) (.slice h2.A h2.n h2.c) (.slice h2.K h2.m h2.d) := by
    rw [hw1]
    have := Bx.new (w.alloc (.cells h1.cells 25)) 25 (.int .i64 h2.t) (.slice h2.A h2.n h2.c) (.slice h2.K h2.m h2.d)
    rw [show (w.alloc (.cells h1.cells 25)).heap.size = w.heap.size + 1 by simp] at this
    exact this
  have HC := Lib.hid (order_all f (H1.up hb1) (H2.up hb1) L1 L2)
  have HB := Lib.hid hb1
  obtain ⟨c0, c1, c2, -, -, -⟩ := hx1.cells
  obtain ⟨d0, d1, d2, -, -, -⟩ := hy1.cells
  clear hb1 hx1 hy1 H1 H2
  obtain ⟨u1, A1, n1, cc1, KK1, m1, dd1⟩ := h1
  obtain ⟨u2, A2, n2, cc2, KK2, m2, dd2⟩ := h2
  unfold Hd.cells Hd.val at *
  dsimp only at *
  generalize ordT t1 t2 = z at *
  go_enter Try.func54, Try.ntmps54
  go_upto_region 1 with (fail)
  rw [← hw1]
  clear hw1
  go_wp2_with fail
  refine (HC.out).mono ?_
  rintro e w2 ⟨rfl, b2⟩
  go_wp2_with fail
  go_ret
  exact ⟨rfl, bthen HB.out b2⟩
theorem enter54 (args : Array Value) (w : World) : (callFunc 54 args).run Try.prog w = .ok (.enter 54 args) w := enter_of Try.func54 (by kernel_rfl) (by kernel_rfl) args w
theorem risesT_next {ks : List T} {j : Nat} {p q : T} (hp : ks[j]? = some p) (hq : ks[j + 1]? = some q) : risesT (ks.drop j) = (decide (ordT p q ≤ 0) && risesT (ks.drop (j + 1))) := by
  rw [drop_next hp, drop_next hq]
  rfl
theorem risesT_end {ks : List T} {j : Nat} (h : ks.length ≤ j + 1) : risesT (ks.drop j) = true := by
  have : (ks.drop j).length ≤ 1 := by rw [List.length_drop]; omega
  match hd : ks.drop j, this with
  | [], _ => rfl
  | [_], _ => rfl
  | _ :: _ :: _, h => simp at h
set_option maxHeartbeats 8000000 in
theorem neighT_any {f : Nat} {K : Option Addr} {m d : Nat} {ks : List T} {w : World} (H : Ks w w.heap.size f K m d ks) (hl : lenL ks ≤ 2305843009213693952) :
    Calls Try.prog 53 #[.slice K m d, .func (.func 54) #[] #[]] w fun e w' => e = .returned (.bool (risesT ks)) ∧ Below w.heap.size w w' := by
  have hr := enter54
  have HK := Lib.hid H
  have HM := Lib.hid H.len
  have hm := H.lim
  have HL := Lib.hid hl
  clear H hl
  go_enter Try.func53, Try.ntmps53
  go_wp2_with fail
  go_loopw [5] (fun i wr => ∃ j : Nat, 1 ≤ j ∧ j ≤ 281474976710657 ∧ i = .int .i64 (j : Int) ∧ Hid (risesT (ks.drop (j - 1)) = risesT ks) ∧ Hid (Below w.heap.size w wr)) (fun i _ => m + 1 - (intOf i).toNat)
  case atStart => exact ⟨1, Nat.le_refl _, by omega, rfl, Lib.hid rfl, Lib.hid (Below.refl _ _)⟩
  case round =>
    obtain ⟨j, hj1, hj6, rfl, hR, hBr⟩ := hrel
    by_cases hlt : j < m
    · obtain ⟨i, hi⟩ : ∃ i, j = i + 1 := ⟨j - 1, by omega⟩
      obtain ⟨p, hp⟩ : ∃ p, ks[i]? = some p := ⟨_, List.getElem?_eq_getElem (by rw [HM.out]; omega)⟩
      obtain ⟨q, hq⟩ : ∃ q, ks[i + 1]? = some q := ⟨_, List.getElem?_eq_getElem (by rw [HM.out]; omega)⟩
      have hnx := risesT_next hp hq
      rw [show i = j - 1 by omega, hR.out, show j - 1 + 1 = j + 1 - 1 by omega] at hnx
      obtain ⟨-, g, off, rfl, hg, h', p0, p1, p2, p3⟩ := (HK.out.below hBr.out).at_ hp
      obtain ⟨-, g', off', eg, hg', h'', q0, q1, q2, q3⟩ := (HK.out.below hBr.out).at_ hq
      cases eg
      have bd : Below wr.heap.size wr wr.drew := (Below.refl _ _).drew
      have HC := Lib.hid (less_any ((p3.more hBr.out.size).up bd) ((q3.more hBr.out.size).up bd) (by have h1 := siz_le_len hp; have h2 := lenT_le_siz p; have := HL.out; omega) (by have h1 := siz_le_len hq; have h2 := lenT_le_siz q; have := HL.out; omega))
      have HX := Lib.hid hnx
      have HI := Lib.hid hi
      have HG := Lib.hid hg
      rw [← hi] at q0 q1 q2
      have ei : (j : Int) - 1 = (i : Int) := by omega
      have ew : IntKind.i64.wrap ((j : Int) - 1) = (i : Int) := by rw [IntKind.wrap_i64]; omega
      have ew2 : IntKind.i64.wrap (i : Int) = (i : Int) := by rw [IntKind.wrap_i64]; omega
      have e1 : (j : Int) < (m : Int) := by omega
      have him : i < m := by omega
      have him2 : (i : Int) < (m : Int) := by omega
      have hi0 : (0 : Int) ≤ (i : Int) := by omega
      have hj0 : (0 : Int) ≤ (j : Int) := by omega
      clear hnx hp hq hi p3 q3 bd hg'
      obtain ⟨z, hz⟩ : ∃ z, Hid (decide (ordT p q ≤ 0) = z) := ⟨_, Lib.hid rfl⟩
      rw [hz.out] at HX HC
      obtain ⟨a1, a2, a3, a4, a5, a6, a7⟩ := h'
      obtain ⟨c1, c2, c3, c4, c5, c6, c7⟩ := h''
      unfold Hd.val at *
      dsimp only at *
      go_wp2_with fail
      go_region_held3 (fun w' => w'.cell? ⟨g, off + i * 3, none⟩ = some (.int .i64 a1) ∧ w'.cell? ⟨g, off + i * 3 + 1, none⟩ = some (.slice a2 a3 a4) ∧ w'.cell? ⟨g, off + i * 3 + 2, none⟩ = some (.slice a5 a6 a7) ∧ w'.cell? ⟨g, off + j * 3, none⟩ = some (.int .i64 c1) ∧ w'.cell? ⟨g, off + j * 3 + 1, none⟩ = some (.slice c2 c3 c4) ∧ w'.cell? ⟨g, off + j * 3 + 2, none⟩ = some (.slice c5 c6 c7))
        (first | exact ⟨p0, p1, p2, q0, q1, q2⟩ | exact HS2.out)
        (first
          | (go_at_call 54; (with_reducible refine HC.out.mono ?_)
             rintro r w2 ⟨rfl, b2⟩
             have HB2 : Hid (Below wr.heap.size wr w2) := bthen (w1 := wr.drew) ((Below.refl _ _).drew) b2
             have HS2 : Hid (w2.cell? ⟨g, off + i * 3, none⟩ = some (.int .i64 a1) ∧ w2.cell? ⟨g, off + i * 3 + 1, none⟩ = some (.slice a2 a3 a4) ∧ w2.cell? ⟨g, off + i * 3 + 2, none⟩ = some (.slice a5 a6 a7) ∧ w2.cell? ⟨g, off + j * 3, none⟩ = some (.int .i64 c1) ∧ w2.cell? ⟨g, off + j * 3 + 1, none⟩ = some (.slice c2 c3 c4) ∧ w2.cell? ⟨g, off + j * 3 + 2, none⟩ = some (.slice c5 c6 c7)) :=
               ⟨(HB2.out.cell (p := ⟨g, _, none⟩) (Nat.lt_of_lt_of_le HG.out hBr.out.size)).trans p0, (HB2.out.cell (p := ⟨g, _, none⟩) (Nat.lt_of_lt_of_le HG.out hBr.out.size)).trans p1, (HB2.out.cell (p := ⟨g, _, none⟩) (Nat.lt_of_lt_of_le HG.out hBr.out.size)).trans p2, (HB2.out.cell (p := ⟨g, _, none⟩) (Nat.lt_of_lt_of_le HG.out hBr.out.size)).trans q0, (HB2.out.cell (p := ⟨g, _, none⟩) (Nat.lt_of_lt_of_le HG.out hBr.out.size)).trans q1, (HB2.out.cell (p := ⟨g, _, none⟩) (Nat.lt_of_lt_of_le HG.out hBr.out.size)).trans q2⟩
             clear b2))
      have HB2' := Lib.hid (bthen hBr.out HB2.out)
      rcases z with _ | _
      · have HF := Lib.hid (show risesT ks = false by rw [HX.out]; rfl)
        go_wp2_with fail
        go_ret
        exact ⟨by rw [HF.out]; rfl, HB2'.out⟩
      · rw [Bool.true_and] at HX
        have HJ := Lib.hid hlt
        have HX2 := Lib.hid HX.out.symm
        clear hlt
        go_wp2_with fail
        exact ⟨⟨j + 1, by omega, by have := HJ.out; omega, by go_num, HX2, HB2'⟩, by show m + 1 - ((j : Int) + 1).toNat < m + 1 - (j : Int).toNat; have := HJ.out; omega⟩
    · have e1' : ((j : Int) < (m : Int)) = False := by simp only [eq_iff_iff, iff_false]; omega
      have HF := Lib.hid (show risesT ks = true by rw [← hR.out]; exact risesT_end (by rw [HM.out]; omega))
      clear hlt
      go_wp2_with fail
      go_ret
      exact ⟨by rw [HF.out]; rfl, hBr.out⟩
end Go.Proofs.Ytddpgckbdccldaa
namespace Go.Proofs.Ytddpgckbdccldaa
open Go.RowKit
set_option linter.unusedVariables false
set_option linter.unusedSimpArgs false
set_option maxRecDepth 100000
def SuitC (f : Nat) : Prop := ∀ {h : Hd} {t : T} {w : World}, Tr w w.heap.size f h t → lenT t ≤ 2305843009213693952 → Calls Try.prog 37 #[h.val] w fun e w' => e = .returned (.bool (suitM t)) ∧ Below w.heap.size w w'
theorem suitL_drop {ks : List T} {j : Nat} {k : T} (h : ks[j]? = some k) : suitL (ks.drop j) = (suitM k && suitL (ks.drop (j + 1))) := by rw [drop_next h]; rfl
set_option maxHeartbeats 8000000 in
theorem suits_all : ∀ f, SuitC f
  | 0, _, _, _, H, _ => H.elim
  | f + 1, h, t, w, H, hL => by
    have IH : Hid (SuitC f) := Lib.hid (suits_all f)
    have hb : Below w.heap.size w (w.alloc (.cells h.cells 25)) := (Below.refl _ _).alloc (Nat.le_refl _) _
    obtain ⟨et, -, N, hn1, K⟩ := H.parts
    obtain ⟨w1, hw1⟩ : ∃ w1, w1 = w.alloc (.cells h.cells 25) := ⟨_, rfl⟩
    have hx1 : Bx w1 w.heap.size 25 (.int .i64 h.t) (.slice h.A h.n h.c) (.slice h.K h.m h.d) := by rw [hw1]; exact Bx.new w 25 _ _ _
    rw [← hw1] at hb
    have HX := Lib.hid hx1
    have HK := Lib.hid K
    have HB := Lib.hid hb
    have HM := Lib.hid K.len
    have HML := K.lim
    have HNl := Lib.hid N.len
    have HN := Lib.hid (N.up hb)
    have HE := Lib.hid (suitM_eq t)
    rw [← et] at HE
    have HLL := Lib.hid (show lenL t.ks ≤ 2305843009213693952 by have a1 := lenT_eq t; omega)
    clear K H hb N hL et
    obtain ⟨c0, c1, c2, -, -, -⟩ := hx1.cells
    clear hx1
    obtain ⟨ht, hA, hn, hc, hK, hm, hd⟩ := h
    unfold Hd.val Hd.cells at *
    dsimp only at *
    have HH := Lib.hid (fun w => hasKids_any ht w)
    rcases hkx : hk ht with _ | _
    · rw [hkx] at HH
      have HE2 := Lib.hid (show suitM t = (t.ks.isEmpty && may ht t.bs) by rw [HE.out, hkx]; rfl)
      have HMay := Lib.hid (may_any ht HN.out hn1)
      clear hkx
      by_cases h0 : hm = 0
      · subst h0
        have HE3 := Lib.hid (show suitM t = may ht t.bs by rw [HE2.out, List.eq_nil_of_length_eq_zero HM.out]; rfl)
        go_enter Try.func37, Try.ntmps37
        go_upto_region 1 with (fail)
        rw [← hw1]
        clear hw1
        go_wp2_with fail
        refine (HH.out _).mono ?_
        rintro e w' ⟨rfl, hw'⟩
        subst hw'
        go_wp2_with fail
        refine (HMay.out).mono ?_
        rintro e w' ⟨rfl, hw'⟩
        subst hw'
        go_wp2_with fail
        go_ret
        exact ⟨by rw [HE3.out]; rfl, HB.out⟩
      · have k0 : ((hm : Int) == 0) = false := by simp; omega
        have k0' : ((hm : Int) = 0) = False := by simp; omega
        have HE3 := Lib.hid (show suitM t = false by
          rw [HE2.out, Bool.and_eq_false_iff]
          left
          have := HM.out
          cases hks : t.ks with
          | nil => rw [hks] at this; simp at this; omega
          | cons a b => rfl)
        clear h0
        go_enter Try.func37, Try.ntmps37
        go_upto_region 1 with (fail)
        rw [← hw1]
        clear hw1
        go_wp2_with fail
        refine (HH.out _).mono ?_
        rintro e w' ⟨rfl, hw'⟩
        subst hw'
        go_wp2_with fail
        go_ret
        exact ⟨by rw [HE3.out]; rfl, HB.out⟩
    · rw [hkx] at HH
      have HE2 := Lib.hid (show suitM t = (t.bs.isEmpty && suitL t.ks && (decide (ht ≠ 49) || risesT t.ks)) by rw [HE.out, hkx]; rfl)
      clear hkx
      by_cases hb0 : 0 < hn
      · have k0 : (0 : Int) < (hn : Int) := by omega
        have HE3 := Lib.hid (show suitM t = false by
          have h1 : t.bs.isEmpty = false := by
            have := HNl.out
            cases hks : t.bs with
            | nil => rw [hks] at this; simp at this; omega
            | cons a b => rfl
          rw [HE2.out, h1]; rfl)
        clear hb0
        go_enter Try.func37, Try.ntmps37
        go_upto_region 1 with (fail)
        rw [← hw1]
        clear hw1
        go_wp2_with fail
        refine (HH.out _).mono ?_
        rintro e w' ⟨rfl, hw'⟩
        subst hw'
        go_wp2_with fail
        go_ret
        exact ⟨by rw [HE3.out]; rfl, HB.out⟩
      obtain rfl : hn = 0 := by omega
      have HE3 := Lib.hid (show suitM t = (suitL t.ks && (decide (ht ≠ 49) || risesT t.ks)) by
        rw [HE2.out, List.eq_nil_of_length_eq_zero HNl.out]; rfl)
      clear hb0
      go_enter Try.func37, Try.ntmps37
      go_upto_region 1 with (fail)
      rw [← hw1]
      clear hw1
      go_wp2_with fail
      refine (HH.out _).mono ?_
      rintro e w' ⟨rfl, hw'⟩
      subst hw'
      go_wp2_with fail
      go_loopw [27] (fun i wr => ∃ j : Nat, j ≤ hm ∧ i = .int .i64 (j : Int) ∧ Hid (suitL t.ks = suitL (t.ks.drop j)) ∧ Hid (Below w'.heap.size w' wr)) (fun i _ => hm - (intOf i).toNat)
      case atStart => exact ⟨0, Nat.zero_le _, rfl, Lib.hid rfl, Lib.hid (Below.refl _ _)⟩
      case round =>
        obtain ⟨j, hj, rfl, hR, hBr⟩ := hrel
        have HBw := Lib.hid (HB.out.trans (hBr.out.mono HB.out.size))
        by_cases hlt : j < hm
        · have e1 : (j : Int) < (hm : Int) := by omega
          obtain ⟨k, hk⟩ : ∃ k, t.ks[j]? = some k := ⟨_, List.getElem?_eq_getElem (by rw [HM.out]; exact hlt)⟩
          obtain ⟨-, g, off, rfl, hg, h', q0, q1, q2, q3⟩ := (HK.out.below HBw.out).at_ hk
          have b2 : Below wr.heap.size wr (wr.alloc (.cells h'.cells 25)) := (Below.refl _ _).alloc (Nat.le_refl _) _
          have HC := Lib.hid (IH.out ((q3.more HBw.out.size).up b2) (by have h1 := siz_le_len hk; have h2 := lenT_le_siz k; have := HLL.out; omega))
          have HB2 := Lib.hid (bthen hBr.out b2)
          have HR2 := Lib.hid (show suitL t.ks = (suitM k && suitL (t.ks.drop (j + 1))) by rw [hR.out]; exact suitL_drop hk)
          clear b2 q3 hk
          obtain ⟨z, hz⟩ : ∃ z, Hid (suitM k = z) := ⟨_, Lib.hid rfl⟩
          rw [hz.out] at HC HR2
          obtain ⟨a1, a2, a3, a4, a5, a6, a7⟩ := h'
          unfold Hd.cells Hd.val at *
          dsimp only at *
          go_wp2_with fail
          refine (HC.out).mono ?_
          rintro e w3 ⟨rfl, b3⟩
          have HB3 := Lib.hid (bthen HB2.out b3)
          have HB3w := Lib.hid (HB.out.trans (HB3.out.mono HB.out.size))
          have HJ := Lib.hid hlt
          clear b3 hlt
          rcases z with _ | _
          · have HF := Lib.hid (show suitM t = false by rw [HE3.out, HR2.out]; rfl)
            go_wp2_with fail
            go_ret
            exact ⟨by rw [HF.out]; rfl, HB3w.out⟩
          · have HR3 := Lib.hid (show suitL t.ks = suitL (t.ks.drop (j + 1)) by rw [HR2.out]; rfl)
            go_wp2_with fail
            exact ⟨⟨j + 1, HJ.out, by go_num, HR3, HB3⟩, by show hm - ((j : Int) + 1).toNat < hm - (j : Int).toNat; have := HJ.out; omega⟩
        · have e1' : ((j : Int) < (hm : Int)) = False := by simp only [eq_iff_iff, iff_false]; omega
          have HF := Lib.hid (show suitM t = (decide (ht ≠ 49) || risesT t.ks) by
            rw [HE3.out, hR.out, List.drop_of_length_le (by rw [HM.out]; omega)]; rfl)
          obtain ⟨x0, x1, x2, -, -, -⟩ := (HX.out.keep hBr.out HX.out.lt).cells
          clear hlt c0 c1 c2
          by_cases h49 : ht = 49
          · subst h49
            have HF2 := Lib.hid (show suitM t = risesT t.ks by rw [HF.out]; rfl)
            have HNn := Lib.hid (neighT_any (HK.out.up HBw.out) HLL.out)
            go_wp2_with fail
            refine (HNn.out).mono ?_
            rintro e w3 ⟨rfl, b3⟩
            go_wp2_with fail
            go_ret
            exact ⟨by rw [HF2.out]; rfl, bthen HBw.out b3⟩
          · have k9 : (ht != 49) = true := by simpa using h49
            have k9' : (ht = 49) = False := by simpa using h49
            have HF2 := Lib.hid (show suitM t = true by rw [HF.out]; simp [h49])
            clear h49
            go_wp2_with fail
            go_ret
            exact ⟨by rw [HF2.out]; rfl, HBw.out⟩
mutual
/-- how many values -/
def cnt : T → Nat
  | .mk _ _ ks => 1 + cntL ks
def cntL : List T → Nat
  | [] => 0
  | k :: ks => cnt k + cntL ks
end
mutual
theorem room_cnt : ∀ (t : T) (l r r' : Nat), room t l r = some r' → r' + cnt t = r
  | .mk _ _ ks, 0, r, r', h => by simp [room] at h
  | .mk _ _ ks, l + 1, 0, r', h => by simp [room] at h
  | .mk _ _ ks, l + 1, r + 1, r', h => by
    simp only [room] at h
    have := roomL_cnt ks l r r' h
    simp only [cnt]
    omega
theorem roomL_cnt : ∀ (ks : List T) (l r r' : Nat), roomL ks l r = some r' → r' + cntL ks = r
  | [], l, r, r', h => by simp only [roomL, Option.some.injEq] at h; simp only [cntL]; omega
  | k :: ks, l, r, r', h => by
    simp only [roomL] at h
    split at h
    · cases h
    · next q hq =>
      have h1 := room_cnt k l r q hq
      have h2 := roomL_cnt ks l q r' h
      simp only [cntL]
      omega
end
theorem cntL_pos_le {ks : List T} : ks.length ≤ cntL ks := by
  induction ks with
  | nil => exact Nat.le_refl _
  | cons k ks ih =>
    have : 1 ≤ cnt k := by cases k; simp [cnt]
    simp only [cntL, List.length_cons]; omega
/-- how long a value in memory may be -/
theorem Tr.len_le {w : World} {B : Nat} : ∀ {f : Nat} {h : Hd} {t : T}, Tr w B f h t → cnt t ≤ 8192 → lenT t + 10 ≤ cnt t * 281474976710700
  | 0, _, _, H, _ => H.elim
  | f + 1, h, t, H, hc => by
    obtain ⟨-, -, N, hn, K⟩ := H.parts
    have key : ∀ ks : List T, (∀ k, k ∈ ks → ∃ h', Tr w B f h' k) → cntL ks ≤ 8192 → lenL ks ≤ cntL ks * 281474976710700 := by
      intro ks
      induction ks with
      | nil => intro _ _; simp [lenL, cntL]
      | cons k ks ih =>
        intro h1 h2
        simp only [cntL] at h2 ⊢
        obtain ⟨h', hk⟩ := h1 k (by simp)
        have a1 := Tr.len_le hk (by omega)
        have a2 := ih (fun q hq => h1 q (by simp [hq])) (by omega)
        have a3 := lbl_le (lenT k) (by have := Nat.mul_le_mul_right 281474976710700 (show cnt k ≤ 8192 by omega); omega)
        simp only [lenL, Nat.add_mul]
        omega
    have hk : lenL t.ks ≤ cntL t.ks * 281474976710700 := by
      refine key t.ks (fun k hk => ?_) ?_
      · obtain ⟨i, hi⟩ := List.mem_iff_getElem?.1 hk
        obtain ⟨_, _, _, _, _, h', _, _, _, q⟩ := K.at_ hi
        exact ⟨h', q⟩
      · cases t; simp only [cnt, T.ks] at hc ⊢; omega
    have e1 := lenT_eq t
    have e2 : cnt t = 1 + cntL t.ks := by cases t; simp [cnt, T.ks]
    have e3 := N.len
    rw [e1, e2, Nat.add_mul]
    omega
set_option maxHeartbeats 2000000 in
theorem right_any {f : Nat} {h : Hd} {t : T} {w : World} (H : Tr w w.heap.size f h t) : Calls Try.prog 14 #[h.val] w fun e w' => e = .returned (.bool (rightM t)) ∧ Below w.heap.size w w' := by
  obtain ⟨w1, hw1⟩ : ∃ w1, w1 = w.alloc (.cells h.cells 25) := ⟨_, rfl⟩
  have hb : Below w.heap.size w w1 := by rw [hw1]; exact (Below.refl _ _).alloc (Nat.le_refl _) _
  have hx1 : Bx w1 w.heap.size 25 (.int .i64 h.t) (.slice h.A h.n h.c) (.slice h.K h.m h.d) := by rw [hw1]; exact Bx.new w 25 _ _ _
  have HR := Lib.hid (room_any f (H.up hb) (l := 16) (r := 4096) (by omega) (by omega))
  have HX := Lib.hid hx1
  have HB := Lib.hid hb
  have HT := Lib.hid H
  have HS := Lib.hid (fun (W : World) (b : Below w.heap.size w W) (hl : lenT t ≤ 2305843009213693952) => suits_all f (H.up b) hl)
  obtain ⟨c0, c1, c2, -, -, -⟩ := hx1.cells
  clear H hb hx1
  obtain ⟨ht, hA, hn, hc, hK, hm, hd⟩ := h
  unfold Hd.val Hd.cells at *
  dsimp only at *
  go_enter Try.func14, Try.ntmps14
  go_upto_region 1 with (fail)
  rw [← hw1]
  clear hw1
  go_wp2_with fail
  refine (HR.out).mono ?_
  rintro e w2 ⟨rfl, b2⟩
  have HB2 := Lib.hid (bthen HB.out b2)
  obtain ⟨x0, x1, x2, -, -, -⟩ := (HX.out.keep b2 HX.out.lt).cells
  clear b2 c0 c1 c2
  rcases hrm : room t 16 4096 with _ | r'
  · have HF := Lib.hid (show rightM t = false by unfold rightM; rw [hrm]; rfl)
    clear hrm
    dsimp only [opt]
    go_wp2_with fail
    go_ret
    exact ⟨by rw [HF.out]; rfl, HB2.out⟩
  · have HF := Lib.hid (show rightM t = suitM t by unfold rightM; rw [hrm]; rfl)
    have hcn := room_cnt t 16 4096 r' hrm
    have hll := HT.out.len_le (by omega)
    have HS2 := Lib.hid (HS.out w2 HB2.out (by have := Nat.mul_le_mul_right 281474976710700 (show cnt t ≤ 4096 by omega); omega))
    have k0 : (0 : Int) ≤ (r' : Int) := by omega
    clear hrm hcn hll
    dsimp only [opt]
    go_wp2_with fail
    refine (HS2.out).mono ?_
    rintro e w3 ⟨rfl, b3⟩
    go_wp2_with fail
    go_ret
    exact ⟨by rw [HF.out]; rfl, bthen HB2.out b3⟩
end Go.Proofs.Ytddpgckbdccldaa
