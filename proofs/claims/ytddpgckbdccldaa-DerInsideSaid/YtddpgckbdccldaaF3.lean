/- reader.end. -/
import Derived.Test.YtddpgckbdccldaaF2
namespace Go.Proofs.Ytddpgckbdccldaa
open Go.RowKit
set_option linter.unusedVariables false
set_option linter.unusedSimpArgs false
set_option maxRecDepth 100000
/-- what reading where a value ends comes to -/
def endM (bs : List Nat) (a around : Nat) : Except (Nat × Nat) (Nat × Nat) :=
  match lenM bs a with
  | .error f => .error f
  | .ok (x, a') => if a' + x ≤ around then .ok (a' + x, a') else if around < bs.length then .error (a, 71) else .error (bs.length, 72)
def EndP (g : Nat) (A : Option Addr) (n c : Nat) (bs : List Nat) (a h around : Nat) (w : World) (e : Ending) (w' : World) : Prop :=
  (∃ p q, endM bs a around = .error (p, q) ∧ q ≠ 0 ∧ e = .returned (.tuple #[.int .i64 0, .agg #[.int .i64 (p : Int), .int .i64 (q : Int)]]) ∧ Kp g w w' ∧ ∃ a', Rb w' g A n c a' h) ∨
  (∃ x a', endM bs a around = .ok (x, a') ∧ e = .returned (.tuple #[.int .i64 (x : Int), .agg #[.int .i64 0, .int .i64 0]]) ∧ Kp g w w' ∧ Rb w' g A n c a' h)
theorem At.go {w W W' : World} {g : Nat} {A : Option Addr} {n c a h a' h' : Nat} (H : At w W g A n c a h) (k : Kp g W W') (R : Rb W' g A n c a' h') (hg : g < w.heap.size) : At w W' g A n c a' h' :=
  ⟨H.kp.trans k, R, H.bx.kp k (by omega)⟩
theorem At.alloc {w W : World} {g : Nat} {A : Option Addr} {n c a h : Nat} (H : At w W g A n c a h) (o : Obj) : At w (W.alloc o) g A n c a h := by
  have hb : Below W.heap.size W (W.alloc o) := (Below.refl _ _).alloc (Nat.le_refl _) _
  exact ⟨H.kp.trans (Kp.of hb), Bx.keep H.rb hb H.rb.lt, H.bx.keep hb H.bx.lt⟩
theorem moreM_le (bs : List Nat) (f : Nat) : ∀ (left a acc x a' : Nat), a ≤ bs.length → left ≤ 4 → acc < 256 ^ (4 - left) → Lim 256 bs → moreM bs f left a acc = .ok (x, a') → a' ≤ bs.length ∧ x < 4294967296
  | 0, a, acc, x, a', ha, hl, hacc, hL, h => by
    simp only [moreM] at h
    split at h
    · cases h
    · cases h; exact ⟨ha, hacc⟩
  | left + 1, a, acc, x, a', ha, hl, hacc, hL, h => by
    simp only [moreM] at h
    split at h
    · cases h
    · next h1 =>
      split at h
      · cases h
      · refine moreM_le bs f left (a + 1) _ x a' (by omega) (by omega) ?_ hL h
        have hy : bs.getD a 0 < 256 := hL.get (by omega) a
        have : left = 0 ∨ left = 1 ∨ left = 2 ∨ left = 3 := by omega
        rcases this with rfl | rfl | rfl | rfl <;> simp only [Nat.reduceAdd, Nat.reduceSub, Nat.reducePow] at hacc ⊢ <;> omega
theorem lenM_le {bs : List Nat} {a x a' : Nat} (ha : a ≤ bs.length) (hL : Lim 256 bs) (h : lenM bs a = .ok (x, a')) : a' ≤ bs.length ∧ x < 4294967296 := by
  unfold lenM at h
  split at h
  · cases h
  · split at h
    · cases h; exact ⟨by omega, by omega⟩
    · split at h
      · cases h
      · exact moreM_le bs a _ _ 0 x a' (by omega) (by omega) (Nat.pow_pos (by omega)) hL h
set_option maxHeartbeats 8000000 in
theorem end_any {w : World} {g : Nat} {A : Option Addr} {n c : Nat} {bs : List Nat} {a h around : Nat} (R : Rb w g A n c a h) (N : Nb w g A n c bs) (ha : a ≤ n) (hn : n ≤ 65535) (har : around ≤ n) :
    Calls Try.prog 63 #[.pointer (some ⟨g, 0, none⟩), .int .i64 (around : Int)] w (EndP g A n c bs a h around w) := by
  have hg := R.lt
  obtain ⟨w1, hw1⟩ : ∃ w1, w1 = w.alloc (.cells #[.int .i64 0, .int .i64 0] 47) := ⟨_, rfl⟩
  have hb1 : Below w.heap.size w w1 := by rw [hw1]; exact (Below.refl _ _).alloc (Nat.le_refl _) _
  have hx1 : B2 w1 w.heap.size 47 (.int .i64 0) (.int .i64 0) := by rw [hw1]; exact B2.new w 47 _ _
  have HA1 : Hid (At w w1 g A n c a h) := ⟨Kp.of hb1, Bx.keep R hb1 hg, hx1⟩
  obtain ⟨c0, c1, c2, f0, f1, f2⟩ := HA1.out.rb.cells
  have HN := Lib.hid N
  have HLen := Lib.hid N.len
  have HLm := Lib.hid N.lim
  have HG := Lib.hid hg
  have hne1 : (g = w.heap.size) = False := by simp; omega
  have hne2 : (w.heap.size = g) = False := by simp; omega
  have HC := Lib.hid (length_any HA1.out.rb (N.below (hb1.mono (by omega))) ha hn)
  clear R N hb1 hx1 hg
  go_enter Try.func63, Try.ntmps63
  go_upto_region 1 with (fail)
  rw [← hw1]
  clear hw1
  go_wp2_with fail
  refine (HC.out).mono ?_
  rintro e w2 (⟨p, q, hm, hq, rfl, k2, a', r2⟩ | ⟨x, a', hm, rfl, k2, r2⟩)
  · have HA2 := Lib.hid (HA1.out.go k2 r2 HG.out)
    have HT := Lib.hid (show endM bs a around = .error (p, q) by unfold endM; rw [hm])
    have HA3 := Lib.hid (HA2.out.alloc (.cells #[.int .i64 (p : Int), .int .i64 (q : Int)] 47))
    have hx3 : B2 (w2.alloc (.cells #[.int .i64 (p : Int), .int .i64 (q : Int)] 47)) w2.heap.size 47 (.int .i64 (p : Int)) (.int .i64 (q : Int)) := B2.new w2 47 _ _
    obtain ⟨s0, s1, s2, s3⟩ := HA3.out.bx.cells
    have kq : ((q : Int) != 0) = true := by simp; omega
    have kq' : ((q : Int) = 0) = False := by simp; omega
    have HQ := Lib.hid hq
    have HLT := Lib.hid HA2.out.bx.lt
    have hne3 : (w.heap.size = w2.heap.size) = False := by have := HLT.out; simp; omega
    have hne4 : (w2.heap.size = w.heap.size) = False := by have := HLT.out; simp; omega
    clear hm hq k2 r2 hx3
    go_wp2_with fail
    go_region
    have HF := Lib.hid (HA3.out.fin HG.out (.int .i64 (p : Int)) (.int .i64 (q : Int)))
    go_wp2_with fail
    refine bodyPost_ret (res_two rfl rfl rfl HF.out.2.2) rfl ?_
    exact .inl ⟨p, q, HT.out, HQ.out, rfl, HF.out.1.drew, a', HF.out.2.1⟩
  · obtain ⟨hle, hx32⟩ := lenM_le (by rw [HLen.out]; exact ha) HLm.out hm
    rw [HLen.out] at hle
    have HA2 := Lib.hid (HA1.out.go k2 r2 HG.out)
    have HM := Lib.hid hm
    have HA3 := Lib.hid (HA2.out.alloc (.cells #[.int .i64 0, .int .i64 0] 47))
    obtain ⟨r0, r1, r2', g0, g1, g2⟩ := HA3.out.rb.cells
    obtain ⟨s0, s1, s2, s3⟩ := HA3.out.bx.cells
    have HLT := Lib.hid HA2.out.bx.lt
    have hne3 : (w.heap.size = w2.heap.size) = False := by have := HLT.out; simp; omega
    have hne4 : (w2.heap.size = w.heap.size) = False := by have := HLT.out; simp; omega
    have hne5 : (g = w2.heap.size) = False := by have := HLT.out; have := HG.out; simp; omega
    clear hm k2 r2
    by_cases hfit : a' + x ≤ around
    · have HT := Lib.hid (show endM bs a around = .ok (a' + x, a') by unfold endM; rw [HM.out]; simp only; rw [if_pos hfit])
      have kd : (x : Int) ≤ (around : Int) - (a' : Int) := by omega
      have HH := Lib.hid hfit
      clear hfit
      go_wp2_with fail
      have HF := Lib.hid (HA3.out.fin HG.out (.int .i64 0) (.int .i64 0))
      refine bodyPost_ret (res_two rfl rfl rfl HF.out.2.2) rfl ?_
      exact .inr ⟨a' + x, a', HT.out, by simp, HF.out.1, HF.out.2.1⟩
    have kd : ((x : Int) ≤ (around : Int) - (a' : Int)) = False := by simp; omega
    have kd2 : ((around : Int) - (a' : Int) < (x : Int)) := by omega
    have HH := Lib.hid hfit
    clear hfit
    by_cases har2 : around < n
    · have HT := Lib.hid (show endM bs a around = .error (a, 71) by unfold endM; rw [HM.out]; simp only; rw [if_neg HH.out, if_pos (by rw [HLen.out]; exact har2)])
      have ke : (around : Int) < (n : Int) := by omega
      clear har2
      go_wp2_with fail
      have HF := Lib.hid (HA3.out.fin HG.out (.int .i64 (a : Int)) (.int .i64 71))
      refine bodyPost_ret (res_two rfl rfl rfl HF.out.2.2) rfl ?_
      exact .inl ⟨a, 71, HT.out, by omega, rfl, HF.out.1, a', HF.out.2.1⟩
    have HT := Lib.hid (show endM bs a around = .error (n, 72) by unfold endM; rw [HM.out]; simp only; rw [if_neg HH.out, if_neg (by rw [HLen.out]; exact har2), HLen.out])
    have ke : ((around : Int) < (n : Int)) = False := by simp; omega
    clear har2
    go_wp2_with fail
    go_region
    have HF := Lib.hid (HA3.out.fin HG.out (.int .i64 (n : Int)) (.int .i64 72))
    go_wp2_with fail
    refine bodyPost_ret (res_two rfl rfl rfl HF.out.2.2) rfl ?_
    exact .inl ⟨n, 72, HT.out, by omega, rfl, HF.out.1.drew, a', HF.out.2.1⟩
end Go.Proofs.Ytddpgckbdccldaa
