/- wire: what is written is what is read: rows of fields, heads. -/
import Derived.Test.YtompggkdjbkjjaaWiS1
namespace Go.Proofs.Ytompggkdjbkjjaa.Wi
open Go.RowKit
set_option linter.unusedVariables false
set_option linter.unusedSimpArgs false
set_option maxRecDepth 100000
/-- a field that was read, without a place -/
def exE (x : Ex) : El := exEl x none 0 none 0
theorem szs_cons (x : El) (l : List El) : szs (x :: l) = szf x + szs l := by simp [szs]
theorem szs_nil : szs [] = 0 := rfl
theorem fld_mod (n : Nat) : fld n % 4 = 0 := by unfold fld; omega
theorem szf_mod (x : El) : szf x % 4 = 0 := by
  have h1 := fld_mod x.n
  have h2 := fld_mod x.m
  unfold szf; omega
theorem szf_ge (x : El) : 24 ≤ szf x := by unfold szf; omega
theorem szs_mod : ∀ l : List El, szs l % 4 = 0
  | [] => rfl
  | x :: l => by rw [szs_cons]; have := szf_mod x; have := szs_mod l; omega
theorem nm_ext {x : El} (h : x.fit) (r : List Nat) : nm (extB x ++ r) 2 2 = szf x := by
  have h1 := szf_lim h.right
  unfold nm
  rw [extB_hdr, hdr_eq]
  simp only [List.cons_append, List.append_assoc, List.drop_succ_cons, List.drop_zero, List.take_succ_cons, List.take_zero]
  simp [num]; omega
theorem nm_drop (xs : List Nat) (a i k : Nat) : nm xs (a + i) k = nm (xs.drop a) i k := by unfold nm; rw [List.drop_drop]
theorem go_fwd (xs mac : List Nat) (hm : mac.length ≤ 20) : ∀ (l : List El) (f a : Nat) (acc : List Ex), (∀ x ∈ l, x.fit) → l.length ≤ f → a ≤ xs.length → xs.drop a = l.flatMap extB ++ mac → acc.length + l.length ≤ 8 → goF xs (fds xs f a) acc a = .inr (acc ++ l.map toEx, a + szs l) := by
  intro l
  induction l with
  | nil =>
    intro f a acc _ _ ha hd _
    have hl := congrArg List.length hd
    simp only [List.length_drop, List.flatMap_nil, List.nil_append] at hl
    have : fds xs f a = [] := by
      cases f with
      | zero => rfl
      | succ f => unfold fds; rw [if_pos (by omega)]
    rw [this]
    simp [goF, szs_nil]
  | cons x l ih =>
    intro f a acc hf hlf ha hd h8
    obtain ⟨f, rfl⟩ : ∃ g, f = g + 1 := ⟨f - 1, by simp at hlf; omega⟩
    have hx := hf x (by simp)
    have hxl := extB_length hx
    have hge := szf_ge x
    have hmod := szf_mod x
    rw [List.flatMap_cons, List.append_assoc] at hd
    have hl := congrArg List.length hd
    rw [List.length_drop, List.length_append, hxl] at hl
    have hn : nm xs (a + 2) 2 = szf x := by rw [nm_drop, hd, nm_ext hx]
    have hfd : fds xs (f + 1) a = (a, szf x) :: fds xs f (a + szf x) := by
      rw [fds, hn, if_neg (by omega), if_neg]
      unfold badB
      simp only [Bool.or_eq_true, Bool.not_eq_true', beq_eq_false_iff_ne, decide_eq_true_eq]
      omega
    have hfx : fdx xs (a, szf x) = extB x := by unfold fdx; dsimp only; rw [hd]; exact take_pre hxl
    rw [hfd]
    unfold goF
    rw [hfx, ex_fwd hx]
    simp only []
    rw [if_neg (by simp at h8; omega)]
    have := ih f (a + szf x) (acc ++ [toEx x]) (fun y hy => hf y (by simp [hy])) (by simp at hlf; omega) (by omega) (by rw [← List.drop_drop, hd]; exact drop_pre hxl) (by simp at h8 ⊢; omega)
    rw [this, szs_cons]
    simp; omega
theorem nm_take {l : List Nat} {s : Nat} (h : 4 ≤ s) : nm (l.take s) 2 2 = nm l 2 2 := by
  unfold nm
  rw [List.drop_take, List.take_take, Nat.min_eq_left (by omega)]
theorem go_rev (xs : List Nat) (hL : Lim 256 xs) : ∀ (f a : Nat) (acc es : List Ex) (en : Nat), a ≤ xs.length → xs.length ≤ a + 20 + 24 * f → acc.length ≤ 8 → goF xs (fds xs f a) acc a = .inr (es, en) →
    ∃ l : List Ex, es = acc ++ l ∧ (∀ x ∈ l, (exE x).fit) ∧ xs.drop a = (l.map exE).flatMap extB ++ xs.drop en ∧ en ≤ xs.length ∧ xs.length ≤ en + 20 ∧ en = a + szs (l.map exE) ∧ es.length ≤ 8 := by
  intro f
  induction f with
  | zero =>
    intro a acc es en ha hl h8 h
    simp only [fds, goF] at h
    cases h
    exact ⟨[], by simp, by simp, by simp, ha, by omega, by simp [szs_nil], h8⟩
  | succ f ih =>
    intro a acc es en ha hl h8 h
    rw [fds] at h
    split at h
    · simp only [goF] at h
      cases h
      exact ⟨[], by simp, by simp, by simp, ha, by omega, by simp [szs_nil], h8⟩
    · split at h
      · unfold goF at h
        rw [show fdx xs (a, 0) = [] from List.take_zero, show exOf [] = none from rfl] at h
        simp only [] at h
        cases h
      · rename_i hb
        obtain ⟨s, hs⟩ : ∃ s, s = nm xs (a + 2) 2 := ⟨_, rfl⟩
        rw [← hs] at h hb
        have hb2 : s % 4 = 0 ∧ 24 ≤ s ∧ s ≤ xs.length - a := by
          unfold badB at hb
          simp only [Bool.or_eq_true, Bool.not_eq_true', beq_eq_false_iff_ne, decide_eq_true_eq] at hb
          omega
        unfold goF at h
        split at h
        · cases h
        · rename_i x hx
          split at h
          · cases h
          · rename_i hc
            have hfl : (fdx xs (a, s)).length = s := by unfold fdx; simp; omega
            have hr := ex_rev (xs := fdx xs (a, s)) ((hL.drop a).take s) (by rw [hfl]; unfold fdx; dsimp only; rw [nm_take (by omega), hs, nm_drop]) hx
            obtain ⟨l, h1, h2, h3, h4, h5, h6, h7⟩ := ih (a + s) (acc ++ [x]) es en (by omega) (by omega) (by simp; omega) h
            have hse : szf (exE x) = s := by
              have := extB_length hr.1
              rw [hr.2, hfl] at this
              exact this.symm
            refine ⟨x :: l, by rw [h1]; simp, ?_, ?_, h4, h5, ?_, h7⟩
            · intro y hy
              rcases List.mem_cons.1 hy with rfl | hy
              · exact hr.1
              · exact h2 y hy
            · rw [List.map_cons, List.flatMap_cons, List.append_assoc, ← h3, show extB (exE x) = fdx xs (a, s) from hr.2, ← List.drop_drop]
              exact (List.take_append_drop s (xs.drop a)).symm
            · rw [List.map_cons, szs_cons, hse, h6]; omega
/-- a head's numbers fit -/
structure Hd.ok (h : Hd) : Prop where
  d : h.dl < 4294967296 ∧ h.di < 4294967296 ∧ h.rf < 4294967296
  t : h.re < 18446744073709551616 ∧ h.og < 18446744073709551616 ∧ h.rc < 18446744073709551616 ∧ h.xm < 18446744073709551616
theorem headW_length (h : Hd) : (headW h).length = 48 := by simp [headW, be_length]
theorem sg_of (z : Int) (h : -128 ≤ z ∧ z ≤ 127) : sg (z % 256).toNat = z := by unfold sg; split <;> omega
theorem head_fwd {h : Hd} (hb : headB h = true) (hk : h.ok) (r : List Nat) : hdOf (headW h ++ r) = h := by
  have hb' : 0 ≤ h.lp ∧ h.lp ≤ 3 ∧ h.ve = 4 ∧ 1 ≤ h.mo ∧ h.mo ≤ 5 ∧ 0 ≤ h.st ∧ h.st ≤ 16 ∧ 0 ≤ h.po ∧ h.po ≤ 17 ∧ -128 ≤ h.pr ∧ h.pr ≤ 127 := by
    unfold headB kindB wi at hb
    simp only [Bool.and_eq_true, decide_eq_true_eq] at hb
    omega
  obtain ⟨d1, d2, d3⟩ := hk.d
  obtain ⟨t1, t2, t3, t4⟩ := hk.t
  have e4 : headW h ++ r = [(fh h % 256).toNat, (h.st % 256).toNat, (h.po % 256).toNat, (h.pr % 256).toNat] ++ (be 4 (h.dl : Nat) ++ (be 4 (h.di : Nat) ++ be 4 (h.rf : Nat) ++ be 8 (h.re : Nat) ++ be 8 (h.og : Nat) ++ be 8 (h.rc : Nat) ++ be 8 (h.xm : Nat) ++ r)) := by
    simp [headW, be1]
  have n4 : nm (headW h ++ r) 4 4 = h.dl := by rw [e4, nm_pre (by simp) (be_length 4 _), num_be 4 _ (by omega)]
  have n8 : nm (headW h ++ r) 8 4 = h.di := by
    rw [show headW h ++ r = (be 1 (fh h) ++ be 1 h.st ++ be 1 h.po ++ be 1 h.pr ++ be 4 (h.dl : Nat)) ++ (be 4 (h.di : Nat) ++ (be 4 (h.rf : Nat) ++ be 8 (h.re : Nat) ++ be 8 (h.og : Nat) ++ be 8 (h.rc : Nat) ++ be 8 (h.xm : Nat) ++ r)) by simp [headW], nm_pre (by simp [be_length]) (be_length 4 _), num_be 4 _ (by omega)]
  have n12 : nm (headW h ++ r) 12 4 = h.rf := by
    rw [show headW h ++ r = (be 1 (fh h) ++ be 1 h.st ++ be 1 h.po ++ be 1 h.pr ++ be 4 (h.dl : Nat) ++ be 4 (h.di : Nat)) ++ (be 4 (h.rf : Nat) ++ (be 8 (h.re : Nat) ++ be 8 (h.og : Nat) ++ be 8 (h.rc : Nat) ++ be 8 (h.xm : Nat) ++ r)) by simp [headW], nm_pre (by simp [be_length]) (be_length 4 _), num_be 4 _ (by omega)]
  have n16 : nm (headW h ++ r) 16 8 = h.re := by
    rw [show headW h ++ r = (be 1 (fh h) ++ be 1 h.st ++ be 1 h.po ++ be 1 h.pr ++ be 4 (h.dl : Nat) ++ be 4 (h.di : Nat) ++ be 4 (h.rf : Nat)) ++ (be 8 (h.re : Nat) ++ (be 8 (h.og : Nat) ++ be 8 (h.rc : Nat) ++ be 8 (h.xm : Nat) ++ r)) by simp [headW], nm_pre (by simp [be_length]) (be_length 8 _), num_be 8 _ (by omega)]
  have n24 : nm (headW h ++ r) 24 8 = h.og := by
    rw [show headW h ++ r = (be 1 (fh h) ++ be 1 h.st ++ be 1 h.po ++ be 1 h.pr ++ be 4 (h.dl : Nat) ++ be 4 (h.di : Nat) ++ be 4 (h.rf : Nat) ++ be 8 (h.re : Nat)) ++ (be 8 (h.og : Nat) ++ (be 8 (h.rc : Nat) ++ be 8 (h.xm : Nat) ++ r)) by simp [headW], nm_pre (by simp [be_length]) (be_length 8 _), num_be 8 _ (by omega)]
  have n32 : nm (headW h ++ r) 32 8 = h.rc := by
    rw [show headW h ++ r = (be 1 (fh h) ++ be 1 h.st ++ be 1 h.po ++ be 1 h.pr ++ be 4 (h.dl : Nat) ++ be 4 (h.di : Nat) ++ be 4 (h.rf : Nat) ++ be 8 (h.re : Nat) ++ be 8 (h.og : Nat)) ++ (be 8 (h.rc : Nat) ++ (be 8 (h.xm : Nat) ++ r)) by simp [headW], nm_pre (by simp [be_length]) (be_length 8 _), num_be 8 _ (by omega)]
  have n40 : nm (headW h ++ r) 40 8 = h.xm := by
    rw [show headW h ++ r = (be 1 (fh h) ++ be 1 h.st ++ be 1 h.po ++ be 1 h.pr ++ be 4 (h.dl : Nat) ++ be 4 (h.di : Nat) ++ be 4 (h.rf : Nat) ++ be 8 (h.re : Nat) ++ be 8 (h.og : Nat) ++ be 8 (h.rc : Nat)) ++ (be 8 (h.xm : Nat) ++ r) by simp [headW], nm_pre (by simp [be_length]) (be_length 8 _), num_be 8 _ (by omega)]
  have g0 : (headW h ++ r).getD 0 0 = (fh h % 256).toNat := by rw [e4]; rfl
  have g1 : (headW h ++ r).getD 1 0 = (h.st % 256).toNat := by rw [e4]; rfl
  have g2 : (headW h ++ r).getD 2 0 = (h.po % 256).toNat := by rw [e4]; rfl
  have g3 : (headW h ++ r).getD 3 0 = (h.pr % 256).toNat := by rw [e4]; rfl
  unfold hdOf
  rw [n4, n8, n12, n16, n24, n32, n40, g0, g1, g2, g3, sg_of h.pr (by omega)]
  have f0 : fh h = h.lp * 64 + 32 + h.mo := by unfold fh; omega
  have a1 : (((fh h % 256).toNat / 64 : Nat) : Int) = h.lp := by omega
  have a2 : (((fh h % 256).toNat / 8 % 8 : Nat) : Int) = h.ve := by omega
  have a3 : (((fh h % 256).toNat % 8 : Nat) : Int) = h.mo := by omega
  have a4 : (((h.st % 256).toNat : Nat) : Int) = h.st := by omega
  have a5 : (((h.po % 256).toNat : Nat) : Int) = h.po := by omega
  rw [a1, a2, a3, a4, a5]
theorem be_nm {xs : List Nat} (hL : Lim 256 xs) (i k : Nat) (h : i + k ≤ xs.length) : be k (nm xs i k : Nat) = (xs.drop i).take k :=
  be_num k _ (by simp; omega) ((hL.drop i).take k)
theorem take_plus (xs : List Nat) (i k : Nat) : xs.take (i + k) = xs.take i ++ (xs.drop i).take k := List.take_add
theorem sg_back (x : Nat) (h : x < 256) : (sg x % 256).toNat = x := by unfold sg; split <;> omega
theorem head_rev {xs : List Nat} (hL : Lim 256 xs) (h : 48 ≤ xs.length) : headW (hdOf xs) = xs.take 48 := by
  have e : xs.take 48 = xs.take 4 ++ (xs.drop 4).take 4 ++ (xs.drop 8).take 4 ++ (xs.drop 12).take 4 ++ (xs.drop 16).take 8 ++ (xs.drop 24).take 8 ++ (xs.drop 32).take 8 ++ (xs.drop 40).take 8 := by
    rw [← take_plus xs 4 4, ← take_plus xs 8 4, ← take_plus xs 12 4, ← take_plus xs 16 8, ← take_plus xs 24 8, ← take_plus xs 32 8, ← take_plus xs 40 8]
  have e4 : be 1 (fh (hdOf xs)) ++ be 1 (hdOf xs).st ++ be 1 (hdOf xs).po ++ be 1 (hdOf xs).pr = xs.take 4 := by
    obtain ⟨x0, x1, x2, x3, x4, x5, x6, x7, r, rfl⟩ := eight xs (by omega)
    have l0 := hL x0 (by simp)
    have l1 := hL x1 (by simp)
    have l2 := hL x2 (by simp)
    have l3 := hL x3 (by simp)
    rw [be1, be1, be1, be1]
    unfold hdOf fh
    simp only [List.getD_cons_zero, List.getD_cons_succ, List.take_succ_cons, List.take_zero, List.cons_append, List.nil_append]
    rw [sg_back x3 l3]
    have a0 : (((x0 / 64 : Nat) : Int) * 64 + ((x0 / 8 % 8 : Nat) : Int) * 8 + ((x0 % 8 : Nat) : Int)) % 256 = (x0 : Int) := by clear hL; omega
    have a1 : ((x1 : Int) % 256).toNat = x1 := by clear hL; omega
    have a2 : ((x2 : Int) % 256).toNat = x2 := by clear hL; omega
    rw [a0, a1, a2]
    rfl
  rw [e, ← be_nm hL 4 4 (by omega), ← be_nm hL 8 4 (by omega), ← be_nm hL 12 4 (by omega), ← be_nm hL 16 8 (by omega), ← be_nm hL 24 8 (by omega), ← be_nm hL 32 8 (by omega), ← be_nm hL 40 8 (by omega), ← e4]
  rfl
theorem hdOf_ok {xs : List Nat} (hL : Lim 256 xs) : (hdOf xs).ok := by
  have l : ∀ i k, k ≤ 8 → nm xs i k < 256 ^ k := fun i k hk => Nat.lt_of_lt_of_le (num_lt _ ((hL.drop i).take k)) (Nat.pow_le_pow_right (by decide) (by simp; omega))
  exact ⟨⟨l 4 4 (by decide), l 8 4 (by decide), l 12 4 (by decide)⟩, l 16 8 (by decide), l 24 8 (by decide), l 32 8 (by decide), l 40 8 (by decide)⟩
theorem getD_lt {xs : List Nat} (hL : Lim 256 xs) (i : Nat) : xs.getD i 0 < 256 := hL.get (by decide) i
theorem headB_of {xs : List Nat} (hL : Lim 256 xs) (h1 : kindB (hdOf xs) = true) (h2 : wi (hdOf xs).st 0 16 = true) (h3 : wi (hdOf xs).po 0 17 = true) : headB (hdOf xs) = true := by
  have l0 := getD_lt hL 0
  have l3 := getD_lt hL 3
  have hp : wi (hdOf xs).pr (-128) 127 = true := by
    unfold hdOf wi sg
    simp only [decide_eq_true_eq]
    split <;> omega
  have hl : wi (hdOf xs).lp 0 3 = true := by
    unfold hdOf wi
    simp only [decide_eq_true_eq]
    omega
  unfold headB
  rw [hl, h1, h2, h3, hp]
  rfl
/-- a field that a program made says the same as its reading -/
theorem ee {x : El} (h : 0 ≤ x.op ∧ 0 ≤ x.as_) (h1 : x.xs.length = x.n) (h2 : x.ys.length = x.m) : extB (exE (toEx x)) = extB x ∧ szf (exE (toEx x)) = szf x ∧ fieldB (exE (toEx x)) = fieldB x ∧ ((exE (toEx x)).fit → x.fit) := by
  obtain ⟨op, resp, bad, as_, ts, fs, A, n, c, B, m, e, xs, ys⟩ := x
  obtain ⟨ho, ha⟩ := h
  dsimp only at ho ha h1 h2
  subst h1 h2
  obtain ⟨op, rfl⟩ := Int.eq_ofNat_of_zero_le ho
  obtain ⟨as_, rfl⟩ := Int.eq_ofNat_of_zero_le ha
  exact ⟨rfl, rfl, rfl, fun f => ⟨f.right, rfl, rfl, f.ts, f.fs⟩⟩
end Go.Proofs.Ytompggkdjbkjjaa.Wi
