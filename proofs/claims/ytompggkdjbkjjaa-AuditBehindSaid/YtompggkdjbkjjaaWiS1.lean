/- wire: what is written is what is read: numbers, texts, fields. -/
import Derived.Test.YtompggkdjbkjjaaWiR9
import Derived.Test.YtompggkdjbkjjaaWiW8
namespace Go.Proofs.Ytompggkdjbkjjaa.Wi
open Go.RowKit
set_option linter.unusedVariables false
set_option linter.unusedSimpArgs false
theorem by8_lt (s : Nat) (z : Int) (i : Nat) : by8 s z i < 256 := by unfold by8; omega
theorem be_lim (s : Nat) (z : Int) : Lim 256 (be s z) := fun x hx => by
  unfold be at hx
  obtain ⟨i, _, rfl⟩ := List.mem_map.1 hx
  exact by8_lt s z i
theorem by8_succ {s i : Nat} (z : Int) (h : i < s) : by8 (s + 1) z i = by8 s (z / 256) i := by
  unfold by8
  rw [show 8 * (s + 1 - 1 - i) = 8 + 8 * (s - 1 - i) by omega, Int.pow_add, show (2 : Int) ^ 8 = 256 by decide, Int.ediv_ediv_of_nonneg (by decide)]
theorem be_succ (s : Nat) (z : Int) : be (s + 1) z = be s (z / 256) ++ [(z % 256).toNat] := by
  unfold be
  rw [List.range_succ, List.map_append]
  congr 1
  · exact List.map_congr_left fun i hi => by8_succ z (List.mem_range.1 hi)
  · simp [by8]
theorem be_zero (z : Int) : be 0 z = [] := rfl
theorem num_be (s : Nat) : ∀ k : Nat, k < 256 ^ s → num (be s (k : Int)) = k := by
  induction s with
  | zero => intro k h; simp at h; subst h; rfl
  | succ s ih =>
    intro k h
    rw [be_succ, num_snoc, show ((k : Int) / 256) = ((k / 256 : Nat) : Int) by omega, ih (k / 256) (by rw [Nat.pow_succ] at h; omega)]
    omega
theorem be_num : ∀ (s : Nat) (xs : List Nat), xs.length = s → Lim 256 xs → be s (num xs : Nat) = xs := by
  intro s
  induction s with
  | zero => intro xs h _; rw [List.eq_nil_of_length_eq_zero h]; rfl
  | succ s ih =>
    intro xs h hl
    obtain ⟨ys, x, rfl⟩ : ∃ ys x, xs = ys ++ [x] := ⟨xs.dropLast, xs.getLast (by intro e; subst e; simp at h), (List.dropLast_concat_getLast _).symm⟩
    have hx : x < 256 := hl x (by simp)
    rw [be_succ, num_snoc, show (((num ys * 256 + x : Nat) : Int) / 256) = (num ys : Int) by omega, ih ys (by simpa using h) (fun y hy => hl y (by simp [hy]))]
    congr 2
    omega
theorem be1 (z : Int) : be 1 z = [(z % 256).toNat] := by rw [be_succ]; rfl
theorem be2 (z : Int) : be 2 z = [(z / 256 % 256).toNat, (z % 256).toNat] := by rw [be_succ, be1]; rfl
theorem Lim.drop {n : Nat} {xs : List Nat} (h : Lim n xs) (k : Nat) : Lim n (xs.drop k) := fun x hx => h x (List.mem_of_mem_drop hx)
theorem take_pre {α : Type} {a b : List α} {n : Nat} (h : a.length = n) : (a ++ b).take n = a := List.take_left' h
theorem drop_pre {α : Type} {a b : List α} {n : Nat} (h : a.length = n) : (a ++ b).drop n = b := List.drop_left' h
theorem nm_pre {a b c : List Nat} {i k : Nat} (hi : a.length = i) (hk : b.length = k) : nm (a ++ (b ++ c)) i k = num b := by
  unfold nm; rw [drop_pre hi, take_pre hk]
/-- a text that was written is read -/
theorem txt_fwd (ys r : List Nat) (h : ys.length ≤ 2048) : txt (textB ys ++ r) = some (ys, r) := by
  have hn : num (be 4 (ys.length : Nat)) = ys.length := num_be 4 _ (by omega)
  have hl := (fld_lim ys.length).1
  unfold txt textB
  rw [List.append_assoc, List.append_assoc, take_pre (be_length 4 _), drop_pre (be_length 4 _), hn]
  have e1 : (ys ++ (List.replicate (fld ys.length - ys.length) 0 ++ r)).take ys.length = ys := take_pre rfl
  have e2 : (ys ++ (List.replicate (fld ys.length - ys.length) 0 ++ r)).drop ys.length = List.replicate (fld ys.length - ys.length) 0 ++ r := drop_pre rfl
  have e3 : (List.replicate (fld ys.length - ys.length) 0 ++ r).take (fld ys.length - ys.length) = List.replicate (fld ys.length - ys.length) 0 := take_pre (by simp)
  have e4 : (ys ++ (List.replicate (fld ys.length - ys.length) 0 ++ r)).drop (fld ys.length) = r := by
    rw [← List.append_assoc]; exact drop_pre (by simp; omega)
  rw [e2, e3, e1, e4, if_neg (by simp [be_length]), if_neg (by simp; omega), if_pos (by simp)]
/-- a text that is read was written -/
theorem txt_rev {xs t r : List Nat} (hL : Lim 256 xs) (h : txt xs = some (t, r)) : xs = textB t ++ r ∧ t.length ≤ 2048 := by
  unfold txt at h
  split at h
  · cases h
  · rename_i h4
    split at h
    · cases h
    · rename_i h5
      split at h
      · rename_i h6
        cases h
        obtain ⟨L, hLd⟩ : ∃ L, L = num (xs.take 4) := ⟨_, rfl⟩
        rw [← hLd] at h5 h6 ⊢
        have l4 : (xs.drop 4).length = xs.length - 4 := by simp
        have hf := fld_lim L
        have hlt : ((xs.drop 4).take L).length = L := by rw [List.length_take]; omega
        refine ⟨?_, by omega⟩
        unfold textB
        rw [hlt, hLd, be_num 4 _ (by simp; omega) (hL.take 4), ← hLd]
        have hz : ((xs.drop 4).drop L).take (fld L - L) = List.replicate (fld L - L) 0 := by
          refine List.eq_replicate_iff.2 ⟨by simp; omega, fun b hb => ?_⟩
          have := List.all_eq_true.1 h6 b hb
          simpa using this
        rw [← hz, List.append_assoc, List.append_assoc]
        have e1 : (xs.drop 4).drop (fld L) = ((xs.drop 4).drop L).drop (fld L - L) := by rw [List.drop_drop (l := xs.drop 4), show L + (fld L - L) = fld L by omega]
        rw [e1, List.take_append_drop, List.take_append_drop, List.take_append_drop]
      · cases h
/-- a field's first sixteen bytes -/
def hdr (x : El) : List Nat := be 1 (fir x) ++ be 1 0 ++ be 2 (szf x : Nat) ++ be 2 x.as_ ++ be 2 0 ++ be 4 (x.ts : Nat) ++ be 4 (x.fs : Nat)
theorem hdr_length (x : El) : (hdr x).length = 16 := by simp [hdr, be_length]
theorem extB_hdr (x : El) : extB x = hdr x ++ (textB x.xs ++ textB x.ys) := by simp [extB, hdr, List.append_assoc]
theorem hdr_eq (x : El) : hdr x = (fir x % 256).toNat :: 0 :: ((szf x : Int) / 256 % 256).toNat :: ((szf x : Int) % 256).toNat :: (x.as_ / 256 % 256).toNat :: (x.as_ % 256).toNat :: 0 :: 0 :: (be 4 (x.ts : Nat) ++ be 4 (x.fs : Nat)) := by
  simp [hdr, be1, be2]
/-- a field fit to be written and read -/
structure El.fit (x : El) : Prop where
  right : fieldB x = true
  one : x.xs.length = x.n
  two : x.ys.length = x.m
  ts : x.ts < 4294967296
  fs : x.fs < 4294967296
theorem El.fit.lims {x : El} (h : x.fit) : 1 ≤ x.op ∧ x.op ≤ 63 ∧ 0 ≤ x.as_ ∧ x.as_ ≤ 65535 ∧ x.n ≤ 2048 ∧ x.m ≤ 2048 := by
  have := h.right
  unfold fieldB wi at this
  simp only [Bool.and_eq_true, decide_eq_true_eq] at this
  omega
theorem fir_lim {x : El} (h : x.fit) : 0 ≤ fir x ∧ fir x < 256 ∧ (fir x).toNat % 64 = x.op.toNat ∧ decide (128 ≤ (fir x).toNat) = x.resp ∧ decide ((fir x).toNat / 64 % 2 = 1) = x.bad := by
  have := h.lims
  unfold fir
  cases x.resp <;> cases x.bad <;> simp <;> omega
theorem extB_length {x : El} (h : x.fit) : (extB x).length = szf x := by
  rw [extB_hdr, List.length_append, List.length_append, hdr_length, textB_length, textB_length, h.one, h.two]
  unfold szf; omega
theorem ex_fwd {x : El} (h : x.fit) : exOf (extB x) = some (toEx x) := by
  have hl := h.lims
  have hf := fir_lim h
  have e0 : (extB x).drop 16 = textB x.xs ++ (textB x.ys ++ []) := by rw [extB_hdr, drop_pre (hdr_length x), List.append_nil]
  have hts : nm (extB x) 8 4 = x.ts := by
    unfold nm
    rw [extB_hdr, hdr_eq]
    simp only [List.cons_append, List.append_assoc, List.drop_succ_cons, List.drop_zero]
    rw [take_pre (be_length 4 _), num_be 4 _ (by have := h.ts; omega)]
  have hfs : nm (extB x) 12 4 = x.fs := by
    unfold nm
    rw [extB_hdr, hdr_eq]
    simp only [List.cons_append, List.append_assoc, List.drop_succ_cons, List.drop_zero]
    rw [show (be 4 (x.ts : Int) ++ (be 4 (x.fs : Int) ++ (textB x.xs ++ textB x.ys))).drop 4 = be 4 (x.fs : Int) ++ (textB x.xs ++ textB x.ys) from drop_pre (be_length 4 _), take_pre (be_length 4 _), num_be 4 _ (by have := h.fs; omega)]
  have has : nm (extB x) 4 2 = x.as_.toNat := by
    unfold nm
    rw [extB_hdr, hdr_eq]
    simp only [List.cons_append, List.append_assoc, List.drop_succ_cons, List.drop_zero, List.take_succ_cons, List.take_zero]
    simp [num]; omega
  have g0 : (extB x).getD 0 0 = (fir x % 256).toNat := by rw [extB_hdr, hdr_eq]; rfl
  have g1 : (extB x).getD 1 0 = 0 := by rw [extB_hdr, hdr_eq]; rfl
  have g6 : (extB x).getD 6 0 = 0 := by rw [extB_hdr, hdr_eq]; rfl
  have g7 : (extB x).getD 7 0 = 0 := by rw [extB_hdr, hdr_eq]; rfl
  have hlen : (extB x).length ≠ 0 := by rw [extB_length h]; unfold szf; omega
  unfold exOf
  rw [if_neg (by simp only [g1, g6, g7]; simpa using hlen), e0, txt_fwd _ _ (by rw [h.one]; omega)]
  simp only []
  rw [txt_fwd _ _ (by rw [h.two]; omega)]
  simp only [g0]
  rw [show fir x % 256 = fir x by omega, if_neg (by simp only [List.length_nil]; omega), hts, hfs, has, hf.2.2.1, hf.2.2.2.1, hf.2.2.2.2]
  rfl
theorem hi_lo (a b : Nat) (ha : a < 256) (hb : b < 256) : (((a * 256 + b : Nat) : Int) / 256 % 256).toNat = a ∧ (((a * 256 + b : Nat) : Int) % 256).toNat = b := by omega
theorem eight {α : Type} (xs : List α) (h : 8 ≤ xs.length) : ∃ a b c d e f g i r, xs = a :: b :: c :: d :: e :: f :: g :: i :: r := by
  match xs, h with
  | a :: b :: c :: d :: e :: f :: g :: i :: r, _ => exact ⟨a, b, c, d, e, f, g, i, r, rfl⟩
/-- a field that is read was written, and is right -/
theorem ex_rev {xs : List Nat} {x : Ex} (hL : Lim 256 xs) (hs : xs.length = nm xs 2 2) (h : exOf xs = some x) : (exEl x none 0 none 0).fit ∧ extB (exEl x none 0 none 0) = xs := by
  unfold exOf at h
  split at h
  · cases h
  · rename_i hb
    split at h
    · cases h
    · rename_i t r h1
      split at h
      · cases h
      · rename_i t2 r2 h2
        split at h
        · cases h
        · rename_i h3
          have q1 := txt_rev (hL.drop 16) h1
          have hLr : Lim 256 r := fun y hy => hL y (List.mem_of_mem_drop (by rw [q1.1]; exact List.mem_append_right _ hy))
          have q2 := txt_rev hLr h2
          have r20 : r2 = [] := List.eq_nil_of_length_eq_zero (by omega)
          subst r20
          rw [List.append_nil] at q2
          have hlen : 24 ≤ xs.length := by
            have := congrArg List.length q1.1
            rw [q2.1] at this
            rw [List.length_drop, List.length_append, textB_length, textB_length] at this
            omega
          obtain ⟨b0, b1, b2, b3, b4, b5, b6, b7, rest, rfl⟩ := eight xs (by omega)
          cases h
          have l0 := hL b0 (by simp)
          have l2 := hL b2 (by simp)
          have l3 := hL b3 (by simp)
          have l4 := hL b4 (by simp)
          have l5 := hL b5 (by simp)
          simp only [not_or, Nat.not_lt] at hb h3
          simp only [List.getD_cons_succ, List.getD_cons_zero, Decidable.not_not] at hb h3
          obtain ⟨-, rfl, rfl, rfl⟩ := hb
          have n4 : nm (b0 :: 0 :: b2 :: b3 :: b4 :: b5 :: 0 :: 0 :: rest) 4 2 = b4 * 256 + b5 := by simp [nm, num]
          have n2 : nm (b0 :: 0 :: b2 :: b3 :: b4 :: b5 :: 0 :: 0 :: rest) 2 2 = b2 * 256 + b3 := by simp [nm, num]
          have n8 : nm (b0 :: 0 :: b2 :: b3 :: b4 :: b5 :: 0 :: 0 :: rest) 8 4 = num (rest.take 4) := by simp [nm]
          have n12 : nm (b0 :: 0 :: b2 :: b3 :: b4 :: b5 :: 0 :: 0 :: rest) 12 4 = num ((rest.drop 4).take 4) := by simp [nm]
          rw [n2] at hs
          have hrl : 16 ≤ rest.length := by simp at hlen; omega
          have hLrest : Lim 256 rest := fun y hy => hL y (by simp [hy])
          have lt1 : (rest.take 4).length = 4 := by simp; omega
          have lt2 : ((rest.drop 4).take 4).length = 4 := by simp; omega
          have hn8 := num_lt _ (hLrest.take 4)
          have hn12 := num_lt _ ((hLrest.drop 4).take 4)
          rw [lt1] at hn8
          rw [lt2] at hn12
          simp only [List.getD_cons_zero, n4, n8, n12]
          have hfit : (exEl ⟨b0 % 64, decide (128 ≤ b0), decide (b0 / 64 % 2 = 1), b4 * 256 + b5, num (rest.take 4), num ((rest.drop 4).take 4), t, t2⟩ none 0 none 0).fit :=
            ⟨by unfold fieldB wi exEl; simp only [Bool.and_eq_true, decide_eq_true_eq]; omega, rfl, rfl, hn8, hn12⟩
          refine ⟨hfit, ?_⟩
          have hd16 : (b0 :: 0 :: b2 :: b3 :: b4 :: b5 :: 0 :: 0 :: rest).drop 16 = rest.drop 8 := rfl
          rw [hd16, q2.1] at q1
          have hsz : szf (exEl ⟨b0 % 64, decide (128 ≤ b0), decide (b0 / 64 % 2 = 1), b4 * 256 + b5, num (rest.take 4), num ((rest.drop 4).take 4), t, t2⟩ none 0 none 0) = b2 * 256 + b3 := by
            rw [← hs]
            have := congrArg List.length q1.1
            rw [List.length_drop, List.length_append, textB_length, textB_length] at this
            simp only [List.length_cons, szf, exEl]
            omega
          have hfir : (fir (exEl ⟨b0 % 64, decide (128 ≤ b0), decide (b0 / 64 % 2 = 1), b4 * 256 + b5, num (rest.take 4), num ((rest.drop 4).take 4), t, t2⟩ none 0 none 0) % 256).toNat = b0 := by
            unfold fir exEl
            simp only [decide_eq_true_eq]
            split <;> split <;> omega
          rw [extB_hdr, hdr_eq, hfir, hsz]
          simp only [exEl]
          rw [be_num 4 (rest.take 4) lt1 (hLrest.take 4), be_num 4 ((rest.drop 4).take 4) lt2 ((hLrest.drop 4).take 4), ← q1.1]
          have d1 := (hi_lo b2 b3 l2 l3).1
          have d2 := (hi_lo b2 b3 l2 l3).2
          have d3 := (hi_lo b4 b5 l4 l5).1
          have d4 := (hi_lo b4 b5 l4 l5).2
          rw [d1, d2, d3, d4]
          simp only [List.cons_append, List.append_assoc]
          rw [show rest.drop 8 = (rest.drop 4).drop 4 by rw [List.drop_drop], List.take_append_drop, List.take_append_drop]
end Go.Proofs.Ytompggkdjbkjjaa.Wi
