/- wire: what is written is what is read: packets. -/
import Derived.Test.YtompggkdjbkjjaaWiS2
import Derived.Test.YtompggkdjbkjjaaWiR10
namespace Go.Proofs.Ytompggkdjbkjjaa.Wi
open Go.RowKit
set_option linter.unusedVariables false
set_option linter.unusedSimpArgs false
set_option maxRecDepth 100000
theorem flat_length : ∀ (l : List El), (∀ x ∈ l, x.fit) → (l.flatMap extB).length = szs l
  | [], _ => rfl
  | x :: l, h => by rw [List.flatMap_cons, List.length_append, extB_length (h x (by simp)), szs_cons, flat_length l fun y hy => h y (by simp [hy])]
theorem macW_length (p : Pk) (ms : List Nat) : (macW p ms).length = if p.m.has then 4 + ms.length else 0 := by
  unfold macW; split <;> simp [be_length]
theorem mac_len {p : Pk} {ms : List Nat} (h : macB p.m = true) (hm : ms.length = p.m.n) : (macW p ms).length = 0 ∨ (macW p ms).length = 4 ∨ (macW p ms).length = 20 := by
  rw [macW_length]
  unfold macB at h
  split
  · rename_i hh
    rw [hh] at h
    simp at h
    omega
  · exact .inl rfl
theorem packW_length {p : Pk} {l : List El} {ms : List Nat} (hf : ∀ x ∈ l, x.fit) (hm : ms.length = p.m.n) : (packW p l ms).length = szp p l := by
  unfold packW szp
  rw [List.length_append, List.length_append, headW_length, flat_length l hf, macW_length, hm]
/-- a packet that was written is read -/
theorem prs_fwd {p : Pk} {l : List El} {ms : List Nat} (hr : rightB p l = true) (hl : l.length = p.n) (hf : ∀ x ∈ l, x.fit) (hk : p.h.ok) (hm : ms.length = p.m.n) :
    prs (packW p l ms) = .ok p.h (l.map toEx) (48 + szs l) := by
  obtain ⟨rh, rm, rn, rf, rs⟩ := right_parts hr
  have hlen := packW_length (p := p) (ms := ms) hf hm
  have hml := mac_len rm hm
  have hd : hdOf (packW p l ms) = p.h := by unfold packW; rw [List.append_assoc]; exact head_fwd rh hk _
  have hge : 48 + szs l + (macW p ms).length = szp p l := by
    rw [← hlen]; unfold packW
    rw [List.length_append, List.length_append, headW_length, flat_length l hf]
  have hd48 : (packW p l ms).drop 48 = l.flatMap extB ++ macW p ms := by unfold packW; rw [List.append_assoc]; exact drop_pre (headW_length _)
  have hlb : l.length ≤ szs l := by
    clear hd48 hge hd hml hlen hm rf hr
    have : ∀ l : List El, l.length ≤ szs l := fun l => by
      induction l with
      | nil => simp [szs_nil]
      | cons x l ih => rw [szs_cons, List.length_cons]; have := szf_ge x; omega
    exact this l
  have hgo := go_fwd (packW p l ms) (macW p ms) (by omega) l (packW p l ms).length 48 [] hf (by omega) (by omega) hd48 (by simp; omega)
  have hb := rh
  unfold headB at hb
  simp only [Bool.and_eq_true] at hb
  unfold prs
  rw [if_neg (by omega), if_neg (by omega), hd, if_neg (by rw [hb.2.1]; decide), if_neg (by rw [hb.2.2.1]; decide), if_neg (by rw [hb.2.2.2.1]; decide), hgo]
  simp only [List.nil_append]
  rw [if_pos]
  rw [hlen]
  unfold macN
  simp only [Bool.or_eq_true, beq_iff_eq]
  omega
/-- what is read was written -/
theorem prs_rev {xs : List Nat} {h : Hd} {es : List Ex} {en : Nat} (hL : Lim 256 xs) (hp : prs xs = .ok h es en) :
    h = hdOf xs ∧ headB h = true ∧ (∀ x ∈ es, (exE x).fit) ∧ es.length ≤ 8 ∧ xs = headW h ++ (es.map exE).flatMap extB ++ xs.drop en ∧ en = 48 + szs (es.map exE) ∧ en ≤ xs.length ∧ xs.length ≤ 8192 ∧ macN (xs.length - en) = true := by
  unfold prs at hp
  split at hp
  · cases hp
  · rename_i h1
    split at hp
    · cases hp
    · rename_i h2
      split at hp
      · cases hp
      · rename_i h3
        split at hp
        · cases hp
        · rename_i h4
          split at hp
          · cases hp
          · rename_i h5
            split at hp
            · cases hp
            · rename_i es' en' hgo
              split at hp
              · rename_i hmac
                cases hp
                simp only [Bool.not_eq_false] at h3 h4 h5
                obtain ⟨l, q1, q2, q3, q4, q5, q6, q7⟩ := go_rev xs hL xs.length 48 [] _ _ (by omega) (by omega) (by simp) hgo
                rw [List.nil_append] at q1
                subst q1
                refine ⟨rfl, headB_of hL h3 h4 h5, q2, q7, ?_, q6, q4, by omega, hmac⟩
                rw [head_rev hL (by omega), List.append_assoc, ← q3, List.take_append_drop]
              · cases hp
theorem els_map {els : List El} {es : List Ex} (h : els.map toEx = es) (hp : ∀ x ∈ els, 0 ≤ x.op ∧ 0 ≤ x.as_) (h1 : ∀ x ∈ els, x.xs.length = x.n) (h2 : ∀ x ∈ els, x.ys.length = x.m) (hf : ∀ x ∈ es, (exE x).fit) :
    (es.map exE).flatMap extB = els.flatMap extB ∧ szs (es.map exE) = szs els ∧ ∀ x ∈ els, x.fit := by
  subst h
  induction els with
  | nil => exact ⟨rfl, rfl, fun x hx => by cases hx⟩
  | cons x els ih =>
    obtain ⟨i1, i2, i3⟩ := ih (fun y hy => hp y (by simp [hy])) (fun y hy => h1 y (by simp [hy])) (fun y hy => h2 y (by simp [hy])) (fun y hy => hf y (by simp at hy ⊢; exact .inr hy))
    obtain ⟨e1, e2, -, e4⟩ := ee (hp x (by simp)) (h1 x (by simp)) (h2 x (by simp))
    refine ⟨?_, ?_, ?_⟩
    · simp only [List.map_cons, List.flatMap_cons]
      rw [e1, i1]
    · simp only [List.map_cons, szs_cons]
      rw [e2, i2]
    · intro y hy
      rcases List.mem_cons.1 hy with rfl | hy
      · exact e4 (hf _ (by simp))
      · exact i3 y hy
/-- the Mac's bytes -/
theorem mac_rev {w : World} {lo : Nat} {xs : List Nat} {m : Mc} (hm : McOf w lo xs m) (hL : Lim 256 xs) (hn : macN xs.length = true) (q : Pk) (hq : q.m = m) : ∃ ms : List Nat, ms.length = m.n ∧ Lim 256 ms ∧ macW q ms = xs ∧ macB m = true ∧ (if m.has then 4 + m.n else 0) = xs.length ∧ Nb w w.heap.size m.A m.n m.c ms ∧ m.key < 4294967296 ∧ (∀ ad, m.A = some ad → lo ≤ ad.block) := by
  subst hq
  rcases hm with ⟨h0, e⟩ | ⟨h0, A, c, e, hfr, hb⟩
  · have : xs = [] := List.eq_nil_of_length_eq_zero h0
    subst this
    exact ⟨[], by rw [e]; rfl, Lim.nil _, by unfold macW; rw [e]; rfl, by rw [e]; rfl, by rw [e]; rfl, by rw [e]; exact Nb.nil _ _ 0 (by omega) none, by rw [e]; decide, fun ad ea => by rw [e] at ea; cases ea⟩
  · have h4 : xs.length = 4 ∨ xs.length = 20 := by
      unfold macN at hn
      simp only [Bool.or_eq_true, beq_iff_eq] at hn
      omega
    have hk := num_lt _ (hL.take 4)
    rw [show (xs.take 4).length = 4 by simp; omega] at hk
    refine ⟨xs.drop 4, by rw [e, List.length_drop], hL.drop 4, ?_, ?_, ?_, by rw [e]; exact hb, by rw [e]; exact hk, fun ad ea => hfr ad (by rw [e] at ea; exact ea)⟩
    · unfold macW
      rw [e]
      simp only [if_true]
      rw [be_num 4 _ (by simp; omega) (hL.take 4), List.take_append_drop]
    · rw [e]; unfold macB; simp only [if_true, decide_eq_true_eq]; omega
    · rw [e]; simp only [if_true]; omega
/-- what was read is right, and is written as it stood -/
theorem back_of {w : World} {lo : Nat} {xs : List Nat} {h : Hd} {es : List Ex} {en : Nat} (hL : Lim 256 xs) (hp : prs xs = .ok h es en) {els : List El} (he : els.map toEx = es) (hpos : ∀ x ∈ els, 0 ≤ x.op ∧ 0 ≤ x.as_) (h1 : ∀ x ∈ els, x.xs.length = x.n) (h2 : ∀ x ∈ els, x.ys.length = x.m)
    (A : Option Addr) (c : Nat) {m : Mc} (hm : McOf w lo (xs.drop en) m) :
    ∃ ms : List Nat, ms.length = m.n ∧ Lim 256 ms ∧ Nb w w.heap.size m.A m.n m.c ms ∧ packW ⟨h, A, es.length, c, m⟩ els ms = xs ∧ rightB ⟨h, A, es.length, c, m⟩ els = true ∧ (∀ x ∈ els, x.fit) ∧ h.ok ∧ m.key < 4294967296 ∧ (∀ ad, m.A = some ad → lo ≤ ad.block) := by
  obtain ⟨q1, q2, q3, q4, q5, q6, q7, q8, q9⟩ := prs_rev hL hp
  obtain ⟨e1, e2, e3⟩ := els_map he hpos h1 h2 q3
  obtain ⟨ms, m1, m2, m3, m4, m5, m6, m7, m8⟩ := mac_rev hm (hL.drop en) (by rw [List.length_drop]; exact q9) ⟨h, A, es.length, c, m⟩ rfl
  rw [List.length_drop] at m5
  refine ⟨ms, m1, m2, m6, ?_, ?_, e3, by rw [q1]; exact hdOf_ok hL, m7, m8⟩
  · unfold packW
    rw [m3, ← e1]
    exact q5.symm
  · unfold rightB
    rw [Bool.and_eq_true, Bool.and_eq_true, Bool.and_eq_true, Bool.and_eq_true]
    refine ⟨q2, m4, decide_eq_true q4, List.all_eq_true.2 fun x hx => (e3 x hx).right, decide_eq_true ?_⟩
    unfold szp
    dsimp only
    rw [m5, ← e2]
    omega
/-- of every packet the bytes' number parts by four -/
theorem ok_mod {xs : List Nat} {h : Hd} {es : List Ex} {en : Nat} (hL : Lim 256 xs) (hp : prs xs = .ok h es en) : xs.length % 4 = 0 := by
  obtain ⟨q1, q2, q3, q4, q5, q6, q7, q8, q9⟩ := prs_rev hL hp
  have := szs_mod (es.map exE)
  unfold macN at q9
  simp only [Bool.or_eq_true, beq_iff_eq] at q9
  omega
theorem szp_mod {p : Pk} {l : List El} (h : macB p.m = true) : szp p l % 4 = 0 := by
  have := szs_mod l
  unfold macB at h
  unfold szp
  split at h <;> simp at h <;> split <;> simp_all <;> omega
end Go.Proofs.Ytompggkdjbkjjaa.Wi
