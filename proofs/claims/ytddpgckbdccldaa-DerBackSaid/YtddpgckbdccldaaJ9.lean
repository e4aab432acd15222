/- What is read is right, and is written as it stood (pure). -/
import Derived.Test.YtddpgckbdccldaaJa
namespace Go.Proofs.Ytddpgckbdccldaa
set_option linter.unusedVariables false
set_option linter.unusedSimpArgs false
set_option maxRecDepth 100000
theorem drop_get {bs : List Nat} {a : Nat} (h : a < bs.length) : bs.drop a = bs.getD a 0 :: bs.drop (a + 1) := by
  rw [List.drop_eq_getElem_cons h, List.getD_eq_getElem?_getD, List.getElem?_eq_getElem h]
  rfl
theorem getD_lim {bs : List Nat} (hL : Lim 256 bs) (a : Nat) : bs.getD a 0 < 256 := by
  rw [List.getD_eq_getElem?_getD]
  cases h : bs[a]? with
  | none => simp
  | some x => exact hL x (List.mem_of_getElem? h)
theorem more_inv {bs : List Nat} (hL : Lim 256 bs) {f : Nat} : ∀ (k a acc x a' : Nat), a ≤ bs.length → moreM bs f k a acc = .ok (x, a') →
    128 ≤ x ∧ a' = a + k ∧ a' ≤ bs.length ∧ bs.drop a = bts x k ++ bs.drop a' ∧ x / 256 ^ k = acc ∧ (1 ≤ k → 256 ^ (k - 1) ≤ x)
  | 0, a, acc, x, a', ha, h => by
    rw [moreM] at h
    split at h
    · cases h
    · cases h
      exact ⟨by omega, rfl, ha, rfl, by simp, fun h => by omega⟩
  | i + 1, a, acc, x, a', ha, h => by
    rw [moreM] at h
    split at h
    · cases h
    · split at h
      · cases h
      · next h1 h2 =>
        obtain ⟨g1, g2, g3, g4, g5, g6⟩ := more_inv hL i (a + 1) _ x a' (by omega) h
        have hb := getD_lim hL a
        have h0 : 0 < x / 256 ^ i := by omega
        refine ⟨g1, by omega, g3, ?_, ?_, fun _ => ?_⟩
        · rw [drop_get (by omega), g4, bts, g5]
          rw [show (acc * 256 + bs.getD a 0) % 256 = bs.getD a 0 by omega]
          rfl
        · rw [Nat.pow_succ, ← Nat.div_div_eq_div_mul, g5]; omega
        · show 256 ^ i ≤ x
          rcases Nat.lt_or_ge x (256 ^ i) with q | q
          · rw [Nat.div_eq_of_lt q] at h0; omega
          · exact q
theorem len_inv {bs : List Nat} (hL : Lim 256 bs) {a x a' : Nat} (ha : a ≤ bs.length) (h : lenM bs a = .ok (x, a')) : a' = a + lbl x ∧ a' ≤ bs.length ∧ bs.drop a = lb x ++ bs.drop a' := by
  unfold lenM at h
  split at h
  · cases h
  · next h0 =>
    split at h
    · next h1 =>
      cases h
      unfold lbl lb
      rw [if_pos h1, if_pos h1]
      exact ⟨rfl, by omega, drop_get (by omega)⟩
    · next h1 =>
      split at h
      · cases h
      · next h2 =>
        obtain ⟨k, hk⟩ : ∃ k, bs.getD a 0 = 128 + k := ⟨bs.getD a 0 - 128, by omega⟩
        rw [show bs.getD a 0 - 128 = k by omega] at h
        obtain ⟨g1, g2, g3, g4, g5, g6⟩ := more_inv hL k (a + 1) 0 x a' (by omega) h
        have hk1 : 1 ≤ k := by omega
        have hlow := g6 hk1
        have hup : x < 256 ^ k := by
          rcases Nat.lt_or_ge x (256 ^ k) with q | q
          · exact q
          · have := Nat.div_pos q (Nat.pow_pos (n := k) (show 0 < 256 by decide)); omega
        have e : (bl x + 7) / 8 = k := by
          have h3 : bl x ≤ 8 * k := bl_le (by rw [Nat.pow_mul]; exact hup)
          have h4 : 8 * (k - 1) < bl x := by
            rcases Nat.lt_or_ge (8 * (k - 1)) (bl x) with q | q
            · exact q
            · have h5 := bl_up x
              have h6 : 2 ^ bl x ≤ 2 ^ (8 * (k - 1)) := Nat.pow_le_pow_right (by decide) q
              rw [Nat.pow_mul] at h6
              have h7 : (2 ^ 8) ^ (k - 1) = 256 ^ (k - 1) := rfl
              omega
          omega
        unfold lbl lb
        rw [if_neg (by omega), if_neg (by omega), e]
        refine ⟨by omega, g3, ?_⟩
        rw [drop_get (by omega), hk, g4]
        rfl
theorem tg_byte {x : Nat} (h : tg (x : Int) = true) : (x : Int) % 256 = (x : Int) ∧ (hk (x : Int) = false → (x : Int) ≠ 48 ∧ (x : Int) ≠ 49) := by
  unfold tg at h
  unfold hk at h ⊢
  simp only [Bool.or_eq_true, beq_iff_eq] at h
  refine ⟨by omega, fun h2 => ?_⟩
  simp only [Bool.or_eq_false_iff, beq_eq_false_iff_ne] at h2
  exact h2
/-- a value stands at a place, and leaves so much room -/
structure Stands (bs : List Nat) (L a h around : Nat) (t : T) (a' h' : Nat) : Prop where
  suit : suitM t = true
  row : bs.drop a = byT t ++ bs.drop a'
  at_ : a' = a + sizT t
  room : room t L (4096 - h) = some (4096 - h')
  in_ : a' ≤ around
  lim : h' ≤ 4096
theorem kids_inv {bs : List Nat} {L to : Nat} (hto : to ≤ bs.length) (HV : ∀ a h k a' h', h ≤ 4096 → valM bs L a h to = .ok (k, a', h') → a < to → Stands bs L a h to k a' h') :
    ∀ (f a h : Nat) (k0 : List T) (p0 : List (Nat × Nat)) {ks' : List T} {ps' : List (Nat × Nat)} {a' h' : Nat}, a ≤ to → to - a ≤ f → h ≤ 4096 → kidsM (valM bs L) to f a h k0 p0 = .ok (ks', ps', a', h') →
    ∃ ks, ks' = k0 ++ ks ∧ ps' = p0 ++ plsL a ks ∧ suitL ks = true ∧ bs.drop a = byL ks ++ bs.drop to ∧ to = a + lenL ks ∧ roomL ks L (4096 - h) = some (4096 - h') ∧ h' ≤ 4096 ∧ a' = to
  | 0, a, h, k0, p0, ks', ps', a', h', ha, hf, hh, he => by
    simp only [kidsM] at he
    cases he
    obtain rfl : a = to := by omega
    exact ⟨[], by simp, by simp [plsL], rfl, by simp [byL], by simp [lenL], by simp [roomL], hh, rfl⟩
  | f + 1, a, h, k0, p0, ks', ps', a', h', ha, hf, hh, he => by
    simp only [kidsM] at he
    split at he
    · next hlt =>
      split at he
      · cases he
      · next k a2 h2 hv =>
        obtain ⟨s1, s2, s3, s4, s5, s6⟩ := HV a h k a2 h2 hh hv hlt
        have hk2 : 1 ≤ sizT k := by unfold sizT; omega
        obtain ⟨ks, r1, r2, r3, r4, r5, r6, r7, r8⟩ := kids_inv hto HV f a2 h2 _ _ s5 (by omega) s6 he
        refine ⟨k :: ks, by simp [r1], by rw [r2, plsL, s3]; simp, by rw [suitL, s1, r3]; rfl, by rw [s2, r4, byL, List.append_assoc], by rw [lenL_cons]; omega, ?_, r7, r8⟩
        rw [roomL, s4]
        exact r6
    · cases he
      obtain rfl : a = to := by omega
      exact ⟨[], by simp, by simp [plsL], rfl, by simp [byL], by simp [lenL], by simp [roomL], hh, rfl⟩
theorem val_inv {bs : List Nat} (hL : Lim 256 bs) : ∀ (L a h around : Nat) {t : T} {a' h' : Nat}, h ≤ 4096 → a ≤ bs.length → around ≤ bs.length → valM bs L a h around = .ok (t, a', h') → Stands bs L a h around t a' h'
  | L, a, h, around, t, a', h', hh, ha, har, he => by
    unfold valM at he
    split at he
    · cases he
    · next x ht =>
      obtain ⟨t1, t2, t3, hL0, h4⟩ := tagM_ok ht
      obtain ⟨m1, m2⟩ := tg_byte t3
      split at he
      · cases he
      · next to a1 hend =>
        obtain ⟨e1, e2, e3, z, hz, ez⟩ := endM_ok hend
        obtain ⟨l1, l2, l3⟩ := len_inv hL (by omega) hz
        have hrow : bs.drop a = x :: (lb z ++ bs.drop a1) := by rw [drop_get (by omega), t2, l3]
        obtain ⟨L, rfl⟩ : ∃ l, L = l + 1 := ⟨L - 1, by omega⟩
        split at he
        · next hkx =>
          simp only at he
          split at he
          · cases he
          · next ks ps a2 h2 hk =>
            obtain ⟨ks2, r1, r2, r3, r4, r5, r6, r7, r8⟩ := kids_inv (by omega) (fun a h k a' h' hh hv hlt => val_inv hL L a h to hh (by omega) (by omega) hv) _ _ _ _ _ e2 (Nat.le_refl _) (by omega) hk
            simp only [List.nil_append] at r1 r2
            subst r1 r2
            split at he
            · cases he
            · next hns =>
              cases he
              have hlen : lenT (T.mk (x : Int) [] ks) = z := by simp [lenT]; omega
              refine ⟨?_, ?_, ?_, ?_, by omega, r7⟩
              · rw [suitM, if_pos hkx, r3]
                by_cases h49 : (x : Int) = 49
                · have hr := rises_of ks a1 _ r3 r4
                  have : risesP bs (plsL a1 ks) = true := by
                    cases hq : risesP bs (plsL a1 ks) with
                    | true => rfl
                    | false => exact absurd ⟨by omega, hq⟩ hns
                  rw [hr] at this
                  rw [this]; simp
                · simp [h49]
              · rw [byT_eq, hlen, hrow, r4, r8]
                simp only [T.tag, body, T.bs, T.ks, List.nil_append]
                rw [m1]
                simp
              · unfold sizT; rw [hlen]; omega
              · rw [show 4096 - h = (4096 - (h + 1)) + 1 by omega]
                simp only [room]
                exact r6
        · next hkx =>
          split at he
          · next hmay =>
            cases he
            have hln : ((bs.drop a1).take (a' - a1)).length = z := by rw [List.length_take, List.length_drop]; omega
            have hlen : lenT (T.mk (x : Int) ((bs.drop a1).take (a' - a1)) []) = z := by simp only [lenT, lenL]; omega
            refine ⟨?_, ?_, ?_, ?_, by omega, by omega⟩
            · rw [suitM, if_neg hkx, hmay]; rfl
            · rw [byT_eq, hlen, hrow]
              simp only [T.tag, body, T.bs, T.ks, byL, List.append_nil]
              rw [m1]
              have : bs.drop a1 = (bs.drop a1).take (a' - a1) ++ bs.drop a' := by
                conv => lhs; rw [← List.take_append_drop (a' - a1) (bs.drop a1)]
                rw [List.drop_drop, show a1 + (a' - a1) = a' by omega]
              rw [List.cons_append, List.append_assoc, ← this]
              simp
            · unfold sizT; rw [hlen]; omega
            · rw [show 4096 - h = (4096 - (h + 1)) + 1 by omega]
              simp only [room, roomL]
          · cases he
/-- what is read is right, and is written as it stood -/
theorem read_right {bs : List Nat} {t : T} (hL : Lim 256 bs) (h : readM bs = .ok t) : rightM t = true ∧ byT t = bs ∧ sizT t = bs.length ∧ bs.length ≤ 65535 := by
  unfold readM at h
  split at h
  · cases h
  · next h1 =>
    split at h
    · cases h
    · next t' a' h' hv =>
      split at h
      · cases h
      · next h2 =>
        cases h
        obtain ⟨s1, s2, s3, s4, s5, s6⟩ := val_inv hL 16 0 0 bs.length (by omega) (by omega) (Nat.le_refl _) hv
        have e : a' = bs.length := by omega
        rw [e, List.drop_length, List.append_nil, List.drop_zero] at s2
        refine ⟨?_, s2.symm, by omega, by omega⟩
        unfold rightM
        rw [show (4096 : Nat) - 0 = 4096 from rfl] at s4
        rw [s4, s1]; rfl
theorem more_err {bs : List Nat} {f : Nat} : ∀ (k a acc : Nat) {p q : Nat}, f ≤ bs.length → moreM bs f k a acc = .error (p, q) → p ≤ bs.length
  | 0, a, acc, p, q, hf, h => by
    rw [moreM] at h
    split at h
    · cases h; exact hf
    · cases h
  | i + 1, a, acc, p, q, hf, h => by
    rw [moreM] at h
    split at h
    · cases h; exact Nat.le_refl _
    · split at h
      · cases h; exact hf
      · exact more_err i _ _ hf h
theorem len_err {bs : List Nat} {a p q : Nat} (ha : a ≤ bs.length) (h : lenM bs a = .error (p, q)) : p ≤ bs.length := by
  unfold lenM at h
  split at h
  · cases h; exact Nat.le_refl _
  · split at h
    · cases h
    · split at h
      · cases h; exact ha
      · exact more_err _ _ _ ha h
theorem end_err {bs : List Nat} {a around p q : Nat} (ha : a ≤ bs.length) (h : endM bs a around = .error (p, q)) : p ≤ bs.length := by
  unfold endM at h
  split at h
  · next f hf => cases h; exact len_err ha hf
  · split at h
    · cases h
    · split at h
      · cases h; exact ha
      · cases h; exact Nat.le_refl _
theorem kids_err {bs : List Nat} {L to p q : Nat} (hto : to ≤ bs.length) (HV : ∀ a h, a ≤ bs.length → h ≤ 4096 → valM bs L a h to = .error (p, q) → p ≤ bs.length) (HA : ∀ a h k a' h', h ≤ 4096 → valM bs L a h to = .ok (k, a', h') → a' ≤ to ∧ h' ≤ 4096) :
    ∀ (f a h : Nat) (k0 : List T) (p0 : List (Nat × Nat)), a ≤ to → h ≤ 4096 → kidsM (valM bs L) to f a h k0 p0 = .error (p, q) → p ≤ bs.length
  | 0, a, h, k0, p0, ha, hh, he => by simp only [kidsM] at he; cases he
  | f + 1, a, h, k0, p0, ha, hh, he => by
    simp only [kidsM] at he
    split at he
    · split at he
      · next f' hv => cases he; exact HV a h (by omega) hh hv
      · next k a2 h2 hv =>
        obtain ⟨g1, g2⟩ := HA a h k a2 h2 hh hv
        exact kids_err hto HV HA f a2 h2 _ _ g1 g2 he
    · cases he
theorem val_err {bs : List Nat} : ∀ (L a h around : Nat) {p q : Nat}, a ≤ bs.length → around ≤ bs.length → h ≤ 4096 → valM bs L a h around = .error (p, q) → p ≤ bs.length
  | L, a, h, around, p, q, ha, har, hh, he => by
    unfold valM at he
    split at he
    · next f ht =>
      cases he
      unfold tagM at ht
      split at ht
      · cases ht; exact ha
      · split at ht
        · cases ht; exact ha
        · split at ht
          · cases ht; exact ha
          · split at ht
            · cases ht; exact ha
            · cases ht
    · next x ht =>
      obtain ⟨t1, t2, t3, hL0, h4⟩ := tagM_ok ht
      split at he
      · next f hend => cases he; exact end_err (by omega) hend
      · next to a1 hend =>
        obtain ⟨e1, e2, e3, z, hz, ez⟩ := endM_ok hend
        obtain ⟨L, rfl⟩ : ∃ l, L = l + 1 := ⟨L - 1, by omega⟩
        split at he
        · simp only at he
          split at he
          · next f hk =>
            cases he
            exact kids_err (by omega) (fun a h ha hh hv => val_err L a h to ha (by omega) hh hv) (fun a h k a' h' hh hv => by have := valM_adv L a h to hh hv; exact ⟨this.2.1, this.2.2.2⟩) _ _ _ _ _ e2 (by omega) hk
          · split at he
            · cases he; exact ha
            · cases he
        · split at he
          · cases he
          · cases he; exact ha
/-- a fault stands within the bytes, or at their end -/
theorem read_err {bs : List Nat} {p q : Nat} (h : readM bs = .error (p, q)) : p ≤ bs.length := by
  unfold readM at h
  split at h
  · cases h; omega
  · split at h
    · next f hv => cases h; exact val_err 16 0 0 bs.length (by omega) (Nat.le_refl _) (by omega) hv
    · next t a' h' hv =>
      split at h
      · cases h; omega
      · cases h
end Go.Proofs.Ytddpgckbdccldaa
