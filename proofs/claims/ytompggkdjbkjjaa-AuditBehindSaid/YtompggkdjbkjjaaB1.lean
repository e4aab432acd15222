/- audit: whose cookie is asked for, thefts, the first of them (plain). -/
import Derived.Test.YtompggkdjbkjjaaA16
import Derived.Test.YtompggkdjbkjjaaWiR12
namespace Go.Proofs.Ytompggkdjbkjjaa
set_option linter.unusedVariables false
set_option maxRecDepth 100000
/-- what a face says -/
abbrev Fm := Nat × List Nat
def knownF (F : List Fm) (a : Nat) : Option (List Nat) := (F.find? fun f => f.1 == a).map Prod.snd
theorem knownF_snoc (F : List Fm) (f : Fm) (a : Nat) : knownF (F ++ [f]) a = match knownF F a with | some t => some t | none => if f.1 = a then some f.2 else none := by
  unfold knownF
  rw [List.find?_append]
  cases h : F.find? fun f => f.1 == a with
  | some x => simp
  | none =>
    simp only [Option.map_none, Option.none_or, List.find?_cons, List.find?_nil]
    by_cases e : f.1 = a
    · simp [e]
    · rw [show (f.1 == a) = false by simpa using e]; simp [e]
def exts (xs : List Nat) : List Wi.Ex := match Wi.prs xs with | .ok _ es _ => es | .bad _ _ => []
/-- does a field ask for a cookie by another key than the known one? -/
def otherB (F : List Fm) (p : Nat) (e : Wi.Ex) : Bool := decide (e.op = 4) && (match knownF F p with | none => true | some t => !decide (e.xs = t))
def asksB (F : List Fm) (x : Em) : Bool := (exts x.xs).any (otherB F x.p)
def theftB (F : List Fm) (x : Em) : Bool := decide (x.k = 2) && asksB F x
def oneT (F : List Fm) (E : List Em) (i : Nat) : List (Nat × Value) := match E[i]? with | some x => if theftB F x = true then [(i, ke x.h x.p)] else [] | none => []
def tfu (F : List Fm) (E : List Em) (j : Nat) : List (Nat × Value) := (List.range j).flatMap (oneT F E)
theorem tfu_succ (F : List Fm) (E : List Em) (j : Nat) : tfu F E (j + 1) = tfu F E j ++ oneT F E j := by
  unfold tfu; rw [List.range_succ, List.flatMap_append]; simp
theorem tfu_le (F : List Fm) (E : List Em) {i j : Nat} (h : i ≤ j) : ∃ l, tfu F E j = tfu F E i ++ l ∧ ∀ t ∈ l, i ≤ t.1 := by
  induction j with
  | zero => rw [show i = 0 by omega]; exact ⟨[], by simp, fun t ht => by cases ht⟩
  | succ j ih =>
    rcases Nat.lt_or_ge j i with h1 | h1
    · rw [show i = j + 1 by omega]; exact ⟨[], by simp, fun t ht => by cases ht⟩
    · obtain ⟨l, hl, hi⟩ := ih h1
      refine ⟨l ++ oneT F E j, by rw [tfu_succ, hl, List.append_assoc], fun t ht => ?_⟩
      rcases List.mem_append.1 ht with ht | ht
      · exact hi t ht
      · unfold oneT at ht
        split at ht
        · split at ht
          · simp at ht; subst ht; exact h1
          · cases ht
        · cases ht
theorem tfu_take (F : List Fm) (E : List Em) (n : Nat) : ∀ j, j ≤ n → tfu F (E.take n) j = tfu F E j := by
  intro j
  induction j with
  | zero => intro _; rfl
  | succ j ih =>
    intro h
    rw [tfu_succ, tfu_succ, ih (by omega)]
    congr 1
    unfold oneT
    rw [List.getElem?_take, if_pos (by omega)]
theorem tfu_lt (F : List Fm) (E : List Em) (j : Nat) : ∀ t ∈ tfu F E j, t.1 < j := by
  intro t ht
  obtain ⟨i, hi, h⟩ := List.mem_flatMap.1 ht
  have := List.mem_range.1 hi
  unfold oneT at h
  split at h
  · split at h
    · simp at h; subst h; exact this
    · cases h
  · cases h
theorem tfu_len (F : List Fm) (E : List Em) (j : Nat) : (tfu F E j).length ≤ j := by
  induction j with
  | zero => simp [tfu]
  | succ j ih =>
    rw [tfu_succ, List.length_append]
    have : (oneT F E j).length ≤ 1 := by
      unfold oneT
      split
      · split <;> simp
      · simp
    omega
theorem tfu_last (F : List Fm) {E : List Em} {j : Nat} {x : Em} (hx : E[j]? = some x) : tfu F E (j + 1) = tfu F E j ++ (if theftB F x = true then [(j, ke x.h x.p)] else []) := by
  rw [tfu_succ]; unfold oneT; rw [hx]
abbrev Fs := (Value → Int) × (Value → Bool)
/-- a theft more: the first one counts -/
noncomputable def stp (s : Fs) (t : Nat × Value) : Fs := if s.2 t.2 = true then s else (upd s.1 t.2 (t.1 : Int), upd s.2 t.2 true)
noncomputable def stf (L : List (Nat × Value)) : Fs := L.foldl stp (fun _ => 0, fun _ => false)
theorem stf_snoc (L : List (Nat × Value)) (t : Nat × Value) : stf (L ++ [t]) = stp (stf L) t := by simp [stf]
theorem stp_old {s : Fs} {t : Nat × Value} {q : Value} (h : s.2 q = true) : (stp s t).2 q = true ∧ (stp s t).1 q = s.1 q := by
  unfold stp
  split
  · exact ⟨h, rfl⟩
  · rename_i h2
    have hne : q ≠ t.2 := fun e => h2 (e ▸ h)
    exact ⟨(upd_other s.2 true hne).trans h, upd_other _ _ hne⟩
theorem fold_old {q : Value} (L : List (Nat × Value)) : ∀ s : Fs, s.2 q = true → (L.foldl stp s).2 q = true ∧ (L.foldl stp s).1 q = s.1 q := by
  induction L with
  | nil => intro s h; exact ⟨h, rfl⟩
  | cons t L ih =>
    intro s h
    have h1 := stp_old (t := t) h
    have h2 := ih (stp s t) h1.1
    exact ⟨h2.1, h2.2.trans h1.2⟩
theorem fold_new {q : Value} (L : List (Nat × Value)) : ∀ s : Fs, s.2 q ≠ true → (L.foldl stp s).2 q = true → ∃ t ∈ L, t.2 = q ∧ (L.foldl stp s).1 q = (t.1 : Int) := by
  induction L with
  | nil => intro s h h2; exact absurd h2 h
  | cons t L ih =>
    intro s h h2
    by_cases e : t.2 = q
    · refine ⟨t, by simp, e, ?_⟩
      have hs : s.2 t.2 ≠ true := by rw [e]; exact h
      have h3 : (stp s t).2 q = true ∧ (stp s t).1 q = (t.1 : Int) := by
        unfold stp; rw [if_neg hs, ← e]; exact ⟨upd_same _ _ _, upd_same _ _ _⟩
      exact (fold_old L _ h3.1).2.trans h3.2
    · have h3 : (stp s t).2 q ≠ true := by
        unfold stp
        split
        · exact h
        · show upd s.2 t.2 true q ≠ true
          rw [upd_other _ _ (Ne.symm e)]; exact h
      obtain ⟨u, hu, h4⟩ := ih (stp s t) h3 h2
      exact ⟨u, by simp [hu], h4⟩
theorem fold_none {q : Value} (L : List (Nat × Value)) : ∀ s : Fs, (L.foldl stp s).2 q ≠ true → ∀ t ∈ L, t.2 ≠ q := by
  induction L with
  | nil => intro s h t ht; cases ht
  | cons t L ih =>
    intro s h u hu
    rcases List.mem_cons.1 hu with rfl | hu
    · intro e
      refine h ((fold_old L (stp s u) ?_).1)
      unfold stp
      split
      · rw [← e]; assumption
      · rw [← e]; exact upd_same _ _ _
    · exact ih _ h u hu
theorem stf_append (L M : List (Nat × Value)) : stf (L ++ M) = M.foldl stp (stf L) := by simp [stf]
/-- the map of the first thefts, as its elements are held -/
noncomputable def heldT (s : Fs) : Value → Value := fun q => .int .i64 (s.1 q)
theorem heldT_stp {s : Fs} {t : Nat × Value} (h : s.2 t.2 ≠ true) : heldT (stp s t) = upd (heldT s) t.2 (.int .i64 (t.1 : Int)) ∧ (stp s t).2 = upd s.2 t.2 true := by
  unfold heldT stp
  rw [if_neg h]
  refine ⟨?_, rfl⟩
  funext q
  by_cases e : q = t.2
  · subst e; rw [upd_same]; simp [upd_same]
  · rw [upd_other _ _ e]; simp [upd_other _ _ e]
theorem stp_same {s : Fs} {t : Nat × Value} (h : s.2 t.2 = true) : stp s t = s := by unfold stp; rw [if_pos h]
/-- what was said of the beginning is said of all -/
theorem mrun_more (E E2 : List Em) : ∃ l, (mrun (E ++ E2)).out = (mrun E).out ++ l := by
  have key : ∀ n (E2 : List Em), E2.length = n → ∃ l, (mrun (E ++ E2)).out = (mrun E).out ++ l := by
    intro n
    induction n with
    | zero => intro E2 h; rw [List.eq_nil_of_length_eq_zero h]; exact ⟨[], by simp⟩
    | succ n ih =>
      intro E2 h
      rcases List.eq_nil_or_concat E2 with rfl | ⟨E', x, rfl⟩
      · cases h
      · rw [List.concat_eq_append, ← List.append_assoc, mrun_snoc]
        simp at h
        obtain ⟨l, hl⟩ := ih E' (by omega)
        unfold mstep
        split
        · exact ⟨l, hl⟩
        · split
          · exact ⟨l ++ _, by dsimp only; rw [hl, List.append_assoc]⟩
          · exact ⟨l, hl⟩
  exact key _ E2 rfl
theorem mrun_lt (E : List Em) : ∀ p ∈ (mrun E).out, p.1 < E.length := fun p hp => by
  obtain ⟨x, hx, _⟩ := mrun_told E p hp
  exact (List.getElem?_eq_some_iff.1 hx).1
noncomputable def judged (F : List Fm) (E : List Em) : List (Int × Int × Int) := (mrun E).out.map (vd E (stf (tfu F E E.length)).1 (stf (tfu F E E.length)).2)
theorem vd_take (F : List Fm) (E : List Em) (n : Nat) (hn : n ≤ E.length) {p : Nat × Int} (hp : p.1 < n) :
    vd (E.take n) (stf (tfu F (E.take n) n)).1 (stf (tfu F (E.take n) n)).2 p = vd E (stf (tfu F E E.length)).1 (stf (tfu F E E.length)).2 p := by
  unfold vd
  split
  · rfl
  · rw [List.getElem?_take, if_pos hp, tfu_take F E n n (Nat.le_refl _)]
    cases hx : E[p.1]? with
    | none => rfl
    | some x =>
      dsimp only
      obtain ⟨l, hl, hge⟩ := tfu_le F E hn
      rw [hl, stf_append]
      generalize stf (tfu F E n) = s
      generalize hq : ke x.p x.h = q
      by_cases h1 : s.2 q = true
      · obtain ⟨h2, h3⟩ := fold_old l s h1
        rw [h2, h3, h1]
      · rw [if_neg (by intro h; exact h1 h.1)]
        by_cases h2 : (l.foldl stp s).2 q = true
        · obtain ⟨t, ht, _, h3⟩ := fold_new l s h1 h2
          have := hge t ht
          rw [if_neg (by rw [h3]; intro h; omega)]
        · rw [if_neg (by intro h; exact h2 h.1)]
theorem judged_take (F : List Fm) (E : List Em) (n : Nat) (hn : n ≤ E.length) : ∃ l, judged F E = judged F (E.take n) ++ l := by
  obtain ⟨l, hl⟩ := mrun_more (E.take n) (E.drop n)
  rw [List.take_append_drop] at hl
  unfold judged
  rw [hl, List.map_append]
  refine ⟨l.map (vd E (stf (tfu F E E.length)).1 (stf (tfu F E E.length)).2), ?_⟩
  refine congrArg (· ++ _) ?_
  refine List.map_congr_left fun p hp => ?_
  have hlen : (E.take n).length = n := by simp [hn]
  have h1 := mrun_lt _ p hp
  rw [hlen] at h1 ⊢
  exact (vd_take F E n hn h1).symm
end Go.Proofs.Ytompggkdjbkjjaa
