/- choose: the majority, and what comes of going through the sorted ends (arithmetic alone). -/
import Derived.Test.YtbkcoijcoacbaaaChC3
namespace Go.Proofs.Ytbkcoijcoacbaaa.Ch
open Go.RowKit
set_option linter.unusedVariables false
set_option linter.unusedSimpArgs false
/-- how many intervals have a point -/
def cov (xs : List Sp) (x : Int) : Int := (xs.map fun s => if s.has x then (1 : Int) else 0).sum
def Maj (xs : List Sp) (x : Int) : Prop := (xs.length : Int) < 2 * cov xs x
instance (xs : List Sp) (x : Int) : Decidable (Maj xs x) := by unfold Maj; exact inferInstance
theorem cov_nil (x : Int) : cov [] x = 0 := rfl
theorem cov_cons (s : Sp) (xs : List Sp) (x : Int) : cov (s :: xs) x = (if s.has x then 1 else 0) + cov xs x := by simp [cov]
theorem cov_lim (xs : List Sp) (x : Int) : 0 ≤ cov xs x ∧ cov xs x ≤ xs.length := by
  induction xs with
  | nil => exact ⟨Int.le_refl _, Int.le_refl _⟩
  | cons s xs ih =>
    rw [cov_cons]
    simp only [List.length_cons, Int.natCast_add]
    split <;> omega
/-- what an end adds to how many have a point -/
def val (x : Int) (e : Ev) : Int := if e.at_ < x ∨ (e.at_ = x ∧ e.more = 1) then e.more else 0
def vals (x : Int) (E : List Ev) : Int := (E.map (val x)).sum
def tot (E : List Ev) : Int := (E.map Ev.more).sum
theorem vals_cons (x : Int) (e : Ev) (E : List Ev) : vals x (e :: E) = val x e + vals x E := by simp [vals]
theorem vals_append (x : Int) (E F : List Ev) : vals x (E ++ F) = vals x E + vals x F := by simp [vals]
theorem tot_cons (e : Ev) (E : List Ev) : tot (e :: E) = e.more + tot E := by simp [tot]
theorem tot_append (E F : List Ev) : tot (E ++ F) = tot E + tot F := by simp [tot]
theorem sum_perm {α : Type} (f : α → Int) {E F : List α} (h : E.Perm F) : (E.map f).sum = (F.map f).sum := by
  induction h with
  | nil => rfl
  | cons x _ ih => simp [ih]
  | swap x y l => simp; omega
  | trans _ _ h1 h2 => exact h1.trans h2
theorem endsOf_cons (s : Sp) (xs : List Sp) : endsOf (s :: xs) = ⟨s.lo, 1⟩ :: ⟨s.hi, -1⟩ :: endsOf xs := rfl
theorem vals_ends {xs : List Sp} (h : AllMay xs) (x : Int) : vals x (endsOf xs) = cov xs x := by
  induction xs with
  | nil => rfl
  | cons s xs ih =>
    rw [endsOf_cons, vals_cons, vals_cons, cov_cons, ih (fun t ht => h t (List.mem_cons_of_mem _ ht))]
    have hm : s.may := h s (List.mem_cons_self ..)
    unfold Sp.may at hm
    by_cases h1 : s.lo ≤ x
    · rw [show val x ⟨s.lo, 1⟩ = 1 from if_pos (by simp; omega)]
      by_cases h2 : s.hi < x
      · rw [show val x ⟨s.hi, -1⟩ = -1 from if_pos (.inl h2), if_neg (fun h : s.has x => by unfold Sp.has at h; omega)]
        omega
      · rw [show val x ⟨s.hi, -1⟩ = 0 from if_neg (by simp; omega), if_pos (show s.has x from ⟨h1, by omega⟩)]
        omega
    · rw [show val x ⟨s.lo, 1⟩ = 0 from if_neg (by simp; omega), show val x ⟨s.hi, -1⟩ = 0 from if_neg (by simp; omega), if_neg (fun h : s.has x => by unfold Sp.has at h; omega)]
      omega
theorem tot_ends (xs : List Sp) : tot (endsOf xs) = 0 := by
  induction xs with
  | nil => rfl
  | cons s xs ih => rw [endsOf_cons, tot_cons, tot_cons, ih]; simp
theorem more_ends {xs : List Sp} {e : Ev} (h : e ∈ endsOf xs) : e.more = 1 ∨ e.more = -1 := by
  unfold endsOf at h
  rw [List.mem_flatMap] at h
  obtain ⟨s, _, h⟩ := h
  simp at h
  rcases h with rfl | rfl
  · exact .inl rfl
  · exact .inr rfl
/-- one end is not behind another one -/
def Ev.le (e f : Ev) : Prop := e.at_ < f.at_ ∨ (e.at_ = f.at_ ∧ f.more ≤ e.more)
/-- where more than half are had: the ends in their order -/
def tr (n : Int) : Int → List Ev → List Int
  | _, [] => []
  | had, e :: E => (if n < 2 * max had (had + e.more) then [e.at_] else []) ++ tr n (had + e.more) E
theorem tr_in {n : Int} {had x : Int} {E : List Ev} (h : x ∈ tr n had E) : ∃ e ∈ E, e.at_ = x := by
  induction E generalizing had with
  | nil => cases h
  | cons e E ih =>
    unfold tr at h
    rcases List.mem_append.1 h with h | h
    · split at h
      · simp at h; exact ⟨e, List.mem_cons_self .., h.symm⟩
      · cases h
    · obtain ⟨f, hf, hx⟩ := ih h
      exact ⟨f, List.mem_cons_of_mem _ hf, hx⟩
theorem tr_has {n x had : Int} {E : List Ev} (hs : E.Pairwise Ev.le) (hm : ∀ e ∈ E, e.more = 1 ∨ e.more = -1) (h0 : 2 * had ≤ n) (h : n < 2 * (had + vals x E)) : ∃ y ∈ tr n had E, y ≤ x := by
  induction E generalizing had with
  | nil => simp [vals] at h; omega
  | cons e E ih =>
    rw [List.pairwise_cons] at hs
    rw [vals_cons] at h
    by_cases hp : e.at_ < x ∨ (e.at_ = x ∧ e.more = 1)
    · have hv : val x e = e.more := if_pos hp
      by_cases ht : n < 2 * max had (had + e.more)
      · exact ⟨e.at_, by unfold tr; rw [if_pos ht]; simp, by omega⟩
      · obtain ⟨y, hy, hyx⟩ := ih hs.2 (fun f hf => hm f (List.mem_cons_of_mem _ hf)) (had := had + e.more) (by omega) (by omega)
        exact ⟨y, by unfold tr; exact List.mem_append_right _ hy, hyx⟩
    · exfalso
      have hv : val x e = 0 := if_neg hp
      have hz : vals x E = 0 := by
        have : ∀ f ∈ E, val x f = 0 := fun f hf => by
          have hle := hs.1 f hf
          have h1 := hm e (List.mem_cons_self ..)
          have h2 := hm f (List.mem_cons_of_mem _ hf)
          unfold Ev.le at hle
          exact if_neg (by omega)
        unfold vals
        rw [List.map_congr_left this]
        clear ih hs hm h this
        induction E with
        | nil => rfl
        | cons _ _ ih => simpa using ih
      omega
theorem tr_has2 {n x had : Int} {E : List Ev} (hs : E.Pairwise Ev.le) (hm : ∀ e ∈ E, e.more = 1 ∨ e.more = -1) (h0 : 2 * (had + tot E) ≤ n) (h : n < 2 * (had + vals x E)) : ∃ y ∈ tr n had E, x ≤ y := by
  induction E generalizing had with
  | nil => simp [vals, tot] at h h0; omega
  | cons e E ih =>
    rw [List.pairwise_cons] at hs
    rw [vals_cons] at h
    rw [tot_cons] at h0
    by_cases hp : e.at_ < x ∨ (e.at_ = x ∧ e.more = 1)
    · have hv : val x e = e.more := if_pos hp
      obtain ⟨y, hy, hyx⟩ := ih hs.2 (fun f hf => hm f (List.mem_cons_of_mem _ hf)) (had := had + e.more) (by omega) (by omega)
      exact ⟨y, by unfold tr; exact List.mem_append_right _ hy, hyx⟩
    · have hv : val x e = 0 := if_neg hp
      have hz : vals x E = 0 := by
        have : ∀ f ∈ E, val x f = 0 := fun f hf => by
          have hle := hs.1 f hf
          have h1 := hm e (List.mem_cons_self ..)
          have h2 := hm f (List.mem_cons_of_mem _ hf)
          unfold Ev.le at hle
          exact if_neg (by omega)
        unfold vals
        rw [List.map_congr_left this]
        clear ih hs hm h h0 this
        induction E with
        | nil => rfl
        | cons _ _ ih => simpa using ih
      refine ⟨e.at_, ?_, ?_⟩
      · unfold tr
        rw [if_pos (by omega)]
        simp
      · have h1 := hm e (List.mem_cons_self ..)
        omega
theorem vals_ge {x : Int} {P : List Ev} (h : ∀ p ∈ P, (p.more = 1 ∨ p.more = -1) ∧ (p.at_ < x ∨ p.at_ = x)) : tot P ≤ vals x P := by
  induction P with
  | nil => exact Int.le_refl _
  | cons p P ih =>
    rw [tot_cons, vals_cons]
    have h1 := h p (List.mem_cons_self ..)
    have h2 := ih (fun q hq => h q (List.mem_cons_of_mem _ hq))
    unfold val
    split <;> omega
theorem vals_pos {x : Int} {P : List Ev} (h : ∀ p ∈ P, (p.more = 1 ∨ p.more = -1) ∧ x ≤ p.at_) : 0 ≤ vals x P := by
  induction P with
  | nil => exact Int.le_refl _
  | cons p P ih =>
    rw [vals_cons]
    have h1 := h p (List.mem_cons_self ..)
    have h2 := ih (fun q hq => h q (List.mem_cons_of_mem _ hq))
    unfold val
    split <;> omega
theorem tr_maj {n x : Int} {P E : List Ev} (hs : (P ++ E).Pairwise Ev.le) (hm : ∀ e ∈ P ++ E, e.more = 1 ∨ e.more = -1) (h : x ∈ tr n (tot P) E) : n < 2 * vals x (P ++ E) := by
  induction E generalizing P with
  | nil => cases h
  | cons e E ih =>
    unfold tr at h
    rcases List.mem_append.1 h with h | h
    · split at h
      · rename_i ht
        simp at h
        subst h
        rw [vals_append, vals_cons]
        rw [List.pairwise_append] at hs
        obtain ⟨_, h2, h3⟩ := hs
        rw [List.pairwise_cons] at h2
        have a := vals_ge (x := e.at_) (P := P) (fun p hp => ⟨hm p (List.mem_append_left _ hp), by
          have := h3 p hp e (List.mem_cons_self ..)
          unfold Ev.le at this
          omega⟩)
        have b := vals_pos (x := e.at_) (P := E) (fun p hp => ⟨hm p (List.mem_append_right _ (List.mem_cons_of_mem _ hp)), by
          have := h2.1 p hp
          unfold Ev.le at this
          omega⟩)
        have c : val e.at_ e = max 0 e.more := by
          have := hm e (List.mem_append_right _ (List.mem_cons_self ..))
          unfold val
          split <;> omega
        omega
      · cases h
    · have e1 : P ++ e :: E = (P ++ [e]) ++ E := by simp
      rw [e1] at hs hm ⊢
      refine ih hs hm ?_
      rw [tot_append, tot_cons]
      simpa [tot] using h
theorem tr_sorted {n had : Int} {E : List Ev} (hs : E.Pairwise Ev.le) : (tr n had E).Pairwise (· ≤ ·) := by
  induction E generalizing had with
  | nil => exact List.Pairwise.nil
  | cons e E ih =>
    rw [List.pairwise_cons] at hs
    unfold tr
    split
    · rw [List.singleton_append, List.pairwise_cons]
      refine ⟨fun y hy => ?_, ih hs.2⟩
      obtain ⟨f, hf, rfl⟩ := tr_in hy
      have := hs.1 f hf
      unfold Ev.le at this
      omega
    · exact ih hs.2
/-- going through the ends -/
def run (n : Int) : List Ev → Int → Bool → Int → Int → Bool × Int × Int
  | [], _, f, lo, hi => (f, lo, hi)
  | e :: E, had, f, lo, hi => if 2 * max had (had + e.more) ≤ n then run n E (had + e.more) f lo hi else run n E (had + e.more) true (if f then lo else e.at_) e.at_
theorem run_tr (n : Int) (E : List Ev) (had : Int) (f : Bool) (lo hi : Int) :
    run n E had f lo hi = (f || !(tr n had E).isEmpty, if f then lo else (tr n had E).headD lo, (tr n had E).getLastD hi) := by
  induction E generalizing had f lo hi with
  | nil => cases f <;> simp [run, tr]
  | cons e E ih =>
    unfold run tr
    by_cases h : 2 * max had (had + e.more) ≤ n
    · have h' : ¬ n < 2 * max had (had + e.more) := by omega
      rw [if_pos h, if_neg h', ih]
      simp
    · have h' : n < 2 * max had (had + e.more) := by omega
      rw [if_neg h, if_pos h', ih]
      cases f
      · simp
        cases hh : tr n (had + e.more) E <;> simp [List.getLast?_cons]
      · simp
        cases hh : tr n (had + e.more) E <;> simp [List.getLast?_cons]
theorem last_max {L : List Int} (h : L.Pairwise (· ≤ ·)) {z : Int} (hz : z ∈ L) (d : Int) : z ≤ L.getLastD d := by
  induction L generalizing d z with
  | nil => cases hz
  | cons a T ih =>
    rw [List.pairwise_cons] at h
    rw [List.getLastD_cons]
    cases T with
    | nil =>
      simp at hz
      subst hz
      exact Int.le_refl _
    | cons b T =>
      rcases List.mem_cons.1 hz with rfl | hz
      · exact Int.le_trans (h.1 b (List.mem_cons_self ..)) (ih h.2 (List.mem_cons_self ..) _)
      · exact ih h.2 hz _
theorem last_mem {L : List Int} (h : L ≠ []) (d : Int) : L.getLastD d ∈ L := by
  induction L generalizing d with
  | nil => exact absurd rfl h
  | cons a T ih =>
    rw [List.getLastD_cons]
    cases T with
    | nil => simp
    | cons b T => exact List.mem_cons_of_mem _ (ih (by simp) _)
/-- the region: more than half have both ends, and what more than half have lies between them -/
def IsReg (xs : List Sp) (lo hi : Int) : Prop := Maj xs lo ∧ Maj xs hi ∧ ∀ x, Maj xs x → lo ≤ x ∧ x ≤ hi
theorem run_reg {xs : List Sp} {E : List Ev} (hm : AllMay xs) (hp : E.Perm (endsOf xs)) (hs : E.Pairwise Ev.le) :
    (∃ lo hi, run xs.length E 0 false 0 0 = (true, lo, hi) ∧ IsReg xs lo hi) ∨ (run xs.length E 0 false 0 0 = (false, 0, 0) ∧ ∀ x, ¬ Maj xs x) := by
  have hmo : ∀ e ∈ E, e.more = 1 ∨ e.more = -1 := fun e he => more_ends (hp.mem_iff.1 he)
  have hv : ∀ x, vals x E = cov xs x := fun x => by
    rw [← vals_ends hm x]
    exact sum_perm (val x) hp
  have ht : tot E = 0 := by
    rw [← tot_ends xs]
    exact sum_perm Ev.more hp
  have hso := tr_sorted (n := (xs.length : Int)) (had := 0) hs
  rw [run_tr]
  cases hT : tr (xs.length : Int) 0 E with
  | nil =>
    refine .inr ⟨by simp, fun x hx => ?_⟩
    unfold Maj at hx
    obtain ⟨y, hy, _⟩ := tr_has (n := (xs.length : Int)) (x := x) (had := 0) hs hmo (by omega) (by rw [hv]; omega)
    rw [hT] at hy
    cases hy
  | cons a T =>
    rw [hT] at hso
    have hso' := hso
    rw [List.pairwise_cons] at hso
    have hmaj : ∀ x ∈ a :: T, Maj xs x := fun x hx => by
      rw [← hT] at hx
      have := tr_maj (P := []) (E := E) (n := (xs.length : Int)) (x := x) (by simpa using hs) (by simpa using hmo) (by simpa [tot] using hx)
      rw [List.nil_append, hv] at this
      exact this
    have hl : (a :: T).getLastD 0 ∈ a :: T := last_mem (by simp) 0
    refine .inl ⟨a, (a :: T).getLastD 0, by simp, hmaj a (List.mem_cons_self ..), hmaj _ hl, fun x hx => ?_⟩
    unfold Maj at hx
    obtain ⟨y, hy, hyx⟩ := tr_has (n := (xs.length : Int)) (x := x) (had := 0) hs hmo (by omega) (by rw [hv]; omega)
    obtain ⟨z, hz, hzx⟩ := tr_has2 (n := (xs.length : Int)) (x := x) (had := 0) hs hmo (by rw [ht]; omega) (by rw [hv]; omega)
    rw [hT] at hy hz
    constructor
    · rcases List.mem_cons.1 hy with rfl | hy
      · exact hyx
      · exact Int.le_trans (hso.1 y hy) hyx
    · exact Int.le_trans hzx (last_max hso' hz 0)
end Go.Proofs.Ytbkcoijcoacbaaa.Ch
