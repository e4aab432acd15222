/- audit: what holds of matches (plain). -/
import Derived.Test.YtompggkdjbkjjaaA11
import Derived.Test.YtompggkdjbkjjaaA12
import Derived.Test.YtompggkdjbkjjaaA14
namespace Go.Proofs.Ytompggkdjbkjjaa
set_option linter.unusedVariables false
def km (a : Em) : Value := kv a.h a.p a.xs
def kt (a : Em) : Value := kv a.p a.h a.xs
structure Once (E : List Em) (s : Ms) : Prop where
  at_ : ∀ q y, y ∈ s.L q → ∃ a, E[y]? = some a ∧ a.k = 1 ∧ q = km a
  nd : ∀ q, (s.L q).Nodup
  out : ∀ q y, y ∈ s.L q → ∀ p ∈ s.out, p.2 ≠ (y : Int)
  ok : ∀ p ∈ s.out, p.2 < p.1 ∧ (0 ≤ p.2 → ∃ a b, E[p.2.toNat]? = some a ∧ E[p.1]? = some b ∧ alikeB a b = true)
  pw : s.out.Pairwise fun p q => 0 ≤ q.2 → p.2 ≠ q.2
theorem mem_upd {L : Value → List Nat} {k q : Value} {l : List Nat} {y : Nat} (h : y ∈ upd L k l q) : (q = k ∧ y ∈ l) ∨ (q ≠ k ∧ y ∈ L q) := by
  by_cases e : q = k
  · subst e; rw [upd_same] at h; exact .inl ⟨rfl, h⟩
  · rw [upd_other _ _ e] at h; exact .inr ⟨e, h⟩
theorem get_snoc {E : List Em} {x : Em} {y : Nat} {a : Em} (h : E[y]? = some a) : (E ++ [x])[y]? = some a := by
  rw [List.getElem?_append_left (List.getElem?_eq_some_iff.1 h).1]; exact h
theorem once_all (E : List Em) (hl : ∀ a ∈ E, Lim 256 a.xs) : Once E (mrun E) := by
  refine mrun_ind (mo := fun E s => (∀ a ∈ E, Lim 256 a.xs) → Once E s) (fun _ => ⟨fun q y h => by simp at h, fun q => by simp, fun q y h => by simp at h, fun p h => by simp at h, by simp⟩) (fun E x ih hl => ?_) E hl
  have hO := ih fun a ha => hl a (List.mem_append_left _ ha)
  have hx := hl x (by simp)
  have hlt : ∀ q y, y ∈ (mrun E).L q → y < E.length := fun q y h => by
    obtain ⟨a, ha, _⟩ := hO.at_ q y h
    exact (List.getElem?_eq_some_iff.1 ha).1
  have at' : ∀ q y, y ∈ (mrun E).L q → ∃ a, (E ++ [x])[y]? = some a ∧ a.k = 1 ∧ q = km a := fun q y h => by
    obtain ⟨a, ha, h2⟩ := hO.at_ q y h
    exact ⟨a, get_snoc ha, h2⟩
  have ok' : ∀ p ∈ (mrun E).out, p.2 < p.1 ∧ (0 ≤ p.2 → ∃ a b, (E ++ [x])[p.2.toNat]? = some a ∧ (E ++ [x])[p.1]? = some b ∧ alikeB a b = true) := fun p hp => by
    refine ⟨(hO.ok p hp).1, fun h0 => ?_⟩
    obtain ⟨a, b, h1, h2, h3⟩ := (hO.ok p hp).2 h0
    exact ⟨a, b, get_snoc h1, get_snoc h2, h3⟩
  have told := mrun_told E
  have olt : ∀ p ∈ (mrun E).out, p.2 < E.length := fun p hp => by
    obtain ⟨y, hy, _⟩ := told p hp
    have h1 := (List.getElem?_eq_some_iff.1 hy).1
    have h2 := (hO.ok p hp).1
    omega
  unfold mstep
  split
  · rename_i h1
    refine ⟨fun q y h => ?_, fun q => ?_, fun q y h p hp => ?_, ok', hO.pw⟩
    · rcases mem_upd h with ⟨rfl, hm⟩ | ⟨hne, hm⟩
      · rcases List.mem_append.1 hm with hm | hm
        · exact at' _ y hm
        · simp at hm; subst hm
          exact ⟨x, by simp, h1, rfl⟩
      · exact at' q y hm
    · dsimp only
      by_cases e : q = kv x.h x.p x.xs
      · rw [e, upd_same]
        refine List.nodup_append.2 ⟨hO.nd _, by simp, fun a ha b hb => ?_⟩
        simp at hb; subst hb
        have := hlt _ a ha
        omega
      · rw [upd_other _ _ e]; exact hO.nd q
    · rcases mem_upd h with ⟨rfl, hm⟩ | ⟨hne, hm⟩
      · rcases List.mem_append.1 hm with hm | hm
        · exact hO.out _ y hm p hp
        · simp at hm; subst hm
          have := olt p hp
          omega
      · exact hO.out q y hm p hp
  · split
    · rename_i h1 h3
      rcases hL : (mrun E).L (kv x.p x.h x.xs) with _ | ⟨y0, l⟩
      · refine ⟨fun q y h => ?_, fun q => ?_, fun q y h p hp => ?_, fun p hp => ?_, ?_⟩
        · rcases mem_upd h with ⟨rfl, hm⟩ | ⟨hne, hm⟩
          · simp at hm
          · exact at' q y hm
        · dsimp only
          by_cases e : q = kv x.p x.h x.xs
          · rw [e, upd_same]; simp
          · rw [upd_other _ _ e]; exact hO.nd q
        · rcases mem_upd h with ⟨rfl, hm⟩ | ⟨hne, hm⟩
          · simp at hm
          · rcases List.mem_append.1 hp with hp | hp
            · exact hO.out q y hm p hp
            · simp at hp; subst hp; simp [headI]
        · rcases List.mem_append.1 hp with hp | hp
          · exact ok' p hp
          · simp at hp; subst hp; exact ⟨by simp [headI]; omega, fun h0 => by simp [headI] at h0⟩
        · refine List.pairwise_append.2 ⟨hO.pw, by simp, fun p hp q hq h0 => ?_⟩
          simp at hq; subst hq; simp [headI] at h0
      · have hy0 : y0 ∈ (mrun E).L (kv x.p x.h x.xs) := by rw [hL]; simp
        obtain ⟨a, ha, hak, hka⟩ := hO.at_ _ _ hy0
        have hxa : Lim 256 a.xs := hl a (List.mem_append_left _ (List.mem_of_getElem? ha))
        obtain ⟨e1, e2, e3⟩ := kv_inj hx hxa hka
        have hnd := hO.nd (kv x.p x.h x.xs)
        rw [hL, List.nodup_cons] at hnd
        have hy0l := hlt _ _ hy0
        refine ⟨fun q y h => ?_, fun q => ?_, fun q y h p hp => ?_, fun p hp => ?_, ?_⟩
        · rcases mem_upd h with ⟨rfl, hm⟩ | ⟨hne, hm⟩
          · exact at' _ y (by rw [hL]; simp at hm ⊢; exact .inr hm)
          · exact at' q y hm
        · dsimp only
          by_cases e : q = kv x.p x.h x.xs
          · rw [e, upd_same]; exact hnd.2
          · rw [upd_other _ _ e]; exact hO.nd q
        · have hyq : y ∈ (mrun E).L q ∧ y ≠ y0 := by
            rcases mem_upd h with ⟨rfl, hm⟩ | ⟨hne, hm⟩
            · exact ⟨by rw [hL]; simp at hm ⊢; exact .inr hm, fun e => hnd.1 (e ▸ hm)⟩
            · refine ⟨hm, fun e => ?_⟩
              obtain ⟨b, hb, _, hkb⟩ := hO.at_ q y hm
              rw [e, ha] at hb
              cases hb
              exact hne (hkb.trans hka.symm)
          rcases List.mem_append.1 hp with hp | hp
          · exact hO.out q y hyq.1 p hp
          · simp at hp; subst hp
            simp [headI]
            intro e
            exact hyq.2 (by omega)
        · rcases List.mem_append.1 hp with hp | hp
          · exact ok' p hp
          · simp at hp; subst hp
            refine ⟨by simp [headI]; omega, fun h0 => ⟨a, x, by simpa [headI] using get_snoc ha, by simp, ?_⟩⟩
            rw [alikeB_iff]
            exact ⟨hak, h3, e1.symm, e2.symm, e3.symm⟩
        · refine List.pairwise_append.2 ⟨hO.pw, by simp, fun p hp q hq h0 => ?_⟩
          simp at hq; subst hq
          exact hO.out _ _ hy0 p hp
    · exact ⟨at', hO.nd, hO.out, ok', hO.pw⟩
theorem cnt_snoc (out : List (Nat × Int)) (p : Nat × Int) : cnt (out ++ [p]) = cnt out + if 0 ≤ p.2 then 1 else 0 := by
  unfold cnt
  rw [List.filter_append, List.length_append]
  congr 1
  by_cases h : 0 ≤ p.2 <;> simp [h]
theorem head_pos (l : List Nat) : 0 ≤ headI l ↔ l ≠ [] := by cases l <;> simp [headI]
open Classical in
/-- with one event Sent more, ahead of all: either it waits still, or one more is matched -/
theorem more_all (x : Em) (hx : x.k = 1) (E : List Em) :
    (∀ q, ((mrun (x :: E)).L q).length = ((mrun E).L q).length + if q = km x then 1 else 0) ∧ cnt (mrun (x :: E)).out = cnt (mrun E).out ∨
    (∀ q, ((mrun (x :: E)).L q).length = ((mrun E).L q).length) ∧ cnt (mrun (x :: E)).out = cnt (mrun E).out + 1 := by
  refine mrun_ind (mo := fun E s => (∀ q, ((mrun (x :: E)).L q).length = (s.L q).length + if q = km x then 1 else 0) ∧ cnt (mrun (x :: E)).out = cnt s.out ∨
    (∀ q, ((mrun (x :: E)).L q).length = (s.L q).length) ∧ cnt (mrun (x :: E)).out = cnt s.out + 1) ?_ (fun E y ih => ?_) E
  · refine .inl ⟨fun q => ?_, ?_⟩
    · show ((mstep ⟨fun _ => [], []⟩ 0 x).L q).length = _
      unfold mstep
      rw [if_pos hx]
      dsimp only
      by_cases e : q = km x
      · rw [if_pos e, e]; unfold km; rw [upd_same]; rfl
      · rw [if_neg e, upd_other (key := kv x.h x.p x.xs) _ _ e]; rfl
    · show cnt (mstep ⟨fun _ => [], []⟩ 0 x).out = _
      unfold mstep
      rw [if_pos hx]
  · rw [show x :: (E ++ [y]) = (x :: E) ++ [y] from rfl, mrun_snoc]
    unfold mstep
    by_cases h1 : y.k = 1
    · rw [if_pos h1, if_pos h1]
      dsimp only
      refine ih.imp (fun ⟨a, b⟩ => ⟨fun q => ?_, b⟩) (fun ⟨a, b⟩ => ⟨fun q => ?_, b⟩)
      · by_cases e : q = kv y.h y.p y.xs
        · rw [e, upd_same, upd_same]; have := a (kv y.h y.p y.xs); simp; omega
        · rw [upd_other _ _ e, upd_other _ _ e]; exact a q
      · by_cases e : q = kv y.h y.p y.xs
        · rw [e, upd_same, upd_same]; have := a (kv y.h y.p y.xs); simp; omega
        · rw [upd_other _ _ e, upd_other _ _ e]; exact a q
    · by_cases h3 : y.k = 3
      · rw [if_neg h1, if_pos h3, if_neg h1, if_pos h3]
        dsimp only
        rw [cnt_snoc, cnt_snoc]
        dsimp only
        rcases ih with ⟨a, b⟩ | ⟨a, b⟩
        · have ak := a (kv y.p y.h y.xs)
          by_cases e : kv y.p y.h y.xs = km x
          · rw [if_pos e] at ak
            have hp : 0 ≤ headI ((mrun (x :: E)).L (kv y.p y.h y.xs)) := (head_pos _).2 fun h0 => by rw [h0] at ak; simp at ak
            rw [if_pos hp]
            by_cases h0 : (mrun E).L (kv y.p y.h y.xs) = []
            · rw [if_neg (fun h => (head_pos _).1 h h0)]
              refine .inr ⟨fun q => ?_, by omega⟩
              by_cases e2 : q = kv y.p y.h y.xs
              · rw [e2, upd_same, upd_same, List.length_tail, List.length_tail]; rw [h0] at ak ⊢; simp at ak ⊢; omega
              · rw [upd_other _ _ e2, upd_other _ _ e2, a q, if_neg (fun e3 => e2 (e3.trans e.symm))]; rfl
            · rw [if_pos ((head_pos _).2 h0)]
              refine .inl ⟨fun q => ?_, by omega⟩
              by_cases e2 : q = kv y.p y.h y.xs
              · have hl : 0 < ((mrun E).L (kv y.p y.h y.xs)).length := List.length_pos_iff.2 h0
                rw [e2, upd_same, upd_same, List.length_tail, List.length_tail, if_pos e]; omega
              · rw [upd_other _ _ e2, upd_other _ _ e2]; exact a q
          · rw [if_neg e] at ak
            have hiff : (0 ≤ headI ((mrun (x :: E)).L (kv y.p y.h y.xs))) ↔ (0 ≤ headI ((mrun E).L (kv y.p y.h y.xs))) := by
              rw [head_pos, head_pos, ne_eq, ne_eq, ← List.length_eq_zero_iff, ← List.length_eq_zero_iff, ak]; rfl
            refine .inl ⟨fun q => ?_, ?_⟩
            · by_cases e2 : q = kv y.p y.h y.xs
              · rw [e2, upd_same, upd_same, List.length_tail, List.length_tail, if_neg e]; omega
              · rw [upd_other _ _ e2, upd_other _ _ e2]; exact a q
            · simp only [hiff]; omega
        · have ak := a (kv y.p y.h y.xs)
          have hiff : (0 ≤ headI ((mrun (x :: E)).L (kv y.p y.h y.xs))) ↔ (0 ≤ headI ((mrun E).L (kv y.p y.h y.xs))) := by
            rw [head_pos, head_pos, ne_eq, ne_eq, ← List.length_eq_zero_iff, ← List.length_eq_zero_iff, ak]
          refine .inr ⟨fun q => ?_, ?_⟩
          · by_cases e2 : q = kv y.p y.h y.xs
            · rw [e2, upd_same, upd_same, List.length_tail, List.length_tail]; omega
            · rw [upd_other _ _ e2, upd_other _ _ e2]; exact a q
          · simp only [hiff]; omega
      · rw [if_neg h1, if_neg h3, if_neg h1, if_neg h3]
        exact ih
theorem more_cnt (x : Em) (hx : x.k = 1) (E : List Em) : cnt (mrun E).out ≤ cnt (mrun (x :: E)).out ∧ cnt (mrun (x :: E)).out ≤ cnt (mrun E).out + 1 := by
  rcases more_all x hx E with ⟨_, h⟩ | ⟨_, h⟩ <;> omega
theorem nodup_le {l m : List Nat} (hl : l.Nodup) (h : ∀ x ∈ l, x ∈ m) : l.length ≤ m.length := by
  induction l generalizing m with
  | nil => simp
  | cons x l ih =>
    rw [List.nodup_cons] at hl
    have hx := h x (by simp)
    have := ih (m := m.erase x) hl.2 fun y hy => (List.mem_erase_of_ne (show y ≠ x from fun e => hl.1 (e ▸ hy))).2 (h y (by simp [hy]))
    rw [List.length_erase_of_mem hx] at this
    have := List.length_pos_of_mem hx
    simp; omega
/-- how many are told -/
def tl (E : List Em) : Nat := (E.filter fun x => decide (x.k = 3)).length
theorem tl_snoc (E : List Em) (x : Em) : tl (E ++ [x]) = tl E + if x.k = 3 then 1 else 0 := by
  unfold tl
  rw [List.filter_append, List.length_append]
  congr 1
  by_cases h : x.k = 3 <;> simp [h]
/-- u was sent, with the key q -/
def isS (E : List Em) (q : Value) (u : Nat) : Prop := ∃ a, E[u]? = some a ∧ a.k = 1 ∧ km a = q
theorem isS_snoc {E : List Em} {x : Em} {q : Value} {u : Nat} (hu : u < E.length) : isS (E ++ [x]) q u ↔ isS E q u := by
  unfold isS; rw [List.getElem?_append_left hu]
open Classical in
/-- each told one has a match of its own given, and is matched -/
structure Cov (E : List Em) (G : List Nat) (s : Ms) : Prop where
  nd : G.Nodup
  lt : ∀ u ∈ G, u < E.length
  all : propB s.out = true
  num : cnt s.out = tl E
  bal : ∀ q, (s.L q).length + (G.filter fun u => decide (isS E q u)).length = ((List.range E.length).filter fun u => decide (isS E q u)).length
theorem propB_snoc (out : List (Nat × Int)) (p : Nat × Int) : propB (out ++ [p]) = (propB out && (p.2 != -1)) := by
  unfold propB; rw [List.all_append]; simp
theorem cov_nil : Cov [] [] (mrun []) := ⟨by simp, by simp, rfl, rfl, fun q => rfl⟩
theorem filter_same {E : List Em} {x : Em} {q : Value} {G : List Nat} (hG : ∀ u ∈ G, u < E.length) : (open Classical in (G.filter fun u => decide (isS (E ++ [x]) q u)) = G.filter fun u => decide (isS E q u)) := by
  classical
  exact List.filter_congr fun u hu => by simp only [isS_snoc (hG u hu)]
theorem range_snoc {E : List Em} {x : Em} {q : Value} : (open Classical in ((List.range (E ++ [x]).length).filter fun u => decide (isS (E ++ [x]) q u)).length = ((List.range E.length).filter fun u => decide (isS E q u)).length + if x.k = 1 ∧ km x = q then 1 else 0) := by
  classical
  rw [List.length_append, List.length_singleton, List.range_succ, List.filter_append, List.length_append, filter_same (fun u hu => by simpa using hu)]
  congr 1
  have : isS (E ++ [x]) q E.length ↔ x.k = 1 ∧ km x = q := by
    unfold isS
    simp
  by_cases h : x.k = 1 ∧ km x = q
  · simp [this, h]
  · rw [if_neg h]
    have h2 : ¬ isS (E ++ [x]) q E.length := fun h3 => h (this.1 h3)
    simp [h2]
theorem cov_other {E : List Em} {G : List Nat} {x : Em} (h : Cov E G (mrun E)) (hx : x.k ≠ 3) : Cov (E ++ [x]) G (mrun (E ++ [x])) := by
  classical
  rw [mrun_snoc]
  have hlt : ∀ u ∈ G, u < (E ++ [x]).length := fun u hu => by have := h.lt u hu; simp; omega
  have hb := h.bal
  unfold mstep
  by_cases h1 : x.k = 1
  · rw [if_pos h1]
    refine ⟨h.nd, hlt, h.all, by rw [tl_snoc, if_neg hx]; exact h.num, fun q => ?_⟩
    rw [filter_same h.lt, range_snoc]
    dsimp only
    have hq := hb q
    by_cases e : q = kv x.h x.p x.xs
    · rw [if_pos ⟨h1, e.symm⟩]
      subst e
      rw [upd_same]
      simp
      omega
    · rw [if_neg (fun h3 => e h3.2.symm), upd_other (key := kv x.h x.p x.xs) _ _ e]
      exact hq
  · rw [if_neg h1, if_neg hx]
    refine ⟨h.nd, hlt, h.all, by rw [tl_snoc, if_neg hx]; exact h.num, fun q => ?_⟩
    rw [filter_same h.lt, range_snoc, if_neg (fun h3 => h1 h3.1)]
    exact hb q
theorem cov_told {E : List Em} {G : List Nat} {x a : Em} {g : Nat} (h : Cov E G (mrun E)) (hg : E[g]? = some a) (ha : alikeB a x = true) (hn : g ∉ G) : Cov (E ++ [x]) (G ++ [g]) (mrun (E ++ [x])) := by
  classical
  rw [mrun_snoc]
  obtain ⟨hk1, hx, e1, e2, e3⟩ := (alikeB_iff a x).1 ha
  have hgl : g < E.length := (List.getElem?_eq_some_iff.1 hg).1
  have hkey : km a = kv x.p x.h x.xs := by unfold km; rw [e1, e2, e3]
  have hS : ∀ q, isS E q g ↔ q = kv x.p x.h x.xs := fun q => by
    unfold isS
    rw [hg]
    exact ⟨fun ⟨b, hb, _, hq⟩ => by cases hb; rw [← hq, hkey], fun e => ⟨a, rfl, hk1, by rw [e, hkey]⟩⟩
  have hnd : (G ++ [g]).Nodup := List.nodup_append.2 ⟨h.nd, by simp, fun u hu v hv => by simp at hv; subst hv; exact fun e => hn (e ▸ hu)⟩
  have hlt : ∀ u ∈ G ++ [g], u < E.length := fun u hu => by
    rcases List.mem_append.1 hu with hu | hu
    · exact h.lt u hu
    · simp at hu; omega
  have hF : ∀ q, ((G ++ [g]).filter fun u => decide (isS E q u)).length = (G.filter fun u => decide (isS E q u)).length + if q = kv x.p x.h x.xs then 1 else 0 := fun q => by
    rw [List.filter_append, List.length_append]
    congr 1
    by_cases e : q = kv x.p x.h x.xs
    · rw [if_pos e]; simp [(hS q).2 e]
    · rw [if_neg e]; simp; exact fun h3 => e ((hS q).1 h3)
  have hle := nodup_le (l := (G ++ [g]).filter fun u => decide (isS E (kv x.p x.h x.xs) u)) (m := (List.range E.length).filter fun u => decide (isS E (kv x.p x.h x.xs) u)) (hnd.filter _) (fun u hu => by
    rw [List.mem_filter] at hu ⊢
    exact ⟨by simpa using hlt u hu.1, hu.2⟩)
  rw [hF, if_pos rfl] at hle
  have hb := h.bal (kv x.p x.h x.xs)
  have hL : (mrun E).L (kv x.p x.h x.xs) ≠ [] := fun e => by rw [e] at hb; simp at hb; omega
  have hp : 0 ≤ headI ((mrun E).L (kv x.p x.h x.xs)) := (head_pos _).2 hL
  have hne : x.k ≠ 1 := by omega
  unfold mstep
  rw [if_neg hne, if_pos hx]
  refine ⟨hnd, fun u hu => by have := hlt u hu; simp; omega, ?_, ?_, fun q => ?_⟩
  · dsimp only
    rw [propB_snoc, h.all]
    simp; omega
  · dsimp only
    rw [cnt_snoc, tl_snoc, if_pos hp, if_pos hx, h.num]
  · dsimp only
    rw [filter_same hlt, range_snoc, if_neg (fun h3 => hne h3.1), hF]
    have hq := h.bal q
    by_cases e : q = kv x.p x.h x.xs
    · subst e
      rw [upd_same, if_pos rfl, List.length_tail]
      have := List.length_pos_iff.2 hL
      omega
    · rw [upd_other _ _ e, if_neg e]
      exact hq
end Go.Proofs.Ytompggkdjbkjjaa
