/- choose: the document's own Cover and Region. -/
import Derived.Test.YtjagekagpgjoaaaC19
namespace Go.Proofs.Ytjagekagpgjoaaa
open Go.RowKit
set_option linter.unusedVariables false
set_option linter.unusedSimpArgs false
set_option maxRecDepth 100000
set_option maxHeartbeats 1000000 in
theorem rcover_any {w : World} {A : Option Addr} {B n c : Nat} {xs : List Sp} (x : Int) (h : Rs w B A n xs) (hmx : n ≤ 4611686018427387904) :
    Calls Try.prog 16 #[.slice A n c, .int .i64 x] w fun e w' => e = .returned (.int .i64 (cov xs x)) ∧ w' = w := by
  have HR := Lib.hid h
  have HL := Lib.hid h.1
  clear h
  go_enter Try.func16, Try.ntmps16
  go_wp2_with fail
  go_loopw [5, 6] (fun v i wr => ∃ j : Nat, j ≤ n ∧ i = .int .i64 (j : Int) ∧ v = .int .i64 (cov (xs.take j) x) ∧ wr = w) (fun _ i _ => (n - (match i with | .int _ z => z.toNat | _ => 0)))
  case atStart => exact ⟨0, by omega, rfl, rfl, rfl⟩
  case round =>
    obtain ⟨j, hjn, rfl, rfl, rfl⟩ := hrel
    have hcl := cov_lim (xs.take j) x
    have hlen : (xs.take j).length ≤ j := by rw [List.length_take]; omega
    obtain ⟨C, hC⟩ : ∃ C, C = cov (xs.take j) x := ⟨_, rfl⟩
    rw [← hC] at hcl ⊢
    have HC := Lib.hid hC
    have hcl2 : 0 ≤ C ∧ C ≤ 4611686018427387904 := by omega
    clear hC hcl hlen
    by_cases hj : j < n
    · have e1 : decide ((j : Int) < (n : Int)) = true := by simp; omega
      have e1' : (j : Int) < (n : Int) := by omega
      obtain ⟨s, hs⟩ : ∃ s, xs[j]? = some s := ⟨_, List.getElem?_eq_getElem (by have := HL.out; omega)⟩
      obtain ⟨g, off, rfl, hg, hc⟩ := HR.out.cells (by omega)
      obtain ⟨c0, c1, c2⟩ := hc wr (Below.refl _ _) j s hs
      have HT := Lib.hid (cov_take hs x)
      have HH := Lib.hid (show s.has x ↔ s.lo ≤ x ∧ x ≤ s.hi from Iff.rfl)
      clear hc hs
      by_cases h1 : s.lo ≤ x
      · by_cases h2 : x ≤ s.hi
        · go_wp2_with fail
          refine ⟨⟨j + 1, by omega, rfl, ?_, by first | trivial | rfl⟩, by show n - ((j : Int) + 1).toNat < n - (j : Int).toNat; omega⟩
          rw [HT.out, ← HC.out, if_pos (HH.out.2 ⟨h1, h2⟩)]
        · have h2' : (x ≤ s.hi) = False := by simp only [h2]
          go_wp2_with fail
          refine ⟨⟨j + 1, by omega, rfl, ?_, by first | trivial | rfl⟩, by show n - ((j : Int) + 1).toNat < n - (j : Int).toNat; omega⟩
          rw [HT.out, ← HC.out, if_neg (fun z => h2 (HH.out.1 z).2), Int.add_zero]
      · have h1' : (s.lo ≤ x) = False := by simp only [h1]
        go_wp2_with fail
        refine ⟨⟨j + 1, by omega, rfl, ?_, by first | trivial | rfl⟩, by show n - ((j : Int) + 1).toNat < n - (j : Int).toNat; omega⟩
        rw [HT.out, ← HC.out, if_neg (fun z => h1 (HH.out.1 z).1), Int.add_zero]
    · have e1' : ((j : Int) < (n : Int)) = False := by simp only [eq_iff_iff, iff_false]; omega
      have HE := Lib.hid (show C = cov xs x by rw [HC.out, List.take_of_length_le (by have := HL.out; omega)])
      go_wp2_with fail
      go_ret
      exact ⟨by rw [← HE.out]; rfl, rfl⟩
/-- of the intervals that have a point one begins last -/
theorem last_lo {xs : List Sp} {x : Int} (h : ∃ s ∈ xs, s.has x) : ∃ s ∈ xs, s.has x ∧ ∀ t ∈ xs, t.has x → t.lo ≤ s.lo := by
  induction xs with
  | nil => obtain ⟨s, hs, _⟩ := h; cases hs
  | cons a xs ih =>
    by_cases k : ∃ s ∈ xs, s.has x
    · obtain ⟨s, hs, hx, hm⟩ := ih k
      by_cases ha : a.has x ∧ s.lo < a.lo
      · refine ⟨a, List.mem_cons_self .., ha.1, fun t ht hxt => ?_⟩
        rcases List.mem_cons.1 ht with rfl | ht
        · exact Int.le_refl _
        · have := hm t ht hxt; omega
      · refine ⟨s, List.mem_cons_of_mem _ hs, hx, fun t ht hxt => ?_⟩
        rcases List.mem_cons.1 ht with rfl | ht
        · refine Classical.byContradiction fun z => ha ⟨hxt, by omega⟩
        · exact hm t ht hxt
    · obtain ⟨s, hs, hx⟩ := h
      rcases List.mem_cons.1 hs with rfl | hs
      · refine ⟨s, List.mem_cons_self .., hx, fun t ht hxt => ?_⟩
        rcases List.mem_cons.1 ht with rfl | ht
        · exact Int.le_refl _
        · exact absurd ⟨t, ht, hxt⟩ k
      · exact absurd ⟨s, hs, hx⟩ k
theorem first_hi {xs : List Sp} {x : Int} (h : ∃ s ∈ xs, s.has x) : ∃ s ∈ xs, s.has x ∧ ∀ t ∈ xs, t.has x → s.hi ≤ t.hi := by
  induction xs with
  | nil => obtain ⟨s, hs, _⟩ := h; cases hs
  | cons a xs ih =>
    by_cases k : ∃ s ∈ xs, s.has x
    · obtain ⟨s, hs, hx, hm⟩ := ih k
      by_cases ha : a.has x ∧ a.hi < s.hi
      · refine ⟨a, List.mem_cons_self .., ha.1, fun t ht hxt => ?_⟩
        rcases List.mem_cons.1 ht with rfl | ht
        · exact Int.le_refl _
        · have := hm t ht hxt; omega
      · refine ⟨s, List.mem_cons_of_mem _ hs, hx, fun t ht hxt => ?_⟩
        rcases List.mem_cons.1 ht with rfl | ht
        · refine Classical.byContradiction fun z => ha ⟨hxt, by omega⟩
        · exact hm t ht hxt
    · obtain ⟨s, hs, hx⟩ := h
      rcases List.mem_cons.1 hs with rfl | hs
      · refine ⟨s, List.mem_cons_self .., hx, fun t ht hxt => ?_⟩
        rcases List.mem_cons.1 ht with rfl | ht
        · exact Int.le_refl _
        · exact absurd ⟨t, ht, hxt⟩ k
      · exact absurd ⟨s, hs, hx⟩ k
theorem cov_some {xs : List Sp} {x : Int} (h : 0 < cov xs x) : ∃ s ∈ xs, s.has x := by
  refine Classical.byContradiction fun k => ?_
  have : cov xs x = 0 := by
    clear h
    induction xs with
    | nil => rfl
    | cons s xs ih =>
      rw [cov_cons, if_neg (fun z => k ⟨s, List.mem_cons_self .., z⟩), ih (fun ⟨t, ht, z⟩ => k ⟨t, List.mem_cons_of_mem _ ht, z⟩)]
      rfl
  omega
theorem maj_lo {xs : List Sp} {x : Int} (h : Maj xs x) : ∃ s ∈ xs, Maj xs s.lo ∧ s.lo ≤ x := by
  unfold Maj at h
  obtain ⟨s, hs, hx, hm⟩ := last_lo (cov_some (x := x) (xs := xs) (by omega))
  refine ⟨s, hs, ?_, hx.1⟩
  have := cov_mono (xs := xs) (x := x) (y := s.lo) fun t ht hxt => ⟨hm t ht hxt, Int.le_trans hx.1 hxt.2⟩
  unfold Maj
  omega
theorem maj_hi {xs : List Sp} {x : Int} (h : Maj xs x) : ∃ s ∈ xs, Maj xs s.hi ∧ x ≤ s.hi := by
  unfold Maj at h
  obtain ⟨s, hs, hx, hm⟩ := first_hi (cov_some (x := x) (xs := xs) (by omega))
  refine ⟨s, hs, ?_, hx.2⟩
  have := cov_mono (xs := xs) (x := x) (y := s.hi) fun t ht hxt => ⟨Int.le_trans hxt.1 hx.2, hm t ht hxt⟩
  unfold Maj
  omega
/-- the ends, one after the other -/
def pt (xs : List Sp) (k : Nat) : Int := match xs[k / 2]? with | some s => if k % 2 = 1 then s.hi else s.lo | none => 0
/-- what has been found of the first k ends -/
def Fnd (xs : List Sp) (k : Nat) (f : Bool) (lo hi : Int) : Prop :=
  (f = false → lo = 0 ∧ hi = 0 ∧ ∀ i, i < k → ¬ Maj xs (pt xs i)) ∧ (f = true → Maj xs lo ∧ Maj xs hi ∧ ∀ i, i < k → Maj xs (pt xs i) → lo ≤ pt xs i ∧ pt xs i ≤ hi)
theorem Fnd.skip {xs : List Sp} {k : Nat} {f : Bool} {lo hi : Int} (h : Fnd xs k f lo hi) (hm : ¬ Maj xs (pt xs k)) : Fnd xs (k + 1) f lo hi := by
  refine ⟨fun e => ⟨(h.1 e).1, (h.1 e).2.1, fun i hi' => ?_⟩, fun e => ⟨(h.2 e).1, (h.2 e).2.1, fun i hi' hx => ?_⟩⟩
  · rcases Nat.lt_or_eq_of_le (Nat.le_of_lt_succ hi') with h1 | rfl
    · exact (h.1 e).2.2 i h1
    · exact hm
  · rcases Nat.lt_or_eq_of_le (Nat.le_of_lt_succ hi') with h1 | rfl
    · exact (h.2 e).2.2 i h1 hx
    · exact absurd hx hm
theorem Fnd.first {xs : List Sp} {k : Nat} {lo hi : Int} (h : Fnd xs k false lo hi) (hm : Maj xs (pt xs k)) : Fnd xs (k + 1) true (pt xs k) (pt xs k) := by
  refine ⟨(fun e => by cases e), fun _ => ⟨hm, hm, fun i hi' hx => ?_⟩⟩
  rcases Nat.lt_or_eq_of_le (Nat.le_of_lt_succ hi') with h1 | rfl
  · exact absurd hx ((h.1 rfl).2.2 i h1)
  · omega
theorem Fnd.next {xs : List Sp} {k : Nat} {lo hi lo' hi' : Int} (h : Fnd xs k true lo hi) (hm : Maj xs (pt xs k)) (h1 : lo' = if pt xs k < lo then pt xs k else lo) (h2 : hi' = if hi < pt xs k then pt xs k else hi) : Fnd xs (k + 1) true lo' hi' := by
  obtain ⟨m1, m2, m3⟩ := h.2 rfl
  refine ⟨(fun e => by cases e), fun _ => ⟨?_, ?_, fun i hi' hx => ?_⟩⟩
  · rw [h1]; split
    · exact hm
    · exact m1
  · rw [h2]; split
    · exact hm
    · exact m2
  · rcases Nat.lt_or_eq_of_le (Nat.le_of_lt_succ hi') with k1 | rfl
    · have := m3 i k1 hx
      rw [h1, h2]
      split <;> split <;> omega
    · rw [h1, h2]
      split <;> split <;> omega
theorem Fnd.whole {xs : List Sp} {f : Bool} {lo hi : Int} (h : Fnd xs (2 * xs.length) f lo hi) (hl : xs.length ≤ 64) (hm : AllMay xs) : RegIs xs lo hi (if f then 0 else 150) := by
  have hlo : ∀ s ∈ xs, ∃ i, i < 2 * xs.length ∧ pt xs i = s.lo := fun s hs => by
    obtain ⟨j, hj, rfl⟩ := List.getElem_of_mem hs
    refine ⟨2 * j, by omega, ?_⟩
    unfold pt
    rw [show 2 * j / 2 = j by omega, List.getElem?_eq_getElem hj]
    dsimp only
    rw [if_neg (by omega)]
  have hhi : ∀ s ∈ xs, ∃ i, i < 2 * xs.length ∧ pt xs i = s.hi := fun s hs => by
    obtain ⟨j, hj, rfl⟩ := List.getElem_of_mem hs
    refine ⟨2 * j + 1, by omega, ?_⟩
    unfold pt
    rw [show (2 * j + 1) / 2 = j by omega, List.getElem?_eq_getElem hj]
    dsimp only
    rw [if_pos (by omega)]
  cases f
  · obtain ⟨a, b, c⟩ := h.1 rfl
    refine .inr ⟨hl, hm, .inr ⟨fun x hx => ?_, a, b, rfl⟩⟩
    obtain ⟨s, hs, hx2, _⟩ := maj_lo hx
    obtain ⟨i, hi', e⟩ := hlo s hs
    exact c i hi' (by rw [e]; exact hx2)
  · obtain ⟨a, b, c⟩ := h.2 rfl
    refine .inr ⟨hl, hm, .inl ⟨⟨a, b, fun x hx => ?_⟩, rfl⟩⟩
    obtain ⟨s, hs, hx2, k1⟩ := maj_lo hx
    obtain ⟨i, hi', e⟩ := hlo s hs
    obtain ⟨t, ht, hx3, k2⟩ := maj_hi hx
    obtain ⟨j, hj', e2⟩ := hhi t ht
    have q1 := c i hi' (by rw [e]; exact hx2)
    have q2 := c j hj' (by rw [e2]; exact hx3)
    omega
end Go.Proofs.Ytjagekagpgjoaaa
