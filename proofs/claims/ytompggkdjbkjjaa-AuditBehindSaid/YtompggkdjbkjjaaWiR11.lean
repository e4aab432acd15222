/- wire: what parse answers, in one form. -/
import Derived.Test.YtompggkdjbkjjaaWiS3
namespace Go.Proofs.Ytompggkdjbkjjaa.Wi
open Go.RowKit Go.Shelf
set_option linter.unusedVariables false
set_option maxRecDepth 100000
theorem flat_get {l : List El} {i r : Nat} {x : El} (h : l[i]? = some x) (hr : r < 8) : (l.flatMap El.cs)[i * 8 + r]? = x.cs[r]? := by
  induction l generalizing i with
  | nil => cases h
  | cons y l ih =>
    rw [List.flatMap_cons]
    have hy : y.cs.length = 8 := rfl
    cases i with
    | zero =>
      simp at h; subst h
      rw [List.getElem?_append_left (by omega)]; simp
    | succ i =>
      rw [List.getElem?_append_right (by omega), show (i + 1) * 8 + r - y.cs.length = i * 8 + r by omega]
      exact ih (by simpa using h)
theorem es_of {w : World} {base n c : Nat} {A : Option Addr} {els : List El} (hn : els.length = n) (h : Gw w base 85 8 A n c (els.flatMap El.cs)) (hf : ∀ x ∈ els, Ft w A base x) : Es w w.heap.size A n els := by
  refine ⟨hn, fun x hx => ⟨(hf x hx).one, (hf x hx).two⟩, ?_⟩
  rcases Nat.eq_zero_or_pos n with h0 | h0
  · exact .inl h0
  · obtain ⟨g, hA, _, hg, hc⟩ := h.cell h0 (by decide)
    refine .inr ⟨g, 0, hA, hg, fun i x hx => ?_⟩
    have q : ∀ r u, r < 8 → x.cs[r]? = some u → w.cell? ⟨g, i * 8 + r, none⟩ = some u := fun r u hr hu => hc _ u ((flat_get hx hr).trans hu)
    simp only [Nat.zero_add]
    exact ⟨q 0 _ (by decide) rfl, q 1 _ (by decide) rfl, q 2 _ (by decide) rfl, q 3 _ (by decide) rfl, q 4 _ (by decide) rfl, q 5 _ (by decide) rfl, q 6 _ (by decide) rfl, q 7 _ (by decide) rfl⟩
/-- a packet's fields and sum lie in blocks from lo on -/
def Mem (lo : Nat) (w : World) (p : Pk) (els : List El) (ms : List Nat) : Prop :=
  ∀ w' : World, w.heap.size ≤ w'.heap.size → (∀ q, lo ≤ q → q < w.heap.size → w'.heap[q]? = w.heap[q]?) → Es w' w'.heap.size p.A p.n els ∧ Nb w' w'.heap.size p.m.A p.m.n p.m.c ms
/-- what was read of bytes: the packet, where its fields end, the fault -/
def Rd (lo : Nat) (xs : List Nat) (w : World) (p : Pk) (en : Nat) (a k : Nat) : Prop :=
  match prs xs with
  | .bad a' k' => p = pk0 ∧ en = 0 ∧ a = a' ∧ k = k'
  | .ok h es en' => a = 0 ∧ k = 0 ∧ en = en' ∧ p.h = h ∧ h.ok ∧ p.m.key < 4294967296 ∧ ∃ els ms, els.map toEx = es ∧ Mem lo w p els ms ∧ packW p els ms = xs ∧ rightB p els = true ∧ (∀ x ∈ els, x.fit) ∧ ms.length = p.m.n ∧ macW p ms = xs.drop en'
theorem Mem.keep {lo lo' : Nat} {w w' : World} {p : Pk} {els : List El} {ms : List Nat} (h : Mem lo w p els ms) (hl : lo' ≤ lo) (hs : w.heap.size ≤ w'.heap.size) (hk : ∀ q, lo ≤ q → q < w.heap.size → w'.heap[q]? = w.heap[q]?) : Mem lo' w' p els ms := fun w2 h1 h2 =>
  h w2 (Nat.le_trans hs h1) fun q q1 q2 => (h2 q (Nat.le_trans hl q1) (Nat.lt_of_lt_of_le q2 hs)).trans (hk q q1 q2)
theorem Rd.keep {lo lo' : Nat} {xs : List Nat} {w w' : World} {p : Pk} {en a k : Nat} (h : Rd lo xs w p en a k) (hl : lo' ≤ lo) (hs : w.heap.size ≤ w'.heap.size) (hk : ∀ q, lo ≤ q → q < w.heap.size → w'.heap[q]? = w.heap[q]?) : Rd lo' xs w' p en a k := by
  unfold Rd at h ⊢
  split at h
  · exact h
  · obtain ⟨h1, h2, h3, h4, h5, h5', els, ms, h6, h7, h9⟩ := h
    exact ⟨h1, h2, h3, h4, h5, h5', els, ms, h6, h7.keep hl hs hk, h9⟩
theorem Rd.below {lo : Nat} {xs : List Nat} {w w' : World} {p : Pk} {en a k : Nat} (h : Rd lo xs w p en a k) (b : RowKit.Below w.heap.size w w') : Rd lo xs w' p en a k := h.keep (Nat.le_refl _) b.size fun q _ hq => b.block q hq
theorem rd_of {xs : List Nat} {w w' : World} {e : Ending} (hL : Lim 256 xs) (h : PrPost xs w e w') : RowKit.Below w.heap.size w w' ∧ ∃ (p : Pk) (en a k : Nat), e = .returned (res3 p (en : Int) (a : Int) (k : Int)) ∧ Rd w.heap.size xs w' p en a k := by
  refine ⟨h.1, ?_⟩
  have h2 := h.2
  cases hp : prs xs with
  | bad a k =>
    rw [hp] at h2
    exact ⟨pk0, 0, a, k, h2, by unfold Rd; rw [hp]; exact ⟨rfl, rfl, rfl, rfl⟩⟩
  | ok hd es en =>
    rw [hp] at h2
    obtain ⟨A, c, els, m, rfl, e1, e2, e3, e4⟩ := h2
    obtain ⟨ms, m1, m2, m3, m4, m5, m6, m7, m8, m9⟩ := back_of hL hp e1 (fun x hx => (e3 x hx).pos) (fun x hx => (e3 x hx).one.len) (fun x hx => (e3 x hx).two.len) A c e4
    refine ⟨_, en, 0, 0, rfl, ?_⟩
    unfold Rd
    rw [hp]
    refine ⟨rfl, rfl, rfl, rfl, m7, m8, els, ms, e1, fun w2 s2 k2 => ⟨?_, ?_⟩, m4, m5, m6, m1, ?_⟩
    · exact es_of (by rw [← e1]; simp) (e2.keep fun k hk => k2 k (e2.blk_lt k hk).1 (e2.blk_lt k hk).2) fun x hx => (e3 x hx).keep s2 (fun q hq hlo _ => k2 q hlo hq) (.inl rfl)
    · exact m3.keepn s2 fun hn ad ea => k2 _ (m9 ad ea) (m3.lt hn ea)
    obtain ⟨q1, q2, q3, q4, q5, q6, q7, q8, q9⟩ := prs_rev hL hp
    have hl : (headW hd ++ els.flatMap extB).length = en := by
      obtain ⟨z1, z2, z3⟩ := els_map e1 (fun x hx => (e3 x hx).pos) (fun x hx => (e3 x hx).one.len) (fun x hx => (e3 x hx).two.len) q3
      rw [List.length_append, headW_length, flat_length els z3, ← z2]
      exact q6.symm
    rw [← m4]
    exact (drop_pre hl).symm
theorem parse_rd {w : World} {n c : Nat} {A : Option Addr} {xs : List Nat} (h : Nb w w.heap.size A n c xs) (hn : n ≤ 1073741824) :
    Calls Try.prog 39 #[.slice A n c] w fun e w' => RowKit.Below w.heap.size w w' ∧ ∃ (p : Pk) (en a k : Nat), e = .returned (res3 p (en : Int) (a : Int) (k : Int)) ∧ Rd w.heap.size xs w' p en a k :=
  (parse_any h hn).mono fun e w' hp => rd_of h.lim hp
end Go.Proofs.Ytompggkdjbkjjaa.Wi
