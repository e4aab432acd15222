/- audit: keys of letters; what waits under each. -/
import Derived.Test.YtompggkdjbkjjaaA7
namespace Go.Proofs.Ytompggkdjbkjjaa
open Go.RowKit Go.Maps Go.MapKept Go.ChangeMaps
open Go.WideMaps (KeyLaw)
set_option linter.unusedVariables false
set_option maxRecDepth 100000
theorem laidOut : laidOutB Try.prog = true := by kernel_rfl
theorem row63 : (63 : TypeId) < Try.prog.types.size := of_decide_eq_true (by kernel_rfl)
theorem deep63 : Try.prog.keyTypeAt (Try.prog.types.size + 1) 63 = true := by kernel_rfl
theorem wide63 : (match Try.prog.underlying 63 with | some (.array _ _) | some (.struct _) => true | _ => false) = true := by kernel_rfl
theorem law63 : KeyLaw Try.prog 63 := deep_law_laid laidOut (m := 3) (by omega) row63 (by kernel_rfl) wide63
theorem zero30 (u : World) : (zeroValue 30).run Try.prog u = .ok (.slice none 0 0) u := by kernel_rfl
/-- the key of who sends, to whom, and what -/
def kv (f t : Nat) (xs : List Nat) : Value := .agg #[.int .u32 (f : Int), .int .u32 (t : Int), .string (bstr xs)]
theorem u32_wf {f : Nat} (h : f < 4294967296) : (Lit.int .u32 (f : Int)).wf = true := by
  simp [Lit.wf, IntKind.min, IntKind.max, IntKind.signed, IntKind.bits]; omega
theorem cells61 : Try.prog.cellsOf 61 = 2 := by kernel_rfl
theorem cells63 : Try.prog.cellsOf 63 = 3 := by kernel_rfl
theorem cells51 : Try.prog.cellsOf 51 = 1 := by kernel_rfl
theorem cells9 : Try.prog.cellsOf 9 = 1 := by kernel_rfl
theorem bstr_size (xs : List Nat) : (bstr xs).size = xs.length := by unfold bstr; rw [strOfNums_size]; simp
theorem types_size : ∃ n, Try.prog.types.size + 1 = n + 3 := ⟨Try.prog.types.size - 2, by have h : 63 < Try.prog.types.size := row63; omega⟩
theorem key63 {f t : Nat} {xs : List Nat} (hf : f < 4294967296) (ht : t < 4294967296) (hx : xs.length ≤ maxLen) : ∃ kl, keyOf Try.prog 63 (kv f t xs) = some kl := by
  have hs : (bstr xs).size ≤ maxLen := by rw [bstr_size]; exact hx
  unfold keyOf
  rw [Try.underlying63]
  have hkt : Try.prog.keyType 63 = true := deep63
  obtain ⟨n, hn⟩ := types_size
  simp only [hkt, Bool.true_and]
  rw [if_pos (by unfold kv Value.formed; rw [Try.underlying63]; simp [cells63]), hn]
  simp [Program.keyLits, kv, Value.cells, Try.underlying63, Try.underlying61, Try.underlying51, cells63, cells61, cells51, cells9, u32_wf hf, u32_wf ht, hs]
  rw [if_pos (by intro i hi; have h2 : i = 0 ∨ i = 1 := by omega
                 rcases h2 with rfl | rfl <;> simp)]
  exact ⟨_, rfl⟩
theorem bstr_inj {a b : List Nat} (ha : Lim 256 a) (hb : Lim 256 b) (h : bstr a = bstr b) : a = b := by
  have h' : (bstr a).data.toList = (bstr b).data.toList := by rw [h]
  unfold bstr at h'
  rw [strOfNums_data, strOfNums_data, List.map_map, List.map_map] at h'
  have back : ∀ l : List Nat, Lim 256 l → (l.map ((fun n : Int => UInt8.ofNat n.toNat) ∘ fun x : Nat => (x : Int))).map (fun u => u.toNat) = l := by
    intro l hl
    induction l with
    | nil => rfl
    | cons x l ih =>
      have hx := hl x (by simp)
      simp only [List.map_cons] at ih ⊢
      rw [ih (fun y hy => hl y (List.mem_cons_of_mem _ hy))]
      congr 1
      simp only [Function.comp, Int.toNat_natCast, UInt8.toNat_ofNat']
      omega
  rw [← back a ha, ← back b hb, h']
theorem kv_inj {f t f' t' : Nat} {xs xs' : List Nat} (hx : Lim 256 xs) (hx' : Lim 256 xs') (h : kv f t xs = kv f' t' xs') : f = f' ∧ t = t' ∧ xs = xs' := by
  simp only [kv, Value.agg.injEq, Array.mk.injEq, List.cons.injEq, Value.int.injEq, true_and, and_true, Value.string.injEq] at h
  exact ⟨by omega, by omega, bstr_inj hx hx' h.2.2⟩
/-- what waits: block b is the map; under the key q the places L q wait, each key's in a row of its own, none in the block O -/
structure Pd (w : World) (base b n : Nat) (O : Option Nat) (L : Value → List Nat) (f : Value → Value) : Prop where
  map : ∃ g, Mp Try.prog 63 (.slice none 0 0) w b n f g
  lt : b < base
  rows : ∀ q, Sv w base (f q) (L q)
  apart : ∀ q q', q ≠ q' → (f q).ownBlock = none ∨ (f q).ownBlock ≠ (f q').ownBlock
  off : ∀ q, (f q).ownBlock = none ∨ (f q).ownBlock ≠ O
theorem Pd.made (w : World) : Pd (w.alloc (.map #[] 0)) (w.heap.size + 1) w.heap.size 0 none (fun _ => []) (fun _ => .slice none 0 0) :=
  ⟨⟨_, Mp.made _ _ _ _⟩, Nat.lt_succ_self _, fun q => .inl ⟨rfl, rfl⟩, fun _ _ _ => .inl rfl, fun _ => .inl rfl⟩
theorem Pd.b_lt {w : World} {base b n : Nat} {O : Option Nat} {L f} (h : Pd w base b n O L f) : b < w.heap.size := by obtain ⟨g, hg⟩ := h.map; exact hg.lt
/-- other blocks turn -/
theorem Pd.keep {w w' : World} {base b n : Nat} {O O' : Option Nat} {L f} (h : Pd w base b n O L f) (hg : w.grownBy w' O) (hO : O ≠ some b) (hO' : O' = O ∨ ∃ k, O' = some k ∧ w.heap.size ≤ k) : Pd w' base b n O' L f := by
  refine ⟨?_, h.lt, fun q => (h.rows q).keep hg.size fun k hk hlt => hg.block k hlt fun e => ?_, h.apart, fun q => ?_⟩
  · obtain ⟨g, hm⟩ := h.map
    exact ⟨g, hm.keep (hg.block b hm.lt fun e => hO e.symm)⟩
  · rcases h.off q with h1 | h1
    · rw [h1] at hk; cases hk
    · exact h1 (hk.trans e)
  · rcases hO' with e | ⟨k, e, hk⟩
    · rw [e]; exact h.off q
    · rcases h1 : (f q).ownBlock with _ | j
      · exact .inl rfl
      · refine .inr fun e2 => ?_
        have := ((h.rows q).blk_lt j h1).2
        rw [e] at e2; cases e2; omega
theorem Pd.below {w w' : World} {base b n : Nat} {O : Option Nat} {L f} (h : Pd w base b n O L f) (hb : RowKit.Below w.heap.size w w') : Pd w' base b n O L f := by
  refine ⟨?_, h.lt, fun q => (h.rows q).keep hb.size fun k _ hlt => hb.block k hlt, h.apart, h.off⟩
  obtain ⟨g, hm⟩ := h.map
  exact ⟨g, hm.keep (hb.block b hm.lt)⟩
theorem Pd.mono {w : World} {base b n n' : Nat} {O : Option Nat} {L f} (h : Pd w base b n O L f) (hn : n ≤ n') : Pd w base b n' O L f :=
  ⟨by obtain ⟨g, hm⟩ := h.map; exact ⟨g, hm.mono hn⟩, h.lt, h.rows, h.apart, h.off⟩
/-- under one key something else waits from now on, in the same row or a new one; nothing else has turned but the map -/
theorem Pd.store {w w1 w2 w3 : World} {base b n : Nat} {O : Option Nat} {L f} (h : Pd w base b n O L f) {key v : Value} {xs : List Nat}
    (h1 : w.grownBy w1 (some b)) (h2 : w1.grownBy w2 (f key).ownBlock) (hv : Sv w2 base v xs) (hl : v.ownBlock = (f key).ownBlock ∨ v.ownBlock = none ∨ ∃ k, v.ownBlock = some k ∧ w.heap.size ≤ k)
    (h3 : w2.grownBy w3 (some b)) (hOk : ∀ k, O = some k → k < w.heap.size) (hm : ∃ g, Mp Try.prog 63 (.slice none 0 0) w3 b (n + 1) (upd f key v) g) : Pd w3 base b (n + 1) O (upd L key xs) (upd f key v) := by
  have hs : w.heap.size ≤ w2.heap.size := Nat.le_trans h1.size h2.size
  have hall : ∀ q, q ≠ key → Sv w3 base (f q) (L q) := fun q hq => by
    refine (h.rows q).keep (Nat.le_trans hs h3.size) fun k hk hlt => ?_
    have hkb : k ≠ b := fun e => by have := ((h.rows q).blk_lt k hk).1; have := h.lt; omega
    refine (h3.block k (by omega) (by simpa using hkb)).trans ((h2.block k (Nat.lt_of_lt_of_le hlt h1.size) fun e => ?_).trans (h1.block k hlt (by simpa using hkb)))
    rcases h.apart q key hq with e1 | e1
    · rw [e1] at hk; cases hk
    · exact e1 (hk.trans e)
  have hv3 : Sv w3 base v xs := hv.keep h3.size fun k hk hlt => h3.block k hlt (by
    have := (hv.blk_lt k hk).1
    have := h.lt
    simp; omega)
  refine ⟨hm, h.lt, fun q => ?_, fun q q' hne => ?_, fun q => ?_⟩
  · by_cases e : q = key
    · subst e; rw [upd_same, upd_same]; exact hv3
    · rw [upd_other _ _ e, upd_other _ _ e]; exact hall q e
  · by_cases e : q = key
    · subst e
      rw [upd_same, upd_other _ _ (fun e => hne e.symm)]
      rcases hl with e1 | e1 | ⟨k, e1, hk⟩
      · rw [e1]; exact h.apart _ _ hne
      · exact .inl e1
      · refine .inr fun e2 => ?_
        have := ((h.rows q').blk_lt k (by rw [← e2, e1])).2
        omega
    · by_cases e' : q' = key
      · subst e'
        rw [upd_same, upd_other _ _ e]
        rcases hl with e1 | e1 | ⟨k, e1, hk⟩
        · rw [e1]; exact h.apart _ _ hne
        · rw [e1]
          rcases h2 : (f q).ownBlock with _ | j
          · exact .inl rfl
          · exact .inr (by simp)
        · rcases h2 : (f q).ownBlock with _ | j
          · exact .inl rfl
          · refine .inr fun e2 => ?_
            have := ((h.rows q).blk_lt j h2).2
            rw [e1] at e2; cases e2; omega
      · rw [upd_other _ _ e, upd_other _ _ e']; exact h.apart _ _ hne
  · by_cases e : q = key
    · subst e
      rw [upd_same]
      rcases hl with e1 | e1 | ⟨k, e1, hk⟩
      · rw [e1]; exact h.off _
      · exact .inl e1
      · refine .inr fun e2 => ?_
        have := hOk k (by rw [← e2, e1])
        omega
    · rw [upd_other _ _ e]; exact h.off _
end Go.Proofs.Ytompggkdjbkjjaa
