/- Maps of the call's own, by what stands at each key (any kind of element). -/
import Derived.Test.YtompggkdjbkjjaaA5
import Derived.Maps.OwnSet
import Derived.WideKeyEntry
namespace Go.Proofs.Ytompggkdjbkjjaa
open Go.RowKit Go.Maps Go.MapKept Go.ChangeMaps
open Go.WideMaps (KeyLaw)
set_option linter.unusedVariables false
set_option maxRecDepth 100000
/-- an element read as itself -/
def heldR (v : Value) : Option (DataW Value × List MemPlace) := some (.held v, [])
open Classical in
noncomputable def upd {α : Type} (f : Value → α) (key : Value) (x : α) : Value → α := fun q => if q = key then x else f q
theorem upd_same {α : Type} (f : Value → α) (key : Value) (x : α) : upd f key x key = x := by simp [upd]
theorem upd_other {α : Type} (f : Value → α) {key q : Value} (x : α) (h : q ≠ key) : upd f key x q = f q := by simp [upd, h]
/-- block b is a map of at most n entries; at each key stands f, and there is an entry where g -/
def Mp (P : Program) (k : TypeId) (z : Value) (w : World) (b n : Nat) (f : Value → Value) (g : Value → Bool) : Prop :=
  ∃ D : DataW Value, w.ownsMap P k heldR b n D ∧ ∀ key kl, keyOf P k key = some kl → D.atKey kl (.held z) = .held (f key) ∧ Maps.has D kl = g key
theorem Mp.made (P : Program) (k : TypeId) (z : Value) (w : World) : Mp P k z (w.alloc (.map #[] 0)) w.heap.size 0 (fun _ => z) (fun _ => false) :=
  ⟨_, World.ownsMap_made _ _ _ _, fun key kl h => ⟨rfl, rfl⟩⟩
variable {P : Program} {k : TypeId} {z : Value} {w : World} {b n : Nat} {f : Value → Value} {g : Value → Bool}
theorem Mp.lt (h : Mp P k z w b n f g) : b < w.heap.size := by obtain ⟨D, hD, _⟩ := h; exact hD.lt
theorem Mp.keep {w' : World} (h : Mp P k z w b n f g) (hb : w'.heap[b]? = w.heap[b]?) : Mp P k z w' b n f g := by
  obtain ⟨D, ⟨es, clock, h1, h2⟩, hr⟩ := h
  exact ⟨D, ⟨es, clock, hb.trans h1, h2⟩, hr⟩
theorem Mp.mono {n' : Nat} (h : Mp P k z w b n f g) (hn : n ≤ n') : Mp P k z w b n' f g := by
  obtain ⟨D, hD, hr⟩ := h
  exact ⟨D, hD.mono hn, hr⟩
theorem Mp.look {t e : TypeId} (h : Mp P k z w b n f g) (K : KeyLaw P k) (ht : P.underlying t = some (.map k e)) (hz : (zeroValue e).run P w = .ok z w) {key : Value} {kl : Lit} (hkey : keyOf P k key = some kl) :
    (Instr.lookup t (.map (some b)) key false).run P w = .ok (f key) w := by
  obtain ⟨D, hD, hr⟩ := h
  obtain ⟨v, ps, hrun, hv⟩ := hD.lookup (Keyed.of_law K) ht hz (zd := .held z) (zp := []) rfl hkey
  have e1 := (hr key kl hkey).1
  simp only [heldR, Option.some.injEq, Prod.mk.injEq] at hv
  rw [← hv.1] at e1
  simp only [DataW.held.injEq] at e1
  rw [hrun, e1]
theorem Mp.look_ok {t e : TypeId} (h : Mp P k z w b n f g) (K : KeyLaw P k) (ht : P.underlying t = some (.map k e)) (hz : (zeroValue e).run P w = .ok z w) {key : Value} {kl : Lit} (hkey : keyOf P k key = some kl) :
    (Instr.lookup t (.map (some b)) key true).run P w = .ok (.tuple #[f key, .bool (g key)]) w := by
  obtain ⟨D, hD, hr⟩ := h
  obtain ⟨v, ps, hrun, hv⟩ := hD.look_ok (Keyed.of_law K) ht hz (zd := .held z) (zp := []) rfl hkey
  have e1 := (hr key kl hkey).1
  simp only [heldR, Option.some.injEq, Prod.mk.injEq] at hv
  rw [← hv.1] at e1
  simp only [DataW.held.injEq] at e1
  rw [hrun, e1, (hr key kl hkey).2]
theorem put_reads (K : KeyLaw P k) {D : DataW Value} (hm : Maps.IsMap D) {key val : Value} {kl : Lit} (hkey : keyOf P k key = some kl)
    (hr : ∀ q ql, keyOf P k q = some ql → D.atKey ql (.held z) = .held (f q) ∧ Maps.has D ql = g q) :
    ∀ q ql, keyOf P k q = some ql → (D.put kl (.held val)).atKey ql (.held z) = .held (upd f key val q) ∧ Maps.has (D.put kl (.held val)) ql = upd g key true q := by
  intro q ql hq
  have hk : WideAt.IsKeyLit kl := (Keyed.of_law K).key hkey
  by_cases e : q = key
  · subst e
    rw [hkey] at hq
    cases hq
    rw [upd_same, upd_same, atKey_put_same hm hk, has_put_same hm hk]
    exact ⟨rfl, rfl⟩
  · have hne : ql ≠ kl := fun e2 => e (K.inj (e2 ▸ hq) hkey)
    rw [upd_other _ _ e, upd_other _ _ e, atKey_put_other hne, has_put_other hne]
    exact hr q ql hq
theorem Mp.put {t e : TypeId} (h : Mp P k z w b n f g) (K : KeyLaw P k) (ht : P.underlying t = some (.map k e)) (hn : n < maxLen) {key : Value} {kl : Lit} (hkey : keyOf P k key = some kl) (val : Value) :
    ∃ w', (Instr.mapUpdate t (.map (some b)) key val).run P w = .ok () w' ∧ Mp P k z w' b (n + 1) (upd f key val) (upd g key true) ∧ w.grownBy w' (some b) := by
  obtain ⟨D, hD, hr⟩ := h
  obtain ⟨w', hrun, h1, h2⟩ := hD.update (Keyed.of_law K) ht hn hkey (val := val) (d := .held val) (ps := []) rfl
  exact ⟨w', hrun, ⟨_, h1, put_reads K hD.isMap hkey hr⟩, h2⟩
/-- 'm[k] = f(m[k])': the entry is read, and stored to when the new element is there, whatever other blocks have become in between -/
theorem Mp.entry {t e : TypeId} (h : Mp P k z w b n f g) (K : KeyLaw P k) (ht : P.underlying t = some (.map k e)) (hz : ∀ u : World, (zeroValue e).run P u = .ok z u) (hn : n < maxLen) {key : Value} {kl : Lit} (hkey : keyOf P k key = some kl) :
    ∃ st w1, (Instr.mapEntry t (.map (some b)) key).run P w = .ok (.tuple #[f key, goInt st]) w1 ∧ w.grownBy w1 (some b) ∧
      ∀ (w2 : World) (val : Value), w2.heap[b]? = w1.heap[b]? → ∃ w3, (Instr.entryStore t (.map (some b)) (goInt st) val).run P w2 = .ok () w3 ∧ Mp P k z w3 b (n + 1) (upd f key val) (upd g key true) ∧ w2.grownBy w3 (some b) := by
  have hlook := h.look K ht (hz w) hkey
  obtain ⟨D, hD, hr⟩ := h
  have hD0 := hD
  obtain ⟨es, clock, hb, F, hs, rfl⟩ := hD
  obtain ⟨v0, st, es1, clock1, hrun, hv, hst⟩ := WideElems.entry_then_store K ht hz hb F hkey
  have hlt : b < w.heap.size := (Array.getElem?_eq_some_iff.1 hb).1
  have hv0 : v0 = f key := by
    rcases Maps.fit_look false (Keyed.of_law K) ht (hz w) hb F hkey with ⟨hl, hne, _⟩ | ⟨e0, y, he, hek, hl, _⟩
    · rw [hl] at hlook
      simp only [Bool.false_eq_true, if_false, Result.ok.injEq, and_true] at hlook
      rcases hv with ⟨e0, he, hek, _⟩ | ⟨_, h1⟩
      · exact absurd hek (hne e0 he)
      · rw [h1, hlook]
    · rw [hl] at hlook
      simp only [Bool.false_eq_true, if_false, Result.ok.injEq, and_true] at hlook
      rcases hv with ⟨e1, he1, hek1, h1⟩ | ⟨hne, _⟩
      · rw [h1, ← hlook]
        have hp := fit_apart (Keyed.of_law K) F
        rw [List.pairwise_map] at hp
        have key : ∀ x ∈ es.toList, x.key = key → (WideElems.rg P k heldR x).1 = kl := fun x hx hxk => by
          obtain ⟨y, hy⟩ := F.reads x hx
          have m1 := WideElems.rd_key hy
          rw [WideElems.rg_of hy]
          rw [hxk, hkey] at m1
          exact (Option.some.inj m1).symm
        obtain ⟨i, hi, rfl⟩ := List.getElem_of_mem he
        obtain ⟨j, hj, rfl⟩ := List.getElem_of_mem he1
        have k0 := key _ he hek
        have k1 := key _ he1 hek1
        rw [List.pairwise_iff_getElem] at hp
        rcases Nat.lt_trichotomy i j with hij | hij | hij
        · exact absurd (k0.trans k1.symm) (hp i j hi hj hij)
        · subst hij; rfl
        · exact absurd (k1.trans k0.symm) (hp j i hj hi hij)
      · exact absurd hek (hne e0 he)
  subst hv0
  refine ⟨st, _, hrun, ⟨rfl, rfl, rfl, by simp [setBlock], fun i _ hi => heap_setBlock_other hb _ (fun e => hi (by rw [e]))⟩, fun w2 val hw2 => ?_⟩
  rw [heap_setBlock_same hb _] at hw2
  obtain ⟨es', clock', h1, h2⟩ := hst w2 val hw2
  obtain ⟨w', hrun', h3, h4⟩ := hD0.update (Keyed.of_law K) ht hn hkey (val := val) (d := .held val) (ps := []) rfl
  rw [h2] at hrun'
  cases hrun'
  refine ⟨_, h1, ⟨_, ?_, put_reads K hD0.isMap hkey hr⟩, ⟨rfl, rfl, rfl, by simp [setBlock], fun i _ hi => heap_setBlock_other hw2 _ (fun e => hi (by rw [e]))⟩⟩
  obtain ⟨es2, clock2, g1, g2⟩ := h3
  refine ⟨es2, clock2, ?_, g2⟩
  rw [heap_setBlock_same hb _] at g1
  rw [heap_setBlock_same hw2 _]
  exact g1
end Go.Proofs.Ytompggkdjbkjjaa
