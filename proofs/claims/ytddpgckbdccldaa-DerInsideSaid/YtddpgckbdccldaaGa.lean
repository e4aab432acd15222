/- What reading a value comes to (pure). Values whose blocks are chosen; what reader.kids has made so far. -/
import Derived.Test.YtddpgckbdccldaaFc
namespace Go.Proofs.Ytddpgckbdccldaa
set_option linter.unusedVariables false
set_option maxRecDepth 100000
/-- the kids up to a place, behind those that were read -/
def kidsM (V : Nat → Nat → Nat → Except (Nat × Nat) (T × Nat × Nat)) (to : Nat) : Nat → Nat → Nat → List T → List (Nat × Nat) → Except (Nat × Nat) (List T × List (Nat × Nat) × Nat × Nat)
  | 0, a, h, ks, ps => .ok (ks, ps, a, h)
  | n + 1, a, h, ks, ps => if a < to then
      match V a h to with
      | .error f => .error f
      | .ok (k, a', h') => kidsM V to n a' h' (ks ++ [k]) (ps ++ [(a, a')])
    else .ok (ks, ps, a, h)
/-- a value, or the first fault -/
def valM (bs : List Nat) : Nat → Nat → Nat → Nat → Except (Nat × Nat) (T × Nat × Nat)
  | L, a, h, around =>
    match tagM bs a h L with
    | .error f => .error f
    | .ok x => match endM bs (a + 1) around with
      | .error f => .error f
      | .ok (to, a1) =>
        if hk (x : Int) then
          match L with
          | 0 => .error (a, 75)
          | L + 1 => match kidsM (valM bs L) to (to - a1) a1 (h + 1) [] [] with
            | .error f => .error f
            | .ok (ks, ps, a', h') => if x = 49 ∧ risesP bs ps = false then .error (a, 74) else .ok (.mk (x : Int) [] ks, a', h')
        else if may (x : Int) ((bs.drop a1).take (to - a1)) then .ok (.mk (x : Int) ((bs.drop a1).take (to - a1)) [], to, h + 1) else .error (a, 74)
theorem tagM_ok {bs : List Nat} {a h L x : Nat} (hh : tagM bs a h L = .ok x) : a ≠ bs.length ∧ bs.getD a 0 = x ∧ tg (x : Int) = true ∧ L ≠ 0 ∧ h ≠ 4096 := by
  unfold tagM at hh
  split at hh
  · cases hh
  · split at hh
    · cases hh
    · split at hh
      · cases hh
      · split at hh
        · cases hh
        · next h1 h2 h3 h4 =>
          cases hh
          exact ⟨h1, rfl, by simpa using h2, h3, h4⟩
theorem moreM_adv (bs : List Nat) (f : Nat) : ∀ (left a acc x a' : Nat), moreM bs f left a acc = .ok (x, a') → a ≤ a'
  | 0, a, acc, x, a', h => by
    simp only [moreM] at h
    split at h
    · cases h
    · cases h; exact Nat.le_refl _
  | left + 1, a, acc, x, a', h => by
    simp only [moreM] at h
    split at h
    · cases h
    · split at h
      · cases h
      · have := moreM_adv bs f left (a + 1) _ x a' h
        omega
theorem lenM_adv {bs : List Nat} {a x a' : Nat} (h : lenM bs a = .ok (x, a')) : a < a' := by
  unfold lenM at h
  split at h
  · cases h
  · split at h
    · cases h; omega
    · split at h
      · cases h
      · have := moreM_adv bs a _ _ 0 x a' h
        omega
theorem endM_ok {bs : List Nat} {a around to a' : Nat} (h : endM bs a around = .ok (to, a')) : a < a' ∧ a' ≤ to ∧ to ≤ around ∧ ∃ x, lenM bs a = .ok (x, a') ∧ to = a' + x := by
  unfold endM at h
  split at h
  · cases h
  · next x a2 hl =>
    have := lenM_adv hl
    split at h
    · cases h; exact ⟨this, by omega, by assumption, x, hl, rfl⟩
    · split at h <;> cases h
theorem kidsM_adv {V : Nat → Nat → Nat → Except (Nat × Nat) (T × Nat × Nat)} {to : Nat} (hV : ∀ a h k a' h', h ≤ 4096 → V a h to = .ok (k, a', h') → a < a' ∧ a' ≤ to ∧ h < h' ∧ h' ≤ 4096) :
    ∀ (f a h : Nat) (ks : List T) (ps : List (Nat × Nat)) {ks' : List T} {ps' : List (Nat × Nat)} {a' h' : Nat}, a ≤ to → to - a ≤ f → h ≤ 4096 → kidsM V to f a h ks ps = .ok (ks', ps', a', h') → a' = to ∧ h ≤ h' ∧ h' ≤ 4096
  | 0, a, h, ks, ps, ks', ps', a', h', ha, hf, hh, he => by
    simp only [kidsM] at he
    cases he
    exact ⟨by omega, Nat.le_refl _, hh⟩
  | f + 1, a, h, ks, ps, ks', ps', a', h', ha, hf, hh, he => by
    simp only [kidsM] at he
    split at he
    · split at he
      · cases he
      · next k a2 h2 hv =>
        obtain ⟨h1, h3, h4, h5⟩ := hV a h k a2 h2 hh hv
        obtain ⟨r1, r2, r3⟩ := kidsM_adv hV f a2 h2 _ _ h3 (by omega) h5 he
        exact ⟨r1, by omega, r3⟩
    · cases he
      exact ⟨by omega, Nat.le_refl _, hh⟩
theorem valM_adv {bs : List Nat} : ∀ (L a h around : Nat) {t : T} {a' h' : Nat}, h ≤ 4096 → valM bs L a h around = .ok (t, a', h') → a < a' ∧ a' ≤ around ∧ h < h' ∧ h' ≤ 4096
  | L, a, h, around, t, a', h', hh, he => by
    unfold valM at he
    split at he
    · cases he
    · next x ht =>
      obtain ⟨_, _, _, hL, h4⟩ := tagM_ok ht
      split at he
      · cases he
      · next to a1 hend =>
        obtain ⟨e1, e2, e3, _⟩ := endM_ok hend
        split at he
        · match L, hL with
          | L + 1, _ =>
            simp only at he
            split at he
            · cases he
            · next ks ps a2 h2 hk =>
              obtain ⟨r1, r2, r3⟩ := kidsM_adv (fun a h k a' h' hh hv => valM_adv L a h to hh hv) _ _ _ _ _ e2 (Nat.le_refl _) (by omega) hk
              split at he
              · cases he
              · cases he
                exact ⟨by omega, by omega, by omega, r3⟩
        · split at he
          · cases he
            exact ⟨by omega, e3, by omega, by omega⟩
          · cases he
end Go.Proofs.Ytddpgckbdccldaa
namespace Go.Proofs.Ytddpgckbdccldaa
open Go.RowKit
set_option linter.unusedVariables false
set_option linter.unusedSimpArgs false
set_option maxRecDepth 100000
/-- the world of some blocks alone -/
def msk (w : World) (S : Nat → Bool) : World := { w with heap := w.heap.mapIdx fun i o => if S i then o else .cells #[] 0 (0, 0) }
theorem msk_cell (w : World) (S : Nat → Bool) (p : Addr) : (msk w S).cell? p = if S p.block then w.cell? p else none := by
  have e : (msk w S).heap[p.block]? = (w.heap[p.block]?).map fun o => if S p.block then o else .cells #[] 0 (0, 0) := by
    show (w.heap.mapIdx _)[p.block]? = _
    rw [Array.getElem?_mapIdx]
  unfold World.cell?
  rw [e]
  cases hw : w.heap[p.block]? with
  | none => simp
  | some o =>
    by_cases hs : S p.block = true
    · simp [hs]
    · simp [hs]
theorem Nb.keepS {w w' : World} {B B' : Nat} {A : Option Addr} {n c : Nat} {xs : List Nat} (h : Nb w B A n c xs) (hB : B ≤ B') (hk : ∀ p : Addr, p.block < B → ∀ v, w.cell? p = some v → w'.cell? p = some v) : Nb w' B' A n c xs :=
  ⟨h.len, h.cap, h.room, h.lim, fun hn => by
    obtain ⟨b, off, e, hb, hc⟩ := h.cell hn
    exact ⟨b, off, e, by omega, fun j x hx => hk ⟨b, _, none⟩ hb _ (hc j x hx)⟩⟩
theorem Ks.keepS' {w w' : World} {B B' f : Nat} {K : Option Addr} {m d : Nat} {ks : List T} (hB : B ≤ B') (hk : ∀ p : Addr, p.block < B → ∀ v, w.cell? p = some v → w'.cell? p = some v) (ht : ∀ {h : Hd} {t : T}, Tr w B f h t → Tr w' B' f h t) (k : Ks w B f K m d ks) : Ks w' B' f K m d ks :=
  ⟨k.len, k.cap, k.room, k.lim, fun h0 => by
    obtain ⟨g, off, e, hg, hc⟩ := k.cell h0
    refine ⟨g, off, e, by omega, fun i q hq => ?_⟩
    obtain ⟨h', q0, q1, q2, q3⟩ := hc i q hq
    exact ⟨h', hk ⟨g, _, Option.none⟩ hg _ q0, hk ⟨g, _, Option.none⟩ hg _ q1, hk ⟨g, _, Option.none⟩ hg _ q2, ht q3⟩⟩
theorem Tr.keepS {w w' : World} {B B' : Nat} (hB : B ≤ B') (hk : ∀ p : Addr, p.block < B → ∀ v, w.cell? p = some v → w'.cell? p = some v) : ∀ {f : Nat} {h : Hd} {t : T}, Tr w B f h t → Tr w' B' f h t
  | 0, _, _, H => H.elim
  | f + 1, h, t, H => by
    obtain ⟨h1, h2, h3, h4, k⟩ := H.parts
    exact Tr.mk h1 h2 (h3.keepS hB hk) h4 (k.keepS' hB hk (fun H => Tr.keepS hB hk H))
theorem Ks.keepS {w w' : World} {B B' f : Nat} {K : Option Addr} {m d : Nat} {ks : List T} (k : Ks w B f K m d ks) (hB : B ≤ B') (hk : ∀ p : Addr, p.block < B → ∀ v, w.cell? p = some v → w'.cell? p = some v) : Ks w' B' f K m d ks := k.keepS' hB hk (fun H => H.keepS hB hk)
/-- cells of chosen blocks go over, where these are as they were and chosen again -/
theorem msk_go {w w' : World} {B : Nat} {S S' : Nat → Bool} (hs : ∀ b, b < B → S b = true → S' b = true ∧ w'.heap[b]? = w.heap[b]?) : ∀ p : Addr, p.block < B → ∀ v, (msk w S).cell? p = some v → (msk w' S').cell? p = some v := by
  intro p hp v hv
  rw [msk_cell] at hv ⊢
  split at hv
  · next h =>
    obtain ⟨h1, h2⟩ := hs p.block hp h
    rw [if_pos h1, ← hv]
    exact World.cell?_of_block (w := w) h2
  · cases hv
theorem Tr.move {w w' : World} {B B' f : Nat} {S S' : Nat → Bool} {h : Hd} {t : T} (H : Tr (msk w S) B f h t) (hB : B ≤ B') (hs : ∀ b, b < B → S b = true → S' b = true ∧ w'.heap[b]? = w.heap[b]?) : Tr (msk w' S') B' f h t := H.keepS hB (msk_go hs)
theorem Tr.bare {w : World} {B f : Nat} {S : Nat → Bool} {h : Hd} {t : T} (H : Tr (msk w S) B f h t) : Tr w B f h t := H.keepS (Nat.le_refl _) (fun p _ v hv => by
  rw [msk_cell] at hv
  split at hv
  · exact hv
  · cases hv)
/-- a value's three words -/
def hcl (h : Hd) : List Value := [.int .i64 h.t, .slice h.A h.n h.c, .slice h.K h.m h.d]
def hcls (hs : List Hd) : List Value := hs.flatMap hcl
def pcl (p : Nat × Nat) : List Value := [.int .i64 (p.1 : Int), .int .i64 (p.2 : Int)]
def pcls (ps : List (Nat × Nat)) : List Value := ps.flatMap pcl
theorem flat_get {α : Type} (f : α → List Value) (s : Nat) (hf : ∀ x, (f x).length = s) : ∀ (l : List α) (i j : Nat) (x : α), l[i]? = some x → j < s → (l.flatMap f)[i * s + j]? = (f x)[j]?
  | [], i, j, x, h, _ => by simp at h
  | y :: l, 0, j, x, h, hj => by
    simp only [List.getElem?_cons_zero, Option.some.injEq] at h
    subst h
    rw [List.flatMap_cons, Nat.zero_mul, Nat.zero_add, List.getElem?_append_left (by rw [hf]; exact hj)]
  | y :: l, i + 1, j, x, h, hj => by
    rw [List.getElem?_cons_succ] at h
    rw [List.flatMap_cons, List.getElem?_append_right (by rw [hf, Nat.succ_mul]; omega), hf, show (i + 1) * s + j - s = i * s + j by rw [Nat.succ_mul]; omega]
    exact flat_get f s hf l i j x h hj
/-- the blocks from lo on but those of the two rows -/
def sel (lo : Nat) (A P : Option Addr) (b : Nat) : Bool := decide (lo ≤ b) && decide (blk A ≠ some b) && decide (blk P ≠ some b)
theorem sel_iff {lo : Nat} {A P : Option Addr} {b : Nat} : sel lo A P b = true ↔ lo ≤ b ∧ blk A ≠ some b ∧ blk P ≠ some b := by simp [sel, and_assoc]
/-- what kids has made so far: the reader at g, the box of the reader's address at k, the box of the fault at s, a row of values and a row of places -/
structure KS (w W : World) (g k s f : Nat) (A : Option Addr) (n c a h : Nat) (AL : Option Addr) (nl cl : Nat) (AP : Option Addr) (np cp : Nat) (hs : List Hd) (ts : List T) (ps : List (Nat × Nat)) : Prop where
  kp : Kp g w W
  glt : g < w.heap.size
  rb : Rb W g A n c a h
  kc : W.heap[k]? = some (.cells #[.pointer (some ⟨g, 0, none⟩)] 83 (0, 0))
  kge : w.heap.size ≤ k
  sb : B2 W s 47 (.int .i64 0) (.int .i64 0)
  sge : w.heap.size ≤ s
  gl : Gw W w.heap.size 25 3 AL nl cl (hcls hs)
  gp : Gw W w.heap.size 97 2 AP np cp (pcls ps)
  d1 : ∀ x, blk AL = some x → blk AP ≠ some x ∧ x ≠ k ∧ x ≠ s
  d2 : ∀ x, blk AP = some x → x ≠ k ∧ x ≠ s
  lh : hs.length = nl
  lt : ts.length = nl
  lp : ps.length = np
  tr : ∀ (i : Nat) (hd : Hd) (t : T), hs[i]? = some hd → ts[i]? = some t → Tr (msk W (sel w.heap.size AL AP)) W.heap.size f hd t
theorem cells_lt {w : World} {b : Nat} {o : Obj} (h : w.heap[b]? = some o) : b < w.heap.size := by
  rcases Nat.lt_or_ge b w.heap.size with hlt | hge
  · exact hlt
  · rw [Array.getElem?_eq_none hge] at h; cases h
/-- the world goes on, nothing of it changes but the reader -/
theorem KS.go {w W W' : World} {g k s f : Nat} {A : Option Addr} {n c a h a' h' : Nat} {AL : Option Addr} {nl cl : Nat} {AP : Option Addr} {np cp : Nat} {hs : List Hd} {ts : List T} {ps : List (Nat × Nat)}
    (H : KS w W g k s f A n c a h AL nl cl AP np cp hs ts ps) (K : Kp g W W') (R : Rb W' g A n c a' h') : KS w W' g k s f A n c a' h' AL nl cl AP np cp hs ts ps := by
  have ne : ∀ b, w.heap.size ≤ b → b < W.heap.size → W'.heap[b]? = W.heap[b]? := fun b h1 h2 => K.block b h2 (fun e => by cases e; have := H.glt; omega)
  refine ⟨H.kp.trans K, H.glt, R, (ne k H.kge (cells_lt H.kc)).trans H.kc, H.kge, (ne s H.sge H.sb.lt).trans H.sb, H.sge, H.gl.keep (fun q hq => ne q (H.gl.blk_lt q hq).1 (H.gl.blk_lt q hq).2), H.gp.keep (fun q hq => ne q (H.gp.blk_lt q hq).1 (H.gp.blk_lt q hq).2), H.d1, H.d2, H.lh, H.lt, H.lp, fun i hd t h1 h2 => ?_⟩
  refine (H.tr i hd t h1 h2).move K.size (fun b hb hsb => ⟨hsb, ne b (sel_iff.1 hsb).1 hb⟩)
/-- a value more -/
theorem KS.push {w W W' : World} {g k s f : Nat} {A : Option Addr} {n c a h : Nat} {AL : Option Addr} {nl cl : Nat} {AP : Option Addr} {np cp : Nat} {hs : List Hd} {ts : List T} {ps : List (Nat × Nat)} {AL' : Option Addr} {cl' : Nat} {hd : Hd} {t : T}
    (H : KS w W g k s f A n c a h AL nl cl AP np cp hs ts ps) (G : Gw W' w.heap.size 25 3 AL' (nl + 1) cl' (hcls hs ++ hcl hd)) (R : Gr W AL W' AL') (ht : Tr (msk W (sel w.heap.size AL AP)) W.heap.size f hd t) :
    KS w W' g k s f A n c a h AL' (nl + 1) cl' AP np cp (hs ++ [hd]) (ts ++ [t]) ps := by
  have ne : ∀ b, b < W.heap.size → blk AL ≠ some b → W'.heap[b]? = W.heap[b]? := fun b h2 h3 => R.1.block b h2 (Ne.symm h3)
  have hg : blk AL ≠ some g := fun e => by have := (H.gl.blk_lt _ e).1; have := H.glt; omega
  have hk : blk AL ≠ some k := fun e => (H.d1 _ e).2.1 rfl
  have hs' : blk AL ≠ some s := fun e => (H.d1 _ e).2.2 rfl
  have hP : ∀ x, blk AP = some x → blk AL ≠ some x := fun x e e2 => (H.d1 x e2).1 e
  have hnew : ∀ b, b < W.heap.size → blk AL ≠ some b → blk AL' ≠ some b := fun b hb hne e => by
    rcases R.2 with e2 | ⟨q, e2, hq⟩
    · exact hne (e2 ▸ e)
    · rw [e2] at e; cases e; omega
  have trn : ∀ {hd : Hd} {t : T}, Tr (msk W (sel w.heap.size AL AP)) W.heap.size f hd t → Tr (msk W' (sel w.heap.size AL' AP)) W'.heap.size f hd t := fun T0 =>
    T0.move R.size (fun b hb hsb => by
      obtain ⟨h1, h2, h3⟩ := sel_iff.1 hsb
      exact ⟨sel_iff.2 ⟨h1, hnew b hb h2, h3⟩, ne b hb h2⟩)
  refine ⟨?_, H.glt, (ne g H.rb.lt hg).trans H.rb, (ne k (cells_lt H.kc) hk).trans H.kc, H.kge, (ne s H.sb.lt hs').trans H.sb, H.sge, ?_, H.gp.keep (fun q hq => ne q (H.gp.blk_lt q hq).2 (hP q hq)), ?_, H.d2, by simp [H.lh], by simp [H.lt], H.lp, ?_⟩
  · refine ⟨R.1.os.trans H.kp.os, R.1.tape.trans H.kp.tape, R.1.output.trans H.kp.output, Nat.le_trans H.kp.size R.size, fun b hb hbg => ?_⟩
    exact (ne b (Nat.lt_of_lt_of_le hb H.kp.size) (fun e => by have := (H.gl.blk_lt _ e).1; omega)).trans (H.kp.block b hb hbg)
  · have : hcls (hs ++ [hd]) = hcls hs ++ hcl hd := by simp [hcls]
    rw [this]; exact G
  · intro x hx
    rcases R.2 with e2 | ⟨q, e2, hq⟩
    · rw [e2] at hx; exact H.d1 x hx
    · rw [e2] at hx
      cases hx
      refine ⟨fun e => ?_, fun e => ?_, fun e => ?_⟩
      · have := (H.gp.blk_lt _ e).2; omega
      · have := cells_lt H.kc; omega
      · have := H.sb.lt; omega
  · intro i hd' t' h1 h2
    rw [List.getElem?_append] at h1 h2
    rw [H.lh] at h1
    rw [H.lt] at h2
    split at h1
    · next hi =>
      rw [if_pos hi] at h2
      exact trn (H.tr i hd' t' h1 h2)
    · next hi =>
      rw [if_neg hi] at h2
      have e1 : i - nl = 0 := by
        have := (List.getElem?_eq_some_iff.1 h1).1
        simp at this
        omega
      rw [e1] at h1 h2
      simp at h1 h2
      subst h1 h2
      exact trn ht
/-- a place more -/
theorem KS.place {w W W' : World} {g k s f : Nat} {A : Option Addr} {n c a h : Nat} {AL : Option Addr} {nl cl : Nat} {AP : Option Addr} {np cp : Nat} {hs : List Hd} {ts : List T} {ps : List (Nat × Nat)} {AP' : Option Addr} {cp' : Nat} {p : Nat × Nat}
    (H : KS w W g k s f A n c a h AL nl cl AP np cp hs ts ps) (G : Gw W' w.heap.size 97 2 AP' (np + 1) cp' (pcls ps ++ pcl p)) (R : Gr W AP W' AP') :
    KS w W' g k s f A n c a h AL nl cl AP' (np + 1) cp' hs ts (ps ++ [p]) := by
  have ne : ∀ b, b < W.heap.size → blk AP ≠ some b → W'.heap[b]? = W.heap[b]? := fun b h2 h3 => R.1.block b h2 (Ne.symm h3)
  have hg : blk AP ≠ some g := fun e => by have := (H.gp.blk_lt _ e).1; have := H.glt; omega
  have hk : blk AP ≠ some k := fun e => (H.d2 _ e).1 rfl
  have hs' : blk AP ≠ some s := fun e => (H.d2 _ e).2 rfl
  have hnew : ∀ b, b < W.heap.size → blk AP ≠ some b → blk AP' ≠ some b := fun b hb hne e => by
    rcases R.2 with e2 | ⟨q, e2, hq⟩
    · exact hne (e2 ▸ e)
    · rw [e2] at e; cases e; omega
  refine ⟨?_, H.glt, (ne g H.rb.lt hg).trans H.rb, (ne k (cells_lt H.kc) hk).trans H.kc, H.kge, (ne s H.sb.lt hs').trans H.sb, H.sge, H.gl.keep (fun q hq => ne q (H.gl.blk_lt q hq).2 (H.d1 q hq).1), ?_, ?_, ?_, H.lh, H.lt, by simp [H.lp], ?_⟩
  · refine ⟨R.1.os.trans H.kp.os, R.1.tape.trans H.kp.tape, R.1.output.trans H.kp.output, Nat.le_trans H.kp.size R.size, fun b hb hbg => ?_⟩
    exact (ne b (Nat.lt_of_lt_of_le hb H.kp.size) (fun e => by have := (H.gp.blk_lt _ e).1; omega)).trans (H.kp.block b hb hbg)
  · have : pcls (ps ++ [p]) = pcls ps ++ pcl p := by simp [pcls]
    rw [this]; exact G
  · intro x hx
    obtain ⟨h1, h2, h3⟩ := H.d1 x hx
    exact ⟨hnew x (H.gl.blk_lt x hx).2 h1, h2, h3⟩
  · intro x hx
    rcases R.2 with e2 | ⟨q, e2, hq⟩
    · rw [e2] at hx; exact H.d2 x hx
    · rw [e2] at hx
      cases hx
      refine ⟨fun e => ?_, fun e => ?_⟩
      · have := cells_lt H.kc; omega
      · have := H.sb.lt; omega
  · intro i hd t h1 h2
    exact (H.tr i hd t h1 h2).move R.size (fun b hb hsb => by
      obtain ⟨h1, h2, h3⟩ := sel_iff.1 hsb
      exact ⟨sel_iff.2 ⟨h1, h2, hnew b hb h3⟩, ne b hb h3⟩)
/-- the row of values is the kids of a value -/
theorem KS.ks {w W : World} {g k s f : Nat} {A : Option Addr} {n c a h : Nat} {AL : Option Addr} {nl cl : Nat} {AP : Option Addr} {np cp : Nat} {hs : List Hd} {ts : List T} {ps : List (Nat × Nat)}
    (H : KS w W g k s f A n c a h AL nl cl AP np cp hs ts ps) (hn : nl ≤ 65535) : Ks (msk W fun b => decide (w.heap.size ≤ b)) W.heap.size f AL nl cl ts := by
  have hcap : nl ≤ cl ∧ cl ≤ maxLen := by
    rcases H.gl.2 with ⟨e, h0⟩ | ⟨b, cap, cur, e, _, _, h1, h2, _⟩
    · cases e
      exact ⟨Nat.le_refl _, Nat.zero_le _⟩
    · cases e
      exact ⟨h1, h2⟩
  refine ⟨H.lt, hcap.1, hcap.2, by omega, fun h0 => ?_⟩
  obtain ⟨gl, e, hge, hlt, hc⟩ := H.gl.cell h0 (by omega)
  refine ⟨gl, 0, e, hlt, fun i q hq => ?_⟩
  have hi : i < nl := by rw [← H.lt]; exact (List.getElem?_eq_some_iff.1 hq).1
  obtain ⟨hd, hhd⟩ : ∃ hd, hs[i]? = some hd := ⟨_, List.getElem?_eq_getElem (by rw [H.lh]; exact hi)⟩
  have key : ∀ j v, (hcl hd)[j]? = some v → (msk W fun b => decide (w.heap.size ≤ b)).cell? ⟨gl, 0 + (i * 3 + j), none⟩ = some v := fun j v hv => by
    rw [msk_cell, if_pos (by simpa using hge), Nat.zero_add]
    have hj : j < 3 := by
      have := (List.getElem?_eq_some_iff.1 hv).1
      simpa [hcl] using this
    exact hc _ v (by rw [hcls, flat_get hcl 3 (fun _ => rfl) hs i j hd hhd hj]; exact hv)
  refine ⟨hd, key 0 _ rfl, key 1 _ rfl, key 2 _ rfl, ?_⟩
  exact (H.tr i hd q hhd hq).move (Nat.le_refl _) (fun b hb hsb => ⟨by simpa using (sel_iff.1 hsb).1, rfl⟩)
/-- the row of places -/
theorem KS.pl {w W : World} {g k s f : Nat} {A : Option Addr} {n c a h : Nat} {AL : Option Addr} {nl cl : Nat} {AP : Option Addr} {np cp : Nat} {hs : List Hd} {ts : List T} {ps : List (Nat × Nat)}
    (H : KS w W g k s f A n c a h AL nl cl AP np cp hs ts ps) : Pl W W.heap.size AP np cp ps := by
  have hcap : np ≤ cp ∧ cp ≤ maxLen := by
    rcases H.gp.2 with ⟨e, h0⟩ | ⟨b, cap, cur, e, _, _, h1, h2, _⟩
    · cases e
      exact ⟨Nat.le_refl _, Nat.zero_le _⟩
    · cases e
      exact ⟨h1, h2⟩
  refine ⟨H.lp, hcap.1, hcap.2, fun h0 => ?_⟩
  obtain ⟨gl, e, hge, hlt, hc⟩ := H.gp.cell h0 (by omega)
  refine ⟨gl, 0, e, hlt, fun i q hq => ?_⟩
  have key : ∀ j v, (pcl q)[j]? = some v → W.cell? ⟨gl, 0 + (i * 2 + j), none⟩ = some v := fun j v hv => by
    rw [Nat.zero_add]
    have hj : j < 2 := by
      have := (List.getElem?_eq_some_iff.1 hv).1
      simpa [pcl] using this
    exact hc _ v (by rw [pcls, flat_get pcl 2 (fun _ => rfl) ps i j q hq hj]; exact hv)
  exact ⟨key 0 _ rfl, key 1 _ rfl⟩
end Go.Proofs.Ytddpgckbdccldaa
