/- A Hash in memory: what it has taken; sha.Sum; Hash.changed. -/
import Derived.Test.YtafpnpfiefbddaaDoorChangeAll
import Derived.StillTailTactics
namespace Go.Proofs.YtafpnpfiefbddaaDoor
set_option linter.unusedSimpArgs false
set_option linter.unusedVariables false
open Go.RowKit
set_option linter.unusedVariables false
set_option maxRecDepth 100000

theorem run_storeVar_part {P : Program} (w : World) (g o : Nat) (ty : TypeId) (cs : List Value) (t : TypeId) (cur : List Value) (hg : w.heap[g]? = some (.cells cur.toArray t (0, 0)))
    (h1 : ∀ v ∈ cs, v.oneCell' = true) (hs : o + cs.length ≤ cur.length) (hi : (P.info? ty).map (·.size) = some cs.length) :
    (storeVar ty ⟨g, o, none⟩ (.agg cs.toArray)).run P w = .ok () (w.setRow g (cur.take o ++ cs ++ cur.drop (o + cs.length)).toArray) := by
  cases hq : P.info? ty with
  | none => simp [hq] at hi
  | some i =>
    have hsz : i.size = cs.length := by simpa [hq] using hi
    have hst := run_storeCells_at (P := P) g o t cs 0 cur.toArray w hg (by simpa using hs) h1
    simp only [Nat.add_zero] at hst
    simp [storeVar, Sem.run_bind, sizeOf, typeInfo, hq, hsz, Value.cells, hst]
theorem wpList_store_part {P : Program} {ops : Array Oper} {rest : List Oper} {o : Oper} {a : Act} {w : World} {Q : Exit → Act → World → Prop} (hgd : o.guard = none) (hd : o.dst = none) (ty : TypeId) (x v : Operand) (ho : o.op = .store ty x v)
    (g off : Nat) (hx : a.eval x = .pointer (some ⟨g, off, none⟩)) (cs : List Value) (hv : a.eval v = .agg cs.toArray) (t : TypeId) (cur : List Value) (hg : w.heap[g]? = some (.cells cur.toArray t (0, 0)))
    (h1 : ∀ v ∈ cs, v.oneCell' = true) (hs : off + cs.length ≤ cur.length) (hi : (P.info? ty).map (·.size) = some cs.length)
    (h : wpList P ops Q rest a (w.setRow g (cur.take off ++ cs ++ cur.drop (off + cs.length)).toArray)) : wpList P ops Q (o :: rest) a w := by
  refine wpList_plain hgd fun K hK => ?_
  unfold Oper.wp execOp
  simp only [ho, hx, hv, Instr.storeAt, Instr.sureAddr, Sem.run_bind, Sem.run_pure, Result.andThen_ok, run_storeVar_part w g off ty cs t cur hg h1 hs hi]
  have := hK _ _ h
  simpa [Oper.upon, hd, Act.put] using this

/-- sha.Sum -/
theorem sum_any {w : World} (hk : Ks w) {A : Option Addr} {n c : Nat} {xs : List Nat} (hx : Nb w w.heap.size A n c xs) (hn : n ≤ 1000000000) :
    Calls Tryd.prog 22 #[.slice A n c] w fun e w' => e = .returned (.agg (bs (sha xs)).toArray) ∧ Below w.heap.size w w' := by
  have hl := hx.len
  have hsz := hk.size
  obtain ⟨z, hz⟩ : ∃ z, 9 + (119 - n % 64) % 64 = z := ⟨_, rfl⟩
  have hzl : (pad n).length = z := by rw [length_pad, hz]
  have hz2 : z ≤ 72 := by omega
  obtain ⟨S, hS⟩ : ∃ S, chgN first (xs ++ pad n) ((n + z) / 64) = S := ⟨_, rfl⟩
  have hSo : S.Ok := by rw [← hS]; exact chgN_ok first_ok _ _
  have hsha : sha xs = dig S := by rw [sha_is, hl, hzl, hS]
  rw [hsha]
  have Hz := Lib.hid hz
  have HS := Lib.hid hS
  have Hzl := Lib.hid hzl
  have h0 : Bb (w.alloc (Yb 60 (List.replicate 32 0))) w.heap.size 60 (List.replicate 32 0) := alloc_bb w _ _
  have b0 : Below w.heap.size w (w.alloc (Yb 60 (List.replicate 32 0))) := (Below.refl _ _).alloc (Nat.le_refl _) _
  clear hz hS hsha hl hzl
  go_enter Tryd.func22, Tryd.ntmps22
  go_wp2_with fail
  change Calls _ _ _ (w.alloc (Yb 60 (List.replicate 32 0))) _
  generalize w.alloc (Yb 60 (List.replicate 32 0)) = w0 at *
  refine (firstWords_any w0).mono ?_
  rintro e w1 ⟨rfl, b1⟩
  have h1 := h0.below b1 h0.lt
  have B1 : Below w.heap.size w w1 := b0.trans (b1.mono b0.size)
  go_wp2_with fail
  refine (padding_any n (by omega) w1).mono ?_
  rintro e w2 ⟨g, rfl, hg, hp, b2⟩
  rw [Hz.out]
  have h2 := h1.below b2 h1.lt
  have B2 : Below w.heap.size w w2 := B1.trans (b2.mono B1.size)
  have hpn := hp.nb 0 z z (by rw [Hzl.out]; omega) (Nat.le_refl _) (by omega) (pad_lim n)
  rw [List.drop_zero, List.take_of_length_le (by rw [Hzl.out]; omega)] at hpn
  go_wp2_with fail
  have hch := change_any (hk.below B2 hsz) first first_ok ((hx.below B2).more B2.size) hpn (by omega)
  rw [HS.out] at hch
  refine hch.mono ?_
  rintro e w3 ⟨rfl, b3⟩
  have h3 := h2.below b3 h2.lt
  have B3 : Below w.heap.size w w3 := B2.trans (b3.mono B2.size)
  go_wp2_with fail
  refine (digest_any S hSo w3).mono ?_
  rintro e w4 ⟨rfl, b4⟩
  have h4 := h3.below b4 h3.lt
  have B4 : Below w.heap.size w w4 := B3.trans (b4.mono B3.size)
  have hDl : (bs (dig S)).length = 32 := by rfl
  have HD := Lib.hid hDl
  clear hDl
  generalize hDe : dig S = D at *
  have HDe := Lib.hid hDe
  clear hDe
  go_wp2_with (refine wpList_store_row rfl rfl 60 (.tmp 2) (.tmp 9) rfl w.heap.size rfl (bs D) rfl 60 _ h4 (bs_one _) (by rw [HD.out]; simp [bs]) (by rw [HD.out]; kernel_rfl) ?_)
  have hr1 := setRow_heap w4 w.heap.size _ (bs D).toArray 60 (0, 0) h4
  exact bodyPost_ret (v := .agg (bs D).toArray) (results_cell_row rfl _ _ w.heap.size 60 _ (0, 0) _ rfl hr1 Tryd.underlying60 rfl (by rw [List.size_toArray, HD.out]; kernel_rfl)) rfl ⟨by rw [HDe.out], below_setRow B4 (Nat.le_refl _) _⟩

/-- the cells of a Hash -/
def hcells (s : St) (A : Option Addr) (n c l : Nat) : List Value := wv (words s) ++ [.slice A n c, .int .i64 (l : Int)]
/-- block g is a Hash that has taken a text; what is left over lies from block lo on -/
structure HashAt (w : World) (lo g : Nat) (text : List Nat) : Prop where
  ex : ∃ s A n c, s.Ok ∧ (text ≠ [] → s = chgN first text (text.length / 64)) ∧ w.heap[g]? = some (.cells (hcells s A n c text.length).toArray 104 (0, 0)) ∧
    Nb w w.heap.size A n c (text.drop (64 * (text.length / 64))) ∧ (0 < n → ∃ r off, A = some ⟨r, off, none⟩ ∧ lo ≤ r ∧ r ≠ g)
  lt : g < w.heap.size
  top : lo ≤ w.heap.size
  lim : Lim 256 text
  short : text.length ≤ 1000000000
theorem HashAt.grown {w w' : World} {lo g : Nat} {text : List Nat} {row : Option Nat} (h : HashAt w lo g text) (hg : w.grownBy w' row) (hr : ∀ q, row = some q → q ≠ g ∧ q < lo) : HashAt w' lo g text := by
  obtain ⟨s, A, n, c, h1, h2, h3, h4, h5⟩ := h.ex
  refine ⟨⟨s, A, n, c, h1, h2, ?_, ?_, h5⟩, Nat.lt_of_lt_of_le h.lt hg.size, Nat.le_trans h.top hg.size, h.lim, h.short⟩
  · exact (hg.block g h.lt (fun e => (hr g e.symm).1 rfl)).trans h3
  · refine ⟨h4.len, h4.cap, h4.room, h4.lim, fun h0 => ?_⟩
    obtain ⟨r, off, e, hle, hne⟩ := h5 h0
    obtain ⟨b, o, e', hb, hc⟩ := h4.cell h0
    subst e
    cases e'
    exact ⟨r, off, rfl, Nat.lt_of_lt_of_le hb hg.size, fun j x hx => (cell_of_block (hg.block r hb (fun e => by have := (hr r e.symm).2; omega))).trans (hc j x hx)⟩
theorem HashAt.below {w w' : World} {lo g : Nat} {text : List Nat} (h : HashAt w lo g text) (hb : Below w.heap.size w w') : HashAt w' lo g text := h.grown (below_grown hb) (fun _ e => by cases e)
theorem HashAt.mono {w : World} {lo lo' g : Nat} {text : List Nat} (h : HashAt w lo g text) (hl : lo' ≤ lo) : HashAt w lo' g text := by
  obtain ⟨s, A, n, c, h1, h2, h3, h4, h5⟩ := h.ex
  exact ⟨⟨s, A, n, c, h1, h2, h3, h4, fun h0 => by obtain ⟨r, off, e, hle, hne⟩ := h5 h0; exact ⟨r, off, e, by omega, hne⟩⟩, h.lt, Nat.le_trans hl h.top, h.lim, h.short⟩

theorem Ks.drew {w : World} (h : Ks w) : Ks w.drew := ⟨h.size, h.cell⟩
theorem Nb.drewN1 {w : World} {A : Option Addr} {n c : Nat} {xs : List Nat} (h : Nb w w.heap.size A n c xs) : Nb w.drew w.drew.heap.size A n c xs := ⟨h.len, h.cap, h.room, h.lim, h.cell⟩
theorem hcells_get (s : St) (A : Option Addr) (n c l j : Nat) (v : Value) (w : World) (g : Nat) (h : w.heap[g]? = some (.cells (hcells s A n c l).toArray 104 (0, 0))) (hj : (hcells s A n c l)[j]? = some v) : w.cell? ⟨g, j, none⟩ = some v := by
  rw [cell_of_row w g j _ 104 (0, 0) h]; simpa using hj

set_option maxHeartbeats 2000000 in
theorem changed_any {w : World} (hk : Ks w) {lo g : Nat} {text ys : List Nat} (h : HashAt w lo g text) {A2 : Option Addr} {m c2 : Nat} (hy : Nb w w.heap.size A2 m c2 ys) (hm : m ≤ 1000000000) :
    Calls Tryd.prog 53 #[.pointer (some ⟨g, 0, none⟩), .slice A2 m c2] w fun e w' => e = .returned (sv (chgN first (text ++ ys) ((text.length + m) / 64))) ∧ Below w.heap.size w w' := by
  have hsz := hk.size
  have hsh := h.short
  have hglt : g < w.heap.size := h.lt
  obtain ⟨s, A, n, c, h1, h2, h3, h4, h5⟩ := h.ex
  have c0 : w.cell? ⟨g, 0, none⟩ = some (.int .u32 (s.a : Int)) := hcells_get _ _ _ _ _ 0 _ _ _ h3 rfl
  have c1 : w.cell? ⟨g, 1, none⟩ = some (.int .u32 (s.b : Int)) := hcells_get _ _ _ _ _ 1 _ _ _ h3 rfl
  have c2' : w.cell? ⟨g, 2, none⟩ = some (.int .u32 (s.c : Int)) := hcells_get _ _ _ _ _ 2 _ _ _ h3 rfl
  have c3 : w.cell? ⟨g, 3, none⟩ = some (.int .u32 (s.d : Int)) := hcells_get _ _ _ _ _ 3 _ _ _ h3 rfl
  have c4 : w.cell? ⟨g, 4, none⟩ = some (.int .u32 (s.e : Int)) := hcells_get _ _ _ _ _ 4 _ _ _ h3 rfl
  have c5 : w.cell? ⟨g, 5, none⟩ = some (.int .u32 (s.f : Int)) := hcells_get _ _ _ _ _ 5 _ _ _ h3 rfl
  have c6 : w.cell? ⟨g, 6, none⟩ = some (.int .u32 (s.g : Int)) := hcells_get _ _ _ _ _ 6 _ _ _ h3 rfl
  have c7 : w.cell? ⟨g, 7, none⟩ = some (.int .u32 (s.h : Int)) := hcells_get _ _ _ _ _ 7 _ _ _ h3 rfl
  have c8 : w.cell? ⟨g, 8, none⟩ = some (.slice A n c) := hcells_get _ _ _ _ _ 8 _ _ _ h3 rfl
  have c9 : w.cell? ⟨g, 9, none⟩ = some (.int .i64 (text.length : Int)) := hcells_get _ _ _ _ _ 9 _ _ _ h3 rfl
  have hn := h4.len
  rw [List.length_drop] at hn
  obtain ⟨L, hL⟩ : ∃ L, text.length = L := ⟨_, rfl⟩
  have HL := Lib.hid hL
  have Hn := Lib.hid hn
  rw [hL] at c9 hsh
  have H2 := Lib.hid h2
  have H5 := Lib.hid h5
  have H3 := Lib.hid h3
  clear hL h2 h5 hn h3
  have hn64 : n < 64 := by have := Hn.out; have := HL.out; omega
  obtain ⟨R, hRe⟩ : ∃ R, chgN first (text ++ ys) ((L + m) / 64) = R := ⟨_, rfl⟩
  rw [HL.out, hRe]
  by_cases hL0 : L = 0
  · have hte : text = [] := List.eq_nil_of_length_eq_zero (by rw [HL.out]; exact hL0)
    have hR : chgN first (text.drop (64 * (text.length / 64)) ++ ys) ((n + m) / 64) = R := by
      rw [← hRe, hL0, hte, show n = 0 by have := Hn.out; rw [hte] at this; simpa using this.symm]
      simp
    have okS := first_ok
    have hb : ((L : Int) == 0) = true := by simp; omega
    have z0 : Wb ((w.alloc (Ob 84 (List.replicate 8 0))).alloc (Ob 84 (words s))) w.heap.size 84 (List.replicate 8 0) := (alloc_ob _ _ _).alloc _
    have t0 : Wb ((w.alloc (Ob 84 (List.replicate 8 0))).alloc (Ob 84 (words s))) (w.heap.size + 1) 84 (words s) := by
      have := alloc_ob (w.alloc (Ob 84 (List.replicate 8 0))) 84 (words s)
      rwa [World.size_alloc] at this
    have b0 : Below w.heap.size w ((w.alloc (Ob 84 (List.replicate 8 0))).alloc (Ob 84 (words s))) := ((Below.refl _ _).alloc (Nat.le_refl _) _).alloc (by simp) _
    have HRe := Lib.hid hRe
    clear hRe hte
    go_enter Tryd.func53, Tryd.ntmps53
    go_wp2_with fail
    change Calls _ _ _ ((w.alloc (Ob 84 (List.replicate 8 0))).alloc (Ob 84 (words s))) _
    generalize (w.alloc (Ob 84 (List.replicate 8 0))).alloc (Ob 84 (words s)) = w0 at *
    refine (firstWords_any w0).mono ?_
    rintro e wf ⟨rfl, bf⟩
    have zf := z0.below bf z0.lt
    have tf := t0.below bf t0.lt
    have bF : Below w.heap.size w wf := b0.trans (bf.mono b0.size)
    clear c0 c1 c2' c3 c4 c5 c6 c7
    go_wp2_with (refine wpList_store_row rfl rfl 84 (.tmp 5) (.tmp 15) rfl (w.heap.size + 1) rfl (wv (words first)) rfl 84 _ tf (wv_one _) (by simp [wv, words]) (by kernel_rfl) ?_)
    have t1 : Wb (wf.setRow (w.heap.size + 1) (wv (words first)).toArray) (w.heap.size + 1) 84 (words first) := setRow_heap _ _ _ _ _ _ tf
    have z1 : Wb (wf.setRow (w.heap.size + 1) (wv (words first)).toArray) w.heap.size 84 _ := (setRow_other _ _ _ _ (by omega)).trans zf
    have b1 : Below w.heap.size w (wf.setRow (w.heap.size + 1) (wv (words first)).toArray) := below_setRow bF (Nat.le_succ _) _
    generalize wf.setRow (w.heap.size + 1) (wv (words first)).toArray = w1 at *
    have d0 : w1.cell? ⟨w.heap.size + 1, 0, none⟩ = some (.int .u32 (first.a : Int)) := t1.cell (j := 0) (by simp [words])
    have d1 : w1.cell? ⟨w.heap.size + 1, 1, none⟩ = some (.int .u32 (first.b : Int)) := t1.cell (j := 1) (by simp [words])
    have d2 : w1.cell? ⟨w.heap.size + 1, 2, none⟩ = some (.int .u32 (first.c : Int)) := t1.cell (j := 2) (by simp [words])
    have d3 : w1.cell? ⟨w.heap.size + 1, 3, none⟩ = some (.int .u32 (first.d : Int)) := t1.cell (j := 3) (by simp [words])
    have d4 : w1.cell? ⟨w.heap.size + 1, 4, none⟩ = some (.int .u32 (first.e : Int)) := t1.cell (j := 4) (by simp [words])
    have d5 : w1.cell? ⟨w.heap.size + 1, 5, none⟩ = some (.int .u32 (first.f : Int)) := t1.cell (j := 5) (by simp [words])
    have d6 : w1.cell? ⟨w.heap.size + 1, 6, none⟩ = some (.int .u32 (first.g : Int)) := t1.cell (j := 6) (by simp [words])
    have d7 : w1.cell? ⟨w.heap.size + 1, 7, none⟩ = some (.int .u32 (first.h : Int)) := t1.cell (j := 7) (by simp [words])
    have e8 : w1.cell? ⟨g, 8, none⟩ = some (.slice A n c) := (b1.cell (p := ⟨g, 8, none⟩) hglt).trans c8
    have hs1 := z1.lt
    have hch := change_any (w := w1.drew) ((hk.below b1 hsz).drew) first okS ((h4.below b1).more b1.size).drewN1 ((hy.below b1).more b1.size).drewN1 (by omega)
    rw [hR] at hch
    have Hch : Hid (Calls Tryd.prog 38 #[.agg #[.int .u32 (first.a : Int), .int .u32 (first.b : Int), .int .u32 (first.c : Int), .int .u32 (first.d : Int), .int .u32 (first.e : Int), .int .u32 (first.f : Int), .int .u32 (first.g : Int), .int .u32 (first.h : Int)], .slice A n c, .slice A2 m c2] w1.drew fun e w' => e = .returned (.agg (wv (words R)).toArray) ∧ Below w1.drew.heap.size w1.drew w') := hch
    clear hch c8 c9
    go_still_tail 6, (by kernel_rfl)
    change wpList _ _ _ _ _ w1.drew
    replace z1 := z1.drew
    replace b1 := below_drew b1
    replace hs1 : w.heap.size < w1.drew.heap.size := hs1
    generalize w1.drew = w2 at *
    clear d0 d1 d2 d3 d4 d5 d6 d7 e8
    go_wp2_with fail
    refine Hch.out.mono ?_
    rintro e w3 ⟨rfl, b3⟩
    have z3 := z1.below b3 z1.lt
    have B3 : Below w.heap.size w w3 := b1.trans (b3.mono b1.size)
    go_wp2_with (refine wpList_store_row rfl rfl 84 (.tmp 4) (.tmp 22) rfl w.heap.size rfl (wv (words R)) rfl 84 _ z3 (wv_one _) (by simp [wv, words]) (by kernel_rfl) ?_)
    have hr1 := setRow_heap w3 w.heap.size _ (wv (words R)).toArray 84 (0, 0) z3
    exact bodyPost_ret (v := .agg (wv (words R)).toArray) (results_cell_row rfl _ _ w.heap.size 84 _ (0, 0) _ rfl hr1 Tryd.underlying84 rfl (by kernel_rfl)) rfl ⟨rfl, below_setRow B3 (Nat.le_refl _) _⟩
  · have hb : ((L : Int) == 0) = false := by simp; omega
    have okS := h1
    have hne : text ≠ [] := fun e => hL0 (by rw [← HL.out, e]; rfl)
    have hR : chgN s (text.drop (64 * (text.length / 64)) ++ ys) ((n + m) / 64) = R := by
      rw [← hRe, ← HL.out, ← hy.len, chgN_two, H2.out hne, h4.len]
    have HRe := Lib.hid hRe
    clear hRe hne
    have z1 : Wb ((w.alloc (Ob 84 (List.replicate 8 0))).alloc (Ob 84 (words s))) w.heap.size 84 (List.replicate 8 0) := (alloc_ob _ _ _).alloc _
    have t1 : Wb ((w.alloc (Ob 84 (List.replicate 8 0))).alloc (Ob 84 (words s))) (w.heap.size + 1) 84 (words s) := by
      have := alloc_ob (w.alloc (Ob 84 (List.replicate 8 0))) 84 (words s)
      rwa [World.size_alloc] at this
    have b1 : Below w.heap.size w ((w.alloc (Ob 84 (List.replicate 8 0))).alloc (Ob 84 (words s))) := ((Below.refl _ _).alloc (Nat.le_refl _) _).alloc (by simp) _
    go_enter Tryd.func53, Tryd.ntmps53
    go_wp2
    change Code.wp _ _ _ _ ((w.alloc (Ob 84 (List.replicate 8 0))).alloc (Ob 84 (words s)))
    generalize (w.alloc (Ob 84 (List.replicate 8 0))).alloc (Ob 84 (words s)) = w1 at *
    have d0 : w1.cell? ⟨w.heap.size + 1, 0, none⟩ = some (.int .u32 (s.a : Int)) := t1.cell (j := 0) (by simp [words])
    have d1 : w1.cell? ⟨w.heap.size + 1, 1, none⟩ = some (.int .u32 (s.b : Int)) := t1.cell (j := 1) (by simp [words])
    have d2 : w1.cell? ⟨w.heap.size + 1, 2, none⟩ = some (.int .u32 (s.c : Int)) := t1.cell (j := 2) (by simp [words])
    have d3 : w1.cell? ⟨w.heap.size + 1, 3, none⟩ = some (.int .u32 (s.d : Int)) := t1.cell (j := 3) (by simp [words])
    have d4 : w1.cell? ⟨w.heap.size + 1, 4, none⟩ = some (.int .u32 (s.e : Int)) := t1.cell (j := 4) (by simp [words])
    have d5 : w1.cell? ⟨w.heap.size + 1, 5, none⟩ = some (.int .u32 (s.f : Int)) := t1.cell (j := 5) (by simp [words])
    have d6 : w1.cell? ⟨w.heap.size + 1, 6, none⟩ = some (.int .u32 (s.g : Int)) := t1.cell (j := 6) (by simp [words])
    have d7 : w1.cell? ⟨w.heap.size + 1, 7, none⟩ = some (.int .u32 (s.h : Int)) := t1.cell (j := 7) (by simp [words])
    have e8 : w1.cell? ⟨g, 8, none⟩ = some (.slice A n c) := (b1.cell (p := ⟨g, 8, none⟩) hglt).trans c8
    have hs1 := z1.lt
    have hch := change_any (w := w1.drew) ((hk.below b1 hsz).drew) s okS ((h4.below b1).more b1.size).drewN1 ((hy.below b1).more b1.size).drewN1 (by omega)
    rw [hR] at hch
    have Hch : Hid (Calls Tryd.prog 38 #[.agg #[.int .u32 (s.a : Int), .int .u32 (s.b : Int), .int .u32 (s.c : Int), .int .u32 (s.d : Int), .int .u32 (s.e : Int), .int .u32 (s.f : Int), .int .u32 (s.g : Int), .int .u32 (s.h : Int)], .slice A n c, .slice A2 m c2] w1.drew fun e w' => e = .returned (.agg (wv (words R)).toArray) ∧ Below w1.drew.heap.size w1.drew w') := hch
    clear hch c0 c1 c2' c3 c4 c5 c6 c7 c8 c9
    go_still_tail 6, (by kernel_rfl)
    change wpList _ _ _ _ _ w1.drew
    replace z1 := z1.drew
    replace b1 := below_drew b1
    replace hs1 : w.heap.size < w1.drew.heap.size := hs1
    generalize w1.drew = w2 at *
    clear d0 d1 d2 d3 d4 d5 d6 d7 e8
    go_wp2_with fail
    refine Hch.out.mono ?_
    rintro e w3 ⟨rfl, b3⟩
    have z3 := z1.below b3 z1.lt
    have B3 : Below w.heap.size w w3 := b1.trans (b3.mono b1.size)
    go_wp2_with (refine wpList_store_row rfl rfl 84 (.tmp 4) (.tmp 22) rfl w.heap.size rfl (wv (words R)) rfl 84 _ z3 (wv_one _) (by simp [wv, words]) (by kernel_rfl) ?_)
    have hr1 := setRow_heap w3 w.heap.size _ (wv (words R)).toArray 84 (0, 0) z3
    exact bodyPost_ret (v := .agg (wv (words R)).toArray) (results_cell_row rfl _ _ w.heap.size 84 _ (0, 0) _ rfl hr1 Tryd.underlying84 rfl (by kernel_rfl)) rfl ⟨rfl, below_setRow B3 (Nat.le_refl _) _⟩
end Go.Proofs.YtafpnpfiefbddaaDoor
