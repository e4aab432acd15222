/- sha.New, Hash.Write, Hash.Sum, Hash.Len, Hash.Reset. -/
import Derived.Test.YtafpnpfiefbddaaDoorHash
namespace Go.Proofs.YtafpnpfiefbddaaDoor
set_option linter.unusedSimpArgs false
set_option linter.unusedVariables false
open Go.RowKit
set_option linter.unusedVariables false
set_option maxRecDepth 100000

def zeroSt : St := ⟨0, 0, 0, 0, 0, 0, 0, 0⟩
theorem zero_ok : zeroSt.Ok := by constructor <;> decide
theorem hash_new {w : World} {g : Nat} (h : w.heap[g]? = some (.cells (hcells zeroSt none 0 0 0).toArray 104 (0, 0))) (lo : Nat) (hg : g < w.heap.size) (hlo : lo ≤ w.heap.size) : HashAt w lo g [] :=
  ⟨⟨zeroSt, none, 0, 0, zero_ok, fun h => absurd rfl h, h, Nb.nil _ _ 0 (by omega) none, fun h0 => absurd h0 (Nat.lt_irrefl _)⟩, hg, hlo, Lim.nil _, by simp⟩
theorem new_any (w : World) : Calls Tryd.prog 34 #[] w fun e w' => e = .returned (.pointer (some ⟨w.heap.size, 0, none⟩)) ∧ HashAt w' w'.heap.size w.heap.size [] ∧ Below w.heap.size w w' := by
  have h0 := heap_alloc_new w (.cells (hcells zeroSt none 0 0 0).toArray 104 (0, 0))
  have H := Lib.hid (hash_new h0 _ (by simp) (Nat.le_refl _))
  have B : Below w.heap.size w (w.alloc (.cells (hcells zeroSt none 0 0 0).toArray 104 (0, 0))) := (Below.refl _ _).alloc (Nat.le_refl _) _
  have HB := Lib.hid B
  clear h0 B
  go_enter Tryd.func34, Tryd.ntmps34
  go_wp2
  go_ret
  exact ⟨rfl, H.out, HB.out⟩

theorem write_nil (v : Value) (w : World) : Calls Tryd.prog 35 #[.pointer none, v] w fun e w' => e = .returned (.int .i64 6) ∧ w = w' := by
  go_enter Tryd.func35, Tryd.ntmps35
  go_wp2
  go_ret
  exact ⟨rfl, rfl⟩
theorem hcells_one (s : St) (A : Option Addr) (n c l : Nat) : ∀ v ∈ hcells s A n c l, v.oneCell' = true := by
  intro v hv
  simp only [hcells, List.mem_append, List.mem_cons, List.not_mem_nil, or_false] at hv
  rcases hv with hv | rfl | rfl
  · exact wv_one _ _ hv
  · rfl
  · rfl
theorem hcells_words (s R : St) (A : Option Addr) (n c l : Nat) : (hcells s A n c l).take 0 ++ wv (words R) ++ (hcells s A n c l).drop (0 + (wv (words R)).length) = hcells R A n c l := rfl
theorem hcells_rest (s : St) (A A' : Option Addr) (n c n' c' l : Nat) : (hcells s A n c l).toArray.setIfInBounds 8 (.slice A' n' c') = (hcells s A' n' c' l).toArray := rfl
theorem hcells_len (s : St) (A : Option Addr) (n c l l' : Nat) : (hcells s A n c l).toArray.setIfInBounds 9 (.int .i64 (l' : Int)) = (hcells s A n c l').toArray := rfl
theorem grown_trans {a b c : World} {row : Option Nat} (h : a.grownBy b row) (k : b.grownBy c row) : a.grownBy c row :=
  ⟨k.os.trans h.os, k.tape.trans h.tape, k.output.trans h.output, Nat.le_trans h.size k.size, fun i hi hne => (k.block i (Nat.lt_of_lt_of_le hi h.size) hne).trans (h.block i hi hne)⟩
theorem grown_weak {a b : World} (h : a.grownBy b none) (g : Nat) : a.grownBy b (some g) := ⟨h.os, h.tape, h.output, h.size, fun i hi _ => h.block i hi (by simp)⟩
theorem grown_setCell (w : World) (p : Addr) (v : Value) : w.grownBy (w.setCell p v) (some p.block) :=
  ⟨rfl, rfl, rfl, by simp [World.setCell], fun i hi hne => Below.heap_setCell w p v i (by rintro rfl; exact hne rfl)⟩
theorem Nb.kept {w w' : World} {B n c : Nat} {A : Option Addr} {xs : List Nat} {q : Nat} (h : Nb w B A n c xs) (hB : B ≤ w.heap.size) (hne : 0 < n → ∃ r off, A = some ⟨r, off, none⟩ ∧ r ≠ q) (hg : w.grownBy w' (some q)) : Nb w' B A n c xs :=
  ⟨h.len, h.cap, h.room, h.lim, fun h0 => by
    obtain ⟨b, o, e, hb, hc⟩ := h.cell h0
    obtain ⟨r, off, e', hr⟩ := hne h0
    subst e
    cases e'
    exact ⟨b, o, rfl, hb, fun j x hx => (cell_of_block (hg.block b (by omega) (by simpa using hr))).trans (hc j x hx)⟩⟩
theorem not_hash {w : World} {B g n c n2 c2 l : Nat} {A A2 : Option Addr} {s : St} {ys : List Nat} (h : Nb w B A2 n2 c2 ys) (hg : w.heap[g]? = some (.cells (hcells s A n c l).toArray 104 (0, 0))) : 0 < n2 → ∃ r off, A2 = some ⟨r, off, none⟩ ∧ r ≠ g := by
  intro h0
  obtain ⟨b, o, e, hb, hc⟩ := h.cell h0
  refine ⟨b, o, e, ?_⟩
  rintro rfl
  have h1 := hc 0 _ (List.getElem?_eq_getElem (by rw [h.len]; exact h0))
  rw [cell_of_row w b _ _ 104 (0, 0) hg] at h1
  have h2 := List.mem_of_getElem? (by simpa using h1)
  simp only [hcells, wv, List.mem_append, List.mem_map, List.mem_cons, List.not_mem_nil, or_false] at h2
  rcases h2 with ⟨x, _, hx⟩ | h2 | h2
  · cases hx
  · cases h2
  · cases h2
/-- what Write leaves -/
def Written (w : World) (g : Nat) (text : List Nat) (e : Ending) (w' : World) : Prop := e = .returned (.int .i64 0) ∧ HashAt w' w.heap.size g text ∧ w.grownBy w' (some g)

theorem rest_two (text ys : List Nat) (n m : Nat) (hn : text.length - 64 * (text.length / 64) = n) (hm : ys.length = m) :
    (text.drop (64 * (text.length / 64)) ++ ys).drop (64 * ((n + m) / 64)) = (text ++ ys).drop (64 * ((text ++ ys).length / 64)) := by
  rw [List.length_append, hm, ← List.drop_append_of_le_length (by omega), List.drop_drop]
  congr 1
  omega
set_option maxHeartbeats 2000000 in
theorem write_any {w : World} (hk : Ks w) {lo g : Nat} {text ys : List Nat} (h : HashAt w lo g text) {A2 : Option Addr} {m c2 : Nat} (hy : Nb w w.heap.size A2 m c2 ys) (hm : text.length + m ≤ 1000000000) (hg0 : 0 < g) :
    Calls Tryd.prog 35 #[.pointer (some ⟨g, 0, none⟩), .slice A2 m c2] w (Written w g (text ++ ys)) := by
  have hsz := hk.size
  have hglt : g < w.heap.size := h.lt
  have hcg := changed_any hk h hy (by omega)
  obtain ⟨s, A, n, c, h1, h2, h3, h4, h5⟩ := h.ex
  obtain ⟨R, hR⟩ : ∃ R, chgN first (text ++ ys) ((text.length + m) / 64) = R := ⟨_, rfl⟩
  have okR : R.Ok := by rw [← hR]; exact chgN_ok first_ok _ _
  rw [hR] at hcg
  have hn := h4.len
  rw [List.length_drop] at hn
  have hrest := rest_two text ys n m hn hy.len
  have hlim := h.lim.append hy.lim
  have hRt : text ++ ys ≠ [] → R = chgN first (text ++ ys) ((text ++ ys).length / 64) := fun _ => by rw [List.length_append, hy.len, hR]
  have hll : (text ++ ys).length = text.length + m := by rw [List.length_append, hy.len]
  obtain ⟨L, hL⟩ : ∃ L, text.length = L := ⟨_, rfl⟩
  rw [hL] at hm h3 hn hll
  have hn64 : n < 64 := by omega
  have Hcg := Lib.hid hcg
  have Hrest := Lib.hid hrest
  have HRt := Lib.hid hRt
  have Hll := Lib.hid hll
  have HL := Lib.hid hL
  have Hn := Lib.hid hn
  have H5 := Lib.hid h5
  clear hcg hrest hRt hll hL hn hR h2 h5
  go_enter Tryd.func35, Tryd.ntmps35
  go_wp2_with fail
  refine Hcg.out.mono ?_
  rintro e w1 ⟨rfl, b1⟩
  have g1 : w1.heap[g]? = some (.cells (hcells s A n c L).toArray 104 (0, 0)) := (b1.block g hglt).trans h3
  have q1 : w.grownBy w1 (some g) := grown_weak (below_grown b1) g
  have g2 : (w1.setRow g (hcells R A n c L).toArray).heap[g]? = some (.cells (hcells R A n c L).toArray 104 (0, 0)) := setRow_heap _ _ _ _ _ _ g1
  have q2 : w.grownBy (w1.setRow g (hcells R A n c L).toArray) (some g) := grown_trans q1 (grown_setRow _ _ _)
  have n2 := (h4.kept (Nat.le_refl _) (fun h0 => by obtain ⟨r, off, e, hle, hne⟩ := H5.out h0; exact ⟨r, off, e, hne⟩) q2).more q2.size
  have y2 := (hy.kept (Nat.le_refl _) (not_hash hy h3) q2).more q2.size
  obtain ⟨w2, hw2⟩ : ∃ w2, w1.setRow g (hcells R A n c L).toArray = w2 := ⟨_, rfl⟩
  rw [hw2] at g2 q2 n2 y2
  have Hw2 := Lib.hid hw2
  clear hw2 q1 h4 hy h3
  have c8 : w2.cell? ⟨g, 8, none⟩ = some (.slice A n c) := hcells_get _ _ _ _ _ 8 _ _ _ g2 rfl
  go_wp2_with (refine wpList_store_part rfl rfl 84 (.tmp 12) (.tmp 10) rfl g 0 rfl (wv (words R)) rfl 104 _ g1 (wv_one _) (by simp [wv, words, hcells]) (by kernel_rfl) ?_; rw [hcells_words, Hw2.out])
  refine (leftOver_any n2 y2 (by omega)).mono ?_
  rintro e w3 ⟨A3, c3, rfl, n3, f3, b3⟩
  rw [Hrest.out] at n3
  have g3 : w3.heap[g]? = some (.cells (hcells R A n c L).toArray 104 (0, 0)) := (b3.block g (Nat.lt_of_lt_of_le hglt q2.size)).trans g2
  have z3 : w3.frozen? ⟨g, 8, none⟩ = false := frozen_of_row w3 g 8 _ 104 g3
  have d8 : w3.cell? ⟨g, 8, none⟩ = some (.slice A n c) := hcells_get _ _ _ _ _ 8 _ _ _ g3 rfl
  have q3 : w.grownBy w3 (some g) := grown_trans q2 (grown_weak (below_grown b3) g)
  obtain ⟨n', hn'⟩ : ∃ n', n + m - 64 * ((n + m) / 64) = n' := ⟨_, rfl⟩
  rw [hn'] at n3 f3 ⊢
  have g4 := heap_setCell_same w3 g 8 _ 104 (.slice A3 n' c3) g3
  rw [hcells_rest] at g4
  have q4 : w.grownBy (w3.setCell ⟨g, 8, none⟩ (.slice A3 n' c3)) (some g) := grown_trans q3 (grown_setCell w3 ⟨g, 8, none⟩ _)
  have n4 := (n3.kept (Nat.le_refl _) (fun h0 => by obtain ⟨r, off, e, hle⟩ := f3 h0; exact ⟨r, off, e, by show r ≠ g; have := q2.size; omega⟩) (grown_setCell w3 ⟨g, 8, none⟩ (.slice A3 n' c3)))
  have d9 : (w3.setCell ⟨g, 8, none⟩ (.slice A3 n' c3)).cell? ⟨g, 9, none⟩ = some (.int .i64 (L : Int)) := hcells_get _ _ _ _ _ 9 _ _ _ g4 rfl
  have z4 : (w3.setCell ⟨g, 8, none⟩ (.slice A3 n' c3)).frozen? ⟨g, 9, none⟩ = false := frozen_of_row _ g 9 _ 104 g4
  have g5 := heap_setCell_same _ g 9 _ 104 (.int .i64 ((L + m : Nat) : Int)) g4
  rw [hcells_len] at g5
  have q5 : w.grownBy ((w3.setCell ⟨g, 8, none⟩ (.slice A3 n' c3)).setCell ⟨g, 9, none⟩ (.int .i64 ((L + m : Nat) : Int))) (some g) := grown_trans q4 (grown_setCell _ ⟨g, 9, none⟩ _)
  have n5 := n4.kept (by simp) (fun h0 => by obtain ⟨r, off, e, hle⟩ := f3 h0; exact ⟨r, off, e, by show r ≠ g; have := q2.size; omega⟩) (grown_setCell (w3.setCell ⟨g, 8, none⟩ (.slice A3 n' c3)) ⟨g, 9, none⟩ (.int .i64 ((L + m : Nat) : Int)))
  have hfin : HashAt ((w3.setCell ⟨g, 8, none⟩ (.slice A3 n' c3)).setCell ⟨g, 9, none⟩ (.int .i64 ((L + m : Nat) : Int))) w.heap.size g (text ++ ys) :=
    ⟨⟨R, A3, n', c3, okR, HRt.out, by rw [Hll.out]; exact g5, n5.more (by simp), fun h0 => by obtain ⟨r, off, e, hle⟩ := f3 h0; exact ⟨r, off, e, Nat.le_trans q2.size hle, by have := q2.size; omega⟩⟩, Nat.lt_of_lt_of_le hglt q5.size, q5.size, hlim, by rw [Hll.out]; exact hm⟩
  have Hfin := Lib.hid hfin
  have Hq5 := Lib.hid q5
  clear hfin q5 g5 n5
  go_wp2_with fail
  go_ret
  exact ⟨rfl, Hfin.out, Hq5.out⟩

/-- Hash.Sum -/
theorem sumOf_nil (w : World) : Calls Tryd.prog 36 #[.pointer none] w fun e w' => e = .returned (.agg (bs (List.replicate 32 0)).toArray) ∧ Below w.heap.size w w' := by
  have h0 : Bb (w.alloc (Yb 60 (List.replicate 32 0))) w.heap.size 60 (List.replicate 32 0) := alloc_bb w _ _
  have b0 : Below w.heap.size w (w.alloc (Yb 60 (List.replicate 32 0))) := (Below.refl _ _).alloc (Nat.le_refl _) _
  go_enter Tryd.func36, Tryd.ntmps36
  go_wp2_with (change wpList _ _ _ _ _ (w.alloc (Yb 60 (List.replicate 32 0))); refine wpList_store_row rfl rfl 60 (.tmp 2) (.tmp 5) rfl w.heap.size rfl (bs (List.replicate 32 0)) rfl 60 _ h0 (bs_one _) (by simp [bs]) (by kernel_rfl) ?_)
  have hr1 := setRow_heap _ w.heap.size _ (bs (List.replicate 32 0)).toArray 60 (0, 0) h0
  exact bodyPost_ret (v := .agg (bs (List.replicate 32 0)).toArray) (results_cell_row rfl _ _ w.heap.size 60 _ (0, 0) _ rfl hr1 Tryd.underlying60 rfl (by kernel_rfl)) rfl ⟨rfl, below_setRow b0 (Nat.le_refl _) _⟩
set_option maxHeartbeats 1000000 in
theorem sumOf_any {w : World} (hk : Ks w) {lo g : Nat} {text : List Nat} (h : HashAt w lo g text) :
    Calls Tryd.prog 36 #[.pointer (some ⟨g, 0, none⟩)] w fun e w' => e = .returned (.agg (bs (sha text)).toArray) ∧ Below w.heap.size w w' := by
  have hsz := hk.size
  have hglt : g < w.heap.size := h.lt
  have hsh := h.short
  obtain ⟨L, hL⟩ : ∃ L, text.length = L := ⟨_, rfl⟩
  obtain ⟨z, hz⟩ : ∃ z, 9 + (119 - L % 64) % 64 = z := ⟨_, rfl⟩
  have hzl : (pad L).length = z := by rw [length_pad, hz]
  have hz2 : z ≤ 72 := by omega
  obtain ⟨S, hS⟩ : ∃ S, chgN first (text ++ pad L) ((L + z) / 64) = S := ⟨_, rfl⟩
  have hSo : S.Ok := by rw [← hS]; exact chgN_ok first_ok _ _
  have hsha : sha text = dig S := by rw [sha_is, hL, hzl, hS]
  rw [hsha]
  rw [hL] at hsh
  have Hz := Lib.hid hz
  have HS := Lib.hid hS
  have Hzl := Lib.hid hzl
  have HL := Lib.hid hL
  have h0 : Bb (w.alloc (Yb 60 (List.replicate 32 0))) w.heap.size 60 (List.replicate 32 0) := alloc_bb w _ _
  have b0 : Below w.heap.size w (w.alloc (Yb 60 (List.replicate 32 0))) := (Below.refl _ _).alloc (Nat.le_refl _) _
  have c9 : (w.alloc (Yb 60 (List.replicate 32 0))).cell? ⟨g, 9, none⟩ = some (.int .i64 (L : Int)) := by
    obtain ⟨s, A, n, c, h1, h2, h3, h4, h5⟩ := h.ex
    rw [hL] at h3
    exact (b0.cell (p := ⟨g, 9, none⟩) hglt).trans (hcells_get _ _ _ _ _ 9 _ _ _ h3 rfl)
  have hh0 := h.below b0
  clear hz hS hsha hL hzl
  obtain ⟨w0, hw0⟩ : ∃ w0, w.alloc (Yb 60 (List.replicate 32 0)) = w0 := ⟨_, rfl⟩
  rw [hw0] at h0 b0 c9 hh0
  have Hw0 := Lib.hid hw0
  clear hw0
  have c9' : w.cell? ⟨g, 9, none⟩ = some (.int .i64 (L : Int)) := (b0.cell (p := ⟨g, 9, none⟩) hglt).symm.trans c9
  go_enter Tryd.func36, Tryd.ntmps36
  go_wp2_with fail
  change Calls _ _ _ (w.alloc (Yb 60 (List.replicate 32 0))) _
  rw [Hw0.out]
  refine (padding_any L (by omega) w0).mono ?_
  rintro e w2 ⟨gp, rfl, hg, hp, b2⟩
  rw [Hz.out]
  have h2 := h0.below b2 h0.lt
  have B2 : Below w.heap.size w w2 := b0.trans (b2.mono b0.size)
  have hpn := hp.nb 0 z z (by rw [Hzl.out]; omega) (Nat.le_refl _) (by omega) (pad_lim L)
  rw [List.drop_zero, List.take_of_length_le (by rw [Hzl.out]; omega)] at hpn
  have hh2 := hh0.below b2
  go_wp2_with fail
  have hch := changed_any (hk.below B2 hsz) hh2 hpn (by omega)
  rw [HL.out, HS.out] at hch
  refine hch.mono ?_
  rintro e w3 ⟨rfl, b3⟩
  have h3 := h2.below b3 h2.lt
  have B3 : Below w.heap.size w w3 := B2.trans (b3.mono B2.size)
  go_wp2_with fail
  refine (digest_any S hSo w3).mono ?_
  rintro e w4 ⟨rfl, b4⟩
  have h4 := h3.below b4 h3.lt
  have B4 : Below w.heap.size w w4 := B3.trans (b4.mono B3.size)
  have hDl : (bs (dig S)).length = 32 := by rfl
  have HD := Lib.hid hDl
  clear hDl
  generalize hDe : dig S = D at *
  have HDe := Lib.hid hDe
  clear hDe
  go_wp2_with (refine wpList_store_row rfl rfl 60 (.tmp 2) (.tmp 13) rfl w.heap.size rfl (bs D) rfl 60 _ h4 (bs_one _) (by rw [HD.out]; simp [bs]) (by rw [HD.out]; kernel_rfl) ?_)
  have hr1 := setRow_heap w4 w.heap.size _ (bs D).toArray 60 (0, 0) h4
  exact bodyPost_ret (v := .agg (bs D).toArray) (results_cell_row rfl _ _ w.heap.size 60 _ (0, 0) _ rfl hr1 Tryd.underlying60 rfl (by rw [List.size_toArray, HD.out]; kernel_rfl)) rfl ⟨by rw [HDe.out], below_setRow B4 (Nat.le_refl _) _⟩
end Go.Proofs.YtafpnpfiefbddaaDoor
