/- choose: DeleteFunc, of a row in which the one to be struck stands once. -/
import Derived.Test.YtjagekagpgjoaaaC24
import Derived.Lib.SliceRun
import Derived.BigFrame
namespace Go.Proofs.Ytjagekagpgjoaaa
open Go.RowKit
set_option linter.unusedVariables false
set_option linter.unusedSimpArgs false
set_option maxRecDepth 100000
theorem set_cell {w : World} {g : Nat} {cs : Array Value} {t : TypeId} {fr : Nat × Nat} (h : w.heap[g]? = some (.cells cs t fr)) (i : Nat) (v : Value) : (w.setCell ⟨g, i, none⟩ v).heap[g]? = some (.cells (cs.setIfInBounds i v) t fr) := by
  simp [World.setCell, Array.getElem?_modify, h]
theorem set_far (w : World) (g i : Nat) (v : Value) {k : Nat} (hk : k ≠ g) : (w.setCell ⟨g, i, none⟩ v).heap[k]? = w.heap[k]? := by
  simp only [World.setCell, Array.getElem?_modify]
  rw [if_neg (fun h => hk h.symm)]
theorem below_set {w0 w : World} {B g : Nat} (h : RowKit.Below B w0 w) (hg : B ≤ g) (i : Nat) (v : Value) : RowKit.Below B w0 (w.setCell ⟨g, i, none⟩ v) :=
  ⟨h.os, h.tape, h.output, by rw [World.size_setCell]; exact h.size, fun k hk => (set_far w g i v (by omega)).trans (h.block k hk)⟩
/-- nothing but block g has turned -/
structure Ot (g : Nat) (w w' : World) : Prop where
  below : ∀ B, B ≤ g → RowKit.Below B w w'
  size : w'.heap.size = w.heap.size
  far : ∀ b, b ≠ g → w'.heap[b]? = w.heap[b]?
theorem Ot.refl (g : Nat) (w : World) : Ot g w w := ⟨fun _ _ => Below.refl _ _, rfl, fun _ _ => rfl⟩
theorem Ot.set {g : Nat} {w w' : World} (h : Ot g w w') (i : Nat) (v : Value) : Ot g w (w'.setCell ⟨g, i, none⟩ v) :=
  ⟨fun B hB => below_set (h.below B hB) hB i v, by rw [World.size_setCell]; exact h.size, fun b hb => (set_far w' g i v hb).trans (h.far b hb)⟩
theorem Ot.cell {g b : Nat} {w w' : World} (h : Ot g w w') (hb : b ≠ g) (i : Nat) : w'.cell? ⟨b, i, none⟩ = w.cell? ⟨b, i, none⟩ := by
  simp only [World.cell?, h.far b hb]
theorem blk_cell {w : World} {g : Nat} {cs : Array Value} {t : TypeId} {fr : Nat × Nat} (h : w.heap[g]? = some (.cells cs t fr)) {i : Nat} {v : Value} (e : cs[i]? = some v) : w.cell? ⟨g, i, none⟩ = some v := by
  simp only [World.cell?, h]
  exact e
theorem blk_fr {w : World} {g : Nat} {cs : Array Value} {t : TypeId} (h : w.heap[g]? = some (.cells cs t (0, 0))) (i : Nat) : w.frozen? ⟨g, i, none⟩ = false := by simp [World.frozen?, h]
set_option maxHeartbeats 2000000 in
theorem del_any {w : World} {g bs cap m : Nat} {s : Nat} {L1 L2 : List Nat} (h : Lw w g (L1 ++ s :: L2) cap) (hm : (L1 ++ s :: L2).length = m) (hm4 : m ≤ 64) (h1 : s ∉ L1) (h2 : s ∉ L2) (hb : bs ≠ g) (cs : w.cell? ⟨bs, 0, none⟩ = some (.int .i64 (s : Int))) :
    Calls Try.prog 31 #[.slice (some ⟨g, 0, none⟩) m cap, .func (.func 32) #[] #[.pointer (some ⟨bs, 0, none⟩)]] w fun e w' => e = .returned (.slice (some ⟨g, 0, none⟩) (m - 1 : Nat) cap) ∧ Lw w' g (L1 ++ L2) cap ∧ Ot g w w' := by
  have HF := Lib.hid (find_any (c := cap) (by have := h.ri; rwa [hm] at this) hm4 h1 cs)
  obtain ⟨cur, hg, hsz, hlc, hcc⟩ := h
  have hlen : L1.length + 1 + L2.length = m := by rw [← hm, List.length_append, List.length_cons]; omega
  rw [hm] at hlc
  obtain ⟨p, hp⟩ : ∃ p, p = L1.length := ⟨_, rfl⟩
  obtain ⟨q, hq⟩ : ∃ q, q = L2.length := ⟨_, rfl⟩
  rw [← hp] at hlen HF
  rw [← hq] at hlen
  have HP := Lib.hid hp
  have HQ := Lib.hid hq
  have HG := Lib.hid hg
  have HZ := Lib.hid hsz
  have H2 := Lib.hid h2
  have HCS := Lib.hid cs
  have HL := Lib.hid hlen
  have HC := Lib.hid hcc
  have hent := run_enter32
  clear h1 h2 cs hm hp hq hg hsz hcc
  have hne : ((p : Int) = -1) = False := by simp only [eq_iff_iff, iff_false]; omega
  have hne2 : ((p : Int) == -1) = false := by simp only [beq_eq_false_iff_ne, ne_eq]; omega
  go_enter Try.func31, Try.ntmps31
  go_wp2_with fail
  refine HF.out.mono ?_
  rintro e w2 ⟨rfl, e3⟩
  subst w2
  go_wp2_with fail
  go_loopw [5, 6] (fun iv jv wr => ∃ k I J : Nat, ∃ c2 : Array Value, Hid (k ≤ q) ∧ Hid (I = p + k) ∧ Hid (J = p + 1 + k) ∧ iv = .int .i64 (I : Int) ∧ jv = .int .i64 (J : Int) ∧ Hid (wr.heap[g]? = some (.cells c2 3 (0, 0))) ∧ Hid (c2.size = cap) ∧ Hid (∀ i x : Nat, (L1 ++ L2.take k)[i]? = some x → c2[i]? = some (Value.int .i64 (x : Int))) ∧ Hid (∀ j x : Nat, k ≤ j → L2[j]? = some x → c2[p + 1 + j]? = some (Value.int .i64 (x : Int))) ∧ Hid (Ot g w wr)) (fun _ jv _ => (m - (match jv with | .int _ z => z.toNat | _ => 0)))
  case atStart =>
    refine ⟨0, p, p + 1, cur, Nat.zero_le _, rfl, rfl, rfl, by simp, HG.out, HZ.out, fun i x hx => HC.out i x ?_, fun j x _ hx => HC.out _ x ?_, Ot.refl _ _⟩
    · rw [List.take_zero, List.append_nil] at hx
      rw [List.getElem?_append_left (List.getElem?_eq_some_iff.1 hx).1]
      exact hx
    · rw [HP.out, List.getElem?_append_right (by omega)]
      have e : L1.length + 1 + j - L1.length = j + 1 := by omega
      rw [e, List.getElem?_cons_succ]
      exact hx
  case round =>
    obtain ⟨k, I, J, c2, hk, hI, hJ, rfl, rfl, hg2, hs2, ha, hb2, ho⟩ := hrel
    by_cases hkq : k < q
    · have e1 : ((J : Int) < (m : Int)) = True := by simp only [eq_iff_iff, iff_true]; have := hJ.out; have := HL.out; omega
      have e1' : (J : Int) < (m : Int) := by have := hJ.out; have := HL.out; omega
      obtain ⟨x, hx⟩ : ∃ x, L2[k]? = some x := ⟨_, List.getElem?_eq_getElem (by have := HQ.out; omega)⟩
      have b2 : wr.cell? ⟨g, J, none⟩ = some (.int .i64 (x : Int)) := blk_cell hg2.out (by rw [hJ.out]; exact hb2.out k x (Nat.le_refl _) hx)
      have hIc : I < c2.size := by have := hI.out; have := hs2.out; have := HL.out; omega
      have b3 : wr.cell? ⟨g, I, none⟩ = some c2[I] := blk_cell hg2.out (Array.getElem?_eq_getElem hIc)
      have b4 : wr.frozen? ⟨g, I, none⟩ = false := blk_fr hg2.out I
      have hxs : ¬ x = s := fun e => H2.out (by rw [← e]; exact List.mem_of_getElem? hx)
      have HC1 := Lib.hid (del_cl (w := wr) (bs := bs) (s := s) x (by rw [ho.out.cell hb]; exact HCS.out))
      rw [decide_eq_false hxs] at HC1
      have hIm : (I : Int) < (m : Int) := by have := hI.out; have := HL.out; omega
      have hx63 : (I : Int) + 1 ≤ 9223372036854775807 := by omega
      have HX := Lib.hid hx
      have HIC := Lib.hid hIc
      generalize c2[I] = old at b3
      clear hx hxs hIc
      go_wp2_with fail
      refine HC1.out.mono ?_
      rintro e w2 ⟨rfl, e3⟩
      subst w2
      go_wp2_with fail
      refine ⟨⟨k + 1, I + 1, J + 1, c2.setIfInBounds I (.int .i64 (x : Int)), by show k + 1 ≤ q; omega, by show I + 1 = p + (k + 1); have := hI.out; omega, by show J + 1 = p + 1 + (k + 1); have := hJ.out; omega, by simp, by simp, set_cell hg2.out _ _, by show (c2.setIfInBounds I _).size = cap; rw [Array.size_setIfInBounds]; exact hs2.out, ?_, ?_, ho.out.set _ _⟩, ?_⟩
      · intro i y hy
        rw [List.take_add_one, HX.out, ← List.append_assoc] at hy
        have hll : (L1 ++ L2.take k).length = I := by rw [List.length_append, List.length_take, hI.out, HP.out]; have := HQ.out; omega
        rcases Nat.lt_or_ge i I with h | h
        · rw [List.getElem?_append_left (by omega)] at hy
          rw [Array.getElem?_setIfInBounds, if_neg (by omega)]
          exact ha.out i y hy
        · rw [List.getElem?_append_right (by omega), hll] at hy
          have hi : i = I := by
            have := (List.getElem?_eq_some_iff.1 hy).1
            simp at this
            omega
          subst hi
          rw [Nat.sub_self] at hy
          have hxy : x = y := by simpa using hy
          rw [Array.getElem?_setIfInBounds, if_pos rfl, if_pos HIC.out, hxy]
      · intro j y hj hy
        rw [Array.getElem?_setIfInBounds, if_neg (by have := hI.out; omega)]
        exact hb2.out j y (by omega) hy
      · show m - ((J : Int) + 1).toNat < m - (J : Int).toNat
        omega
    · have e1 : ((J : Int) < (m : Int)) = False := by simp only [eq_iff_iff, iff_false]; have := hJ.out; have := HL.out; omega
      have eI : I = m - 1 := by have := hI.out; have := HL.out; have := hk.out; omega
      subst eI
      have hI1 : ((m - 1 : Nat) : Int) ≤ (m : Int) := by omega
      have hI2 : (m : Int) ≤ (cap : Int) := by omega
      have hI3 : ((m - 1 : Nat) : Int) ≤ (cap : Int) := by omega
      have hn1 : 0 < m - (m - 1) := by have := HL.out; omega
      have hcl : ∀ ty, (Builtin.clear_ #[27] ty #[.slice (some ⟨g, m - 1, none⟩) (m - (m - 1)) (cap - (m - 1))]).run Try.prog wr = .ok (.tuple #[]) (wr.setCells g (m - 1) (List.replicate (m - (m - 1)) (.int .i64 0))) :=
        fun ty => Lib.run_clear_slice wr 27 3 ty (.int .i64 0) Try.underlying27 Try.zeroValue3 rfl rfl g (m - 1) _ (cap - (m - 1)) hn1 (fun j hj => by
          rw [show m - 1 + j = m - 1 from by omega, blk_cell hg2.out (Array.getElem?_eq_getElem (by have := hs2.out; have := HL.out; omega))]; rfl) (fun j hj => blk_fr hg2.out _)
      have HN := Lib.hid (show List.replicate (m - (m - 1)) (Value.int .i64 0) = [Value.int .i64 0] by rw [show m - (m - 1) = 1 from by have := HL.out; omega]; rfl)
      clear hn1
      go_wp2_with (simp only [hcl])
      go_ret
      refine ⟨rfl, ?_, ?_⟩
      · rw [HN.out]
        refine ⟨c2.setIfInBounds (m - 1) (.int .i64 0), set_cell hg2.out _ _, by rw [Array.size_setIfInBounds]; exact hs2.out, by rw [List.length_append, ← HP.out, ← HQ.out]; omega, fun i x hx => ?_⟩
        have hi := (List.getElem?_eq_some_iff.1 hx).1
        rw [List.length_append, ← HP.out, ← HQ.out] at hi
        rw [Array.getElem?_setIfInBounds, if_neg (by omega)]
        refine ha.out i x ?_
        rw [List.take_of_length_le (by have := HQ.out; omega)]
        exact hx
      · rw [HN.out]
        exact ho.out.set _ _
end Go.Proofs.Ytjagekagpgjoaaa
