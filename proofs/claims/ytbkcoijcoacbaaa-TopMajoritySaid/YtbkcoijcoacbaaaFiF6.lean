/- filter: rows of samples of the call's own; the samples, the last one ahead. -/
import Derived.Test.YtbkcoijcoacbaaaFiF5
import Derived.StillTailTactics
import Derived.Deep.AppendLies
import Derived.OwnWalk
namespace Go.Proofs.Ytbkcoijcoacbaaa.Fi
open Go.RowKit Go.Sort
set_option linter.unusedVariables false
set_option linter.unusedSimpArgs false
set_option maxRecDepth 100000

theorem sc_append (xs ys : List S4) : sc (xs ++ ys) = sc xs ++ sc ys := by simp [sc]
theorem sc_one (xs : List S4) : ∀ v ∈ sc xs, v.oneCell' = true := by
  intro v hv
  simp only [sc, List.mem_flatMap, S4.cs] at hv
  obtain ⟨x, _, hx⟩ := hv
  simp at hx
  rcases hx with rfl | rfl | rfl | rfl <;> rfl
/-- a row of samples of the call's own, blocks from base on -/
def Gs (w : World) (base : Nat) (A : Option Addr) (n c : Nat) (xs : List S4) : Prop := xs.length = n ∧ w.ownsRow base 34 4 (.slice A n c) n (sc xs)
theorem Gs.nil (w : World) (base : Nat) : Gs w base none 0 0 [] := ⟨rfl, World.ownsRow_nil w base 34 4⟩
theorem own_shape {w : World} {base e n k : Nat} {v : Value} {xs : List Value} (h : w.ownsRow base e k v n xs) : ∃ A c, v = .slice A n c := by
  rcases h.2 with ⟨rfl, rfl⟩ | ⟨g, cap, cur, rfl, _⟩
  · exact ⟨_, _, rfl⟩
  · exact ⟨_, _, rfl⟩
theorem Try.info34 : (Try.prog.info? 34).map (fun i => (i.zero, i.size, i.bytes)) = some (some (.agg #[.int .i64 0, .int .i64 0, .int .i64 0, .int .i64 0]), 4, 32) := by kernel_rfl
/-- one more sample, in a region that draws -/
theorem step_app_s (w : World) {ops : Array Oper} {o : Oper} {a : Act} {K : Act → World → Prop} {Q : Exit → Act → World → Prop} {E : Prop} (hgd : o.guard = none) (s x : Operand)
    (ho : o.op = .call { callee := .builtin .append, args := #[s, x], argTypes := #[72, 72] }) {base n c g : Nat} {y : S4} {A : Option Addr} {xs : List S4} {w0 : World}
    (hs : a.eval s = .slice A n c) (hown : Gs w base A n c xs) (hx : a.eval x = .slice (some ⟨g, 0, none⟩) 1 1) (hc : Box w g y)
    (hn : n ≤ 1099511627776) (hb : Below base w0 w) (hbase : base ≤ w.heap.size)
    (h : ∀ A' c' w', Gs w' base A' (n + 1) c' (xs ++ [y]) → Below base w0 w' → K (a.put o.dst (.slice A' (n + 1) c')) w') :
    if Region.wanted o (yielded ops a.tmps) = true then Oper.wp Try.prog o a w K Q else E := by
  obtain ⟨i0, hi, hz0, hz1, hz2⟩ := info_parts Try.info34
  refine step_append_lies w hgd s x 72 ho base 34 i0 (.agg #[.int .i64 0, .int .i64 0, .int .i64 0, .int .i64 0]) 4 32 Try.underlying72 hi hz0 hz1 hz2 rfl (by decide) _ n (sc xs) hs hown.2 ⟨g, 0, none⟩ 1 1 (sc [y]) hx rfl ?_ (sc_one _) (by omega) (by unfold maxLen; omega) (by omega) hbase _ rfl ?_
  · intro j u hj
    have hc' : w.heap[g]? = _ := hc
    exact World.news_of_block hc' j u hj
  · intro g' c' w' hown' hgrow _ _
    exact h (some ⟨g', 0, none⟩) c' w' ⟨by simp [hown.1], by rw [sc_append]; exact hown'⟩ (hb.grown hgrow hbase fun k hk => (hown.2.lt k hk).1)
/-- one more sample -/
theorem wpList_app_s (w : World) {ops : Array Oper} {rest : List Oper} {o : Oper} {a : Act} {Q : Exit → Act → World → Prop} (hgd : o.guard = none) (s x : Operand)
    (ho : o.op = .call { callee := .builtin .append, args := #[s, x], argTypes := #[72, 72] }) {base n c g : Nat} {y : S4} {A : Option Addr} {xs : List S4} {w0 : World}
    (hs : a.eval s = .slice A n c) (hown : Gs w base A n c xs) (hx : a.eval x = .slice (some ⟨g, 0, none⟩) 1 1) (hc : Box w g y)
    (hn : n ≤ 1099511627776) (hb : Below base w0 w) (hbase : base ≤ w.heap.size)
    (h : ∀ A' c' w', Gs w' base A' (n + 1) c' (xs ++ [y]) → Below base w0 w' → wpList Try.prog ops Q rest (a.put o.dst (.slice A' (n + 1) c')) w') : wpList Try.prog ops Q (o :: rest) a w := by
  obtain ⟨i0, hi, hz0, hz1, hz2⟩ := info_parts Try.info34
  refine wpList_append_own w hgd s x 72 ho base 34 i0 (.agg #[.int .i64 0, .int .i64 0, .int .i64 0, .int .i64 0]) 4 32 Try.underlying72 hi hz0 hz1 hz2 rfl (by decide) _ n (sc xs) hs hown.2 ⟨g, 0, none⟩ 1 1 (sc [y]) hx rfl ?_ (sc_one _) (by unfold maxLen; omega) (by omega) hbase ?_
  · intro j u hj
    have hc' : w.heap[g]? = _ := hc
    exact World.news_of_block hc' j u hj
  · intro v' w' hown' hgrow _
    obtain ⟨A', c', rfl⟩ := own_shape hown'
    exact h A' c' w' ⟨by simp [hown.1], by rw [sc_append]; exact hown'⟩ (hb.grown hgrow hbase fun k hk => (hown.2.lt k hk).1)
theorem Fb.below {w w' : World} {B g : Nat} {ring : List S4} {nx ct : Nat} (h : Fb w g ring nx ct) (b : Below B w w') (hg : g < B) : Fb w' g ring nx ct := by
  have h' : w.heap[g]? = _ := h
  exact (b.block g hg).trans h'
theorem Flt.below {w w' : World} {B g : Nat} {L : List S4} (h : Flt w g L) (b : Below B w w') (hg : g < B) : Flt w' g L := by
  obtain ⟨ring, nx, hb, hr⟩ := h
  exact ⟨ring, nx, hb.below b hg, hr⟩
theorem Flt.lt {w : World} {g : Nat} {L : List S4} (h : Flt w g L) : g < w.heap.size := by obtain ⟨_, _, hb, _⟩ := h; exact hb.lt
set_option maxHeartbeats 2000000 in
theorem latest_any {w : World} {g : Nat} {L : List S4} (h : Flt w g L) :
    Calls Try.prog 44 #[.pointer (some ⟨g, 0, none⟩)] w fun e w' => ∃ A c, e = .returned (.slice A L.length c) ∧ Gs w' w.heap.size A L.length c L ∧ Below w.heap.size w w' := by
  have HL := Lib.hid (fun w => len_any (w := w) (g := g) (L := L))
  have H := Lib.hid h
  have hgl := h.lt
  obtain ⟨ring, nx, hb, hr⟩ := h
  have HB := Lib.hid hb
  have HR := Lib.hid hr
  have hn8 := hr.nlt
  have hct := hr.ctl
  clear hb hr
  obtain ⟨n, hn⟩ : ∃ n, n = L.length := ⟨_, rfl⟩
  rw [← hn] at hct ⊢
  rw [← hn] at HB
  have HN := Lib.hid hn
  clear hn
  go_enter Try.func44, Try.ntmps44
  go_wp2_with (go_at_call 62; refine (HL.out _ H.out).mono ?_; rintro e w1 ⟨rfl, hw⟩; subst hw; rw [← HN.out])
  go_loopw [7, 3] (fun i o wr => ∃ (j : Nat) (A : Option Addr) (c : Nat), j ≤ n ∧ i = .int .i64 (j : Int) ∧ o = .slice A j c ∧ Gs wr w1.heap.size A j c (L.take j) ∧ Below w1.heap.size w1 wr) (fun i _ _ => (n - (match i with | .int _ z => z.toNat | _ => 0)))
  case atStart => exact ⟨0, none, 0, by omega, rfl, rfl, Gs.nil _ _, Below.refl _ _⟩
  case round =>
    obtain ⟨j, A, c, hj, rfl, rfl, hg, hB⟩ := hrel
    by_cases hjn : j < n
    · have e1 : decide ((j : Int) < (n : Int)) = true := by simp; omega
      obtain ⟨k, hk⟩ : ∃ k, k = (nx + 7 - j) % 8 := ⟨_, rfl⟩
      have hk8 : k < 8 := by omega
      have hkz : ((nx : Int) + 8 - 1 - (j : Int)) % 8 = (k : Int) := by omega
      have hkt : (IntKind.i64.wrap (IntKind.i64.wrap (IntKind.i64.wrap ((nx : Int) + 8) - 1) - (j : Int))).tmod 8 = (k : Int) := by
        rw [wr_i64 (n := (nx : Int) + 8) (by omega) (by omega), wr_i64 (n := (nx : Int) + 8 - 1) (by omega) (by omega), wr_i64 (by omega) (by omega), Int.tmod_eq_emod_of_nonneg (by omega)]
        exact hkz
      have hk0 : (0 : Int) ≤ (k : Int) := by omega
      have hk9 : (k : Int) < 8 := by omega
      obtain ⟨s, hs⟩ : ∃ s, L[j]? = some s := ⟨_, List.getElem?_eq_getElem (by have := HN.out; omega)⟩
      have hrs := HR.out.spot j (by have := HN.out; omega)
      rw [← hk, hs] at hrs
      have hbr := HB.out.below hB hgl
      have d1 := hbr.next HR.out.len
      obtain ⟨f0, f1, f2, f3⟩ := hbr.at_ hrs
      rw [Nat.mul_comm 4 k] at f0 f1 f2 f3
      have HKZ := Lib.hid hkz
      have HT := Lib.hid (show L.take (j + 1) = L.take j ++ [s] by rw [List.take_add_one, hs]; rfl)
      have HBr := Lib.hid hB
      have HG := Lib.hid hg
      clear hkz hs hrs hbr hB hg hk
      go_upto_region 5 with fail
      obtain ⟨w2, hw2⟩ : ∃ w2, w2 = (wr.alloc (.cells #[.int .i64 s.o, .int .i64 s.d, .int .i64 s.p, .int .i64 s.a] 34)).drew := ⟨_, rfl⟩
      have g2 : Gs w2 w1.heap.size A j c (L.take j) := ⟨HG.out.1, by rw [hw2]; exact (HG.out.2.alloc _).drew⟩
      have b2 : Below w1.heap.size w1 w2 := by rw [hw2]; exact (HBr.out.alloc HBr.out.size _).drew
      have x2 : Box w2 wr.heap.size s := by rw [hw2]; exact World.alloc_heap_new wr _
      have G2 := Lib.hid g2
      have B2 := Lib.hid b2
      have X2 := Lib.hid x2
      have S2 := Lib.hid (show w1.heap.size ≤ w2.heap.size from b2.size)
      have HW2 := Lib.hid hw2
      have HJ := Lib.hid (show j ≤ 1099511627776 by omega)
      clear g2 b2 x2 hw2
      go_region_law ((try rw [← HW2.out]); refine step_app_s _ rfl (.tmp 10) (.tmp 25) rfl (by simp [Act.eval, Act.put]) G2.out (by simp [Act.eval, Act.put]) X2.out HJ.out B2.out S2.out ?_; intro A' c' w' hown' hb')
      rw [← HT.out] at hown'
      have HO := Lib.hid hown'
      have HB' := Lib.hid hb'
      clear hown' hb' d1 f0 f1 f2 f3 hkt
      go_wp2_with fail
      exact ⟨⟨j + 1, A', c', by omega, rfl, rfl, HO.out, HB'.out⟩, by show n - ((j : Int) + 1).toNat < n - (j : Int).toNat; omega⟩
    · have e1 : ((j : Int) < (n : Int)) = False := by simp only [eq_iff_iff, iff_false]; omega
      have hnj : j = n := by omega
      subst hnj
      have HG := Lib.hid (show Gs wr w1.heap.size A j c L by rw [show L.take j = L by rw [HN.out, List.take_length]] at hg; exact hg)
      have HBr := Lib.hid hB
      clear hg hB
      go_wp2_with fail
      go_ret
      exact ⟨A, c, rfl, HG.out, HBr.out⟩
end Go.Proofs.Ytbkcoijcoacbaaa.Fi
