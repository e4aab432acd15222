/- plane: a row of points, walked by a closure; their sum. -/
import Derived.Test.YtbkcoijcoacbaaaPlP4
namespace Go.Proofs.Ytbkcoijcoacbaaa.Pl
open Go.RowKit
set_option maxRecDepth 100000
set_option linter.unusedVariables false
/-- a row of points that can be read -/
def Cx (w : World) (B : Nat) (A : Option Addr) (n : Nat) (xs : List (Nat × Nat)) : Prop :=
  xs.length = n ∧ (n = 0 ∨ ∃ g off, A = some ⟨g, off, none⟩ ∧ g < B ∧ ∀ i z, xs[i]? = some z → w.cell? ⟨g, off + i, none⟩ = some (.complex .f64 z.1 z.2))
theorem Cx.below {w w' : World} {B C n : Nat} {A : Option Addr} {xs : List (Nat × Nat)} (h : Cx w B A n xs) (b : RowKit.Below C w w') (hB : B ≤ C) : Cx w' B A n xs := by
  refine ⟨h.1, h.2.imp id ?_⟩
  rintro ⟨g, off, rfl, hg, hc⟩
  exact ⟨g, off, rfl, hg, fun i z hz => by rw [b.cell (by show g < C; omega)]; exact hc i z hz⟩
set_option maxHeartbeats 1000000 in
theorem each_two (fid : FuncId) (p q : Value) (St : Nat → World → Prop) {B n c : Nat} {A : Option Addr} {xs : List (Nat × Nat)}
    (hr : ∀ args w, (callFunc fid args).run Try.prog w = .ok (.enter fid args) w)
    (hc : ∀ j z w, xs[j]? = some z → St j w → Calls Try.prog fid #[.int .i64 j, .complex .f64 z.1 z.2, p, q] w fun e w' => e = .returned (.tuple #[]) ∧ St (j + 1) w')
    (hrow : ∀ j w, St j w → Cx w B A n xs) (hn : n ≤ 1099511627776) (w : World) (h0 : St 0 w) :
    Calls Try.prog 57 #[.slice A n c, .func (.func fid) #[] #[p, q]] w fun e w' => e = .returned (.tuple #[]) ∧ St n w' := by
  have HC := Lib.hid hc
  have HW := Lib.hid hrow
  have H0 := Lib.hid h0
  clear hc hrow h0
  go_enter Try.func57, Try.ntmps57
  go_wp2_with fail
  go_loopw [8] (fun i wr => ∃ j : Nat, j ≤ n ∧ i = .int .i64 (j : Int) ∧ St j wr) (fun i _ => (n - (match i with | .int _ z => z.toNat | _ => 0)))
  case atStart => exact ⟨0, by omega, rfl, H0.out⟩
  case round =>
    obtain ⟨j, hjn, rfl, hst⟩ := hrel
    have HS := Lib.hid hst
    clear hst
    by_cases e1 : (j : Int) < (n : Int)
    · have hC := HW.out j wr HS.out
      obtain ⟨hl, hC2⟩ := hC
      obtain ⟨z, hz⟩ : ∃ z, xs[j]? = some z := ⟨_, List.getElem?_eq_getElem (by omega)⟩
      rcases hC2 with h00 | ⟨g, off, rfl, hg, hc⟩
      · omega
      have hcell := hc j z hz
      have HK := Lib.hid (HC.out j z wr hz HS.out)
      clear hc hz
      go_wp2_with fail
      refine HK.out.mono ?_
      rintro e w2 ⟨rfl, h2⟩
      have H2 := Lib.hid h2
      clear h2 HK hcell
      go_wp2_with fail
      exact ⟨⟨j + 1, by omega, rfl, H2.out⟩, by show n - ((j : Int) + 1).toNat < n - (j : Int).toNat; omega⟩
    · have e1' : ((j : Int) < (n : Int)) = False := by simp only [e1]
      have hj : j = n := by omega
      subst hj
      go_wp2_with fail
      go_end0
      exact ⟨rfl, HS.out⟩
theorem run_store_float (P : Program) (w : World) (a : Addr) (m : Mode) (k : FloatKind) (b : Nat) : (store a (.float k b) m).run P w = stored P w a (.float k b) m := run_store P w a _ m rfl
theorem run_store_complex (P : Program) (w : World) (a : Addr) (m : Mode) (k : FloatKind) (x y : Nat) : (store a (.complex k x y) m).run P w = stored P w a (.complex k x y) m := run_store P w a _ m rfl
attribute [go_sem] run_store_float run_store_complex
theorem bx_other {w : World} {re im t : Nat} {v u : Value} (h : Boxed w re t v) (hne : re ≠ im) : Boxed (w.setCell ⟨im, 0, none⟩ u) re t v :=
  h.kept (grownBy_setCell' w im u) (by simpa using hne)
theorem bx_drewN {w : World} {re t : Nat} {v : Value} (h : Boxed w re t v) (n : Nat) : Boxed (w.drewN n) re t v := h
theorem below_set {w0 w : World} {re : Nat} (v : Value) (h : RowKit.Below w0.heap.size w0 w) (h1 : w0.heap.size ≤ re) : RowKit.Below w0.heap.size w0 (w.setCell ⟨re, 0, none⟩ v) :=
  h.trans ⟨rfl, rfl, rfl, (grownBy_setCell' w re v).size, fun k hk => (grownBy_setCell' w re v).block k (by have := h.size; omega) (by simp; omega)⟩
theorem enter36 (args : Array Value) (w : World) : (callFunc 58 args).run Try.prog w = .ok (.enter 58 args) w := enter_of Try.func58 (by kernel_rfl) (by kernel_rfl) args w
/-- the sum of words, of what is no number one for all -/
def addC (l : List Nat) : Nat := l.foldl (fun s x => fc .add s x) 0
theorem addC_snoc (l : List Nat) (x : Nat) : addC (l ++ [x]) = fc .add (addC l) x := by unfold addC; rw [List.foldl_append]; rfl
theorem okF_step {op : BinOp} {r a : Nat} (x : Nat) (h : okF r a) (w : World) : okF (fv op r x w) (fc op a x) := by
  have := fv_al op r x w
  rw [fc_al h.2 (al.refl x)] at this
  exact this
/-- two boxes that hold floats -/
def Two (w0 : World) (re im : Nat) (x y : Nat) (w : World) : Prop := RowKit.Below w0.heap.size w0 w ∧ ∃ r s, Boxed w re 64 (.float .f64 r) ∧ okF r x ∧ Boxed w im 64 (.float .f64 s) ∧ okF s y
theorem sum1_any (j : Int) (x y : Nat) {w0 : World} {a b re im : Nat} (h1 : w0.heap.size ≤ re) (h2 : w0.heap.size ≤ im) (hne : re ≠ im) {w : World} (h : Two w0 re im a b w) :
    Calls Try.prog 58 #[.int .i64 j, .complex .f64 x y, .pointer (some ⟨re, 0, none⟩), .pointer (some ⟨im, 0, none⟩)] w fun e w' => e = .returned (.tuple #[]) ∧ Two w0 re im (fc .add a x) (fc .add b y) w' := by
  obtain ⟨hb, r, s, b1, hr, b2, hs⟩ := h
  have HR := Lib.hid hr
  have HS := Lib.hid hs
  have HB := Lib.hid hb
  have HB1 := Lib.hid b1
  have HB2 := Lib.hid b2
  have c1 := b1.cell
  have c2 := b2.cell
  have f1 := b1.frozen
  have f2 := b2.frozen
  clear hb hr hs b1 b2
  go_enter Try.func58, Try.ntmps58
  go_wp2_with fail
  go_end0
  exact ⟨rfl, below_set _ (below_drewN (below_set _ (below_drewN HB.out _) h1) _) h2, _, _, bx_other (bx_drewN ((bx_drewN HB1.out _).set _) _) hne, okF_step _ HR.out w, (bx_drewN (bx_other (bx_drewN HB2.out _) (Ne.symm hne)) _).set _, okF_step _ HS.out _⟩
/-- the sum of points -/
theorem sum_any {w : World} {B n c : Nat} {A : Option Addr} {xs : List (Nat × Nat)} (h : Cx w B A n xs) (hB : B ≤ w.heap.size) (hn : n ≤ 1099511627776) :
    Calls Try.prog 40 #[.slice A n c] w fun e w' => (∃ r s, e = .returned (.complex .f64 r s) ∧ okF r (addC (xs.map (·.1))) ∧ okF s (addC (xs.map (·.2)))) ∧ RowKit.Below w.heap.size w w' := by
  have HH := Lib.hid h
  clear h
  go_enter Try.func40, Try.ntmps40
  go_wp2_with fail
  have b0 : RowKit.Below w.heap.size w (w.alloc (Obj.cells #[Value.float FloatKind.f64 0] 64)) := (Below.refl _ _).alloc (Nat.le_refl _) _
  have e1 : (w.alloc (Obj.cells #[Value.float FloatKind.f64 0] 64)).heap.size = w.heap.size + 1 := by show (w.heap.push _).size = _; simp
  have b1 := b0.alloc (by omega) (Obj.cells #[Value.float FloatKind.f64 0] 64)
  have x1 : Boxed ((w.alloc (Obj.cells #[Value.float FloatKind.f64 0] 64)).alloc (Obj.cells #[Value.float FloatKind.f64 0] 64)) w.heap.size 64 (.float .f64 0) := (Boxed.new w 64 _).alloc _
  have x2 : Boxed ((w.alloc (Obj.cells #[Value.float FloatKind.f64 0] 64)).alloc (Obj.cells #[Value.float FloatKind.f64 0] 64)) (w.heap.size + 1) 64 (.float .f64 0) := by
    have := Boxed.new (w.alloc (Obj.cells #[Value.float FloatKind.f64 0] 64)) 64 (.float .f64 0)
    rwa [e1] at this
  have t0 : Two w w.heap.size (w.heap.size + 1) 0 0 ((w.alloc (Obj.cells #[Value.float FloatKind.f64 0] 64)).alloc (Obj.cells #[Value.float FloatKind.f64 0] 64)) := ⟨b1, 0, 0, x1, ⟨by omega, .inl rfl⟩, x2, ⟨by omega, .inl rfl⟩⟩
  have hl := HH.out.1
  refine (each_two 58 _ _ (fun j w' => Two w w.heap.size (w.heap.size + 1) (addC ((xs.map (·.1)).take j)) (addC ((xs.map (·.2)).take j)) w') (xs := xs) (B := B) enter36 ?_ ?_ hn _ t0).mono ?_
  · intro j z w' hz h
    have g1 : (xs.map (·.1))[j]? = some z.1 := by rw [List.getElem?_map, hz]; rfl
    have g2 : (xs.map (·.2))[j]? = some z.2 := by rw [List.getElem?_map, hz]; rfl
    rw [List.take_add_one, List.take_add_one, g1, g2]
    show Calls _ _ _ _ fun e w' => _ ∧ Two w w.heap.size (w.heap.size + 1) (addC (_ ++ [z.1])) (addC (_ ++ [z.2])) w'
    rw [addC_snoc, addC_snoc]
    exact sum1_any j z.1 z.2 (Nat.le_refl _) (by omega) (by omega) h
  · intro j w' h
    exact HH.out.below h.1 hB
  rintro e w2 ⟨rfl, hb, r, s, y1, hr, y2, hs⟩
  rw [List.take_of_length_le (by simp; omega)] at hr hs
  have HR := Lib.hid hr
  have HS := Lib.hid hs
  have HB := Lib.hid hb
  have c1 := y1.cell
  have c2 := y2.cell
  clear hr hs hb x1 x2 t0 b0 b1 y1 y2 e1
  go_wp2_with fail
  go_ret
  exact ⟨⟨_, _, rfl, HR.out, HS.out⟩, HB.out⟩
end Go.Proofs.Ytbkcoijcoacbaaa.Pl
