/- plane: the nearest point. -/
import Derived.Test.YtnjieddkphappaaN1
namespace Go.Proofs.Ytnjieddkphappaa
open Go.RowKit
set_option maxRecDepth 100000
set_option linter.unusedVariables false
set_option maxHeartbeats 1000000 in
theorem each_three (fid : FuncId) (p q r : Value) (St : Nat → World → Prop) {B n c : Nat} {A : Option Addr} {xs : List (Nat × Nat)}
    (hr : ∀ args w, (callFunc fid args).run Try.prog w = .ok (.enter fid args) w)
    (hc : ∀ j z w, xs[j]? = some z → St j w → Calls Try.prog fid #[.int .i64 j, .complex .f64 z.1 z.2, p, q, r] w fun e w' => e = .returned (.tuple #[]) ∧ St (j + 1) w')
    (hrow : ∀ j w, St j w → Cx w B A n xs) (hn : n ≤ 1099511627776) (w : World) (h0 : St 0 w) :
    Calls Try.prog 35 #[.slice A n c, .func (.func fid) #[] #[p, q, r]] w fun e w' => e = .returned (.tuple #[]) ∧ St n w' := by
  have HC := Lib.hid hc
  have HW := Lib.hid hrow
  have H0 := Lib.hid h0
  clear hc hrow h0
  go_enter Try.func35, Try.ntmps35
  go_wp2_with fail
  go_loopw [8] (fun i wr => ∃ j : Nat, j ≤ n ∧ i = .int .i64 (j : Int) ∧ St j wr) (fun i _ => (n - (match i with | .int _ z => z.toNat | _ => 0)))
  case atStart => exact ⟨0, by omega, rfl, H0.out⟩
  case round =>
    obtain ⟨j, hjn, rfl, hst⟩ := hrel
    have HS := Lib.hid hst
    clear hst
    by_cases e1 : (j : Int) < (n : Int)
    · have hC := HW.out j wr HS.out
      obtain ⟨hl, hC2⟩ := hC
      obtain ⟨z, hz⟩ : ∃ z, xs[j]? = some z := ⟨_, List.getElem?_eq_getElem (by omega)⟩
      rcases hC2 with h00 | ⟨g, off, rfl, hg, hc⟩
      · omega
      have hcell := hc j z hz
      have HK := Lib.hid (HC.out j z wr hz HS.out)
      clear hc hz
      go_wp2_with fail
      refine HK.out.mono ?_
      rintro e w2 ⟨rfl, h2⟩
      have H2 := Lib.hid h2
      clear h2 HK hcell
      go_wp2_with fail
      exact ⟨⟨j + 1, by omega, rfl, H2.out⟩, by show n - ((j : Int) + 1).toNat < n - (j : Int).toNat; omega⟩
    · have e1' : ((j : Int) < (n : Int)) = False := by simp only [e1]
      have hj : j = n := by omega
      subst hj
      go_wp2_with fail
      go_end0
      exact ⟨rfl, HS.out⟩
theorem enter42 (args : Array Value) (w : World) : (callFunc 42 args).run Try.prog w = .ok (.enter 42 args) w := enter_of Try.func42 (by kernel_rfl) (by kernel_rfl) args w
theorem nearest_no {A : Option Addr} {n c x y : Nat} (h : fitE n ≠ 0) (hn : n ≤ 1099511627776) (w : World) :
    Calls Try.prog 26 #[.slice A n c, .complex .f64 x y] w fun e w' => e = .returned (.tuple #[.int .i64 0, .int .i64 (fitE n)]) ∧ RowKit.Below w.heap.size w w' := by
  obtain ⟨q, hq⟩ : ∃ q, q = fitE n := ⟨_, rfl⟩
  rw [← hq] at h ⊢
  have HQ := Lib.hid hq
  clear hq
  go_enter Try.func26, Try.ntmps26
  go_wp2_with fail
  refine (countable_any _ _ _ hn _).mono ?_
  rintro e w1 ⟨rfl, rfl⟩
  rw [← HQ.out]
  have h' : (q == 0) = false := by simpa using h
  have b0 : RowKit.Below w.heap.size w ((w.alloc (Obj.cells #[Value.slice A n c] 38)).alloc (Obj.cells #[Value.complex FloatKind.f64 x y] 23)) := ((Below.refl _ _).alloc (Nat.le_refl _) _).alloc (by show _ ≤ (w.heap.push _).size; simp) _
  have HB := Lib.hid b0
  clear b0
  go_wp2_with fail
  go_ret2
  exact ⟨rfl, HB.out⟩
def St (w0 : World) (zb lb nb : Nat) (x y : Nat) (A : Option Addr) (n c k : Nat) (w : World) : Prop :=
  RowKit.Below w0.heap.size w0 w ∧ Boxed w zb 23 (.complex .f64 x y) ∧ Boxed w lb 38 (.slice A n c) ∧ Boxed w nb 3 (.int .i64 (k : Int))
theorem St.drewN {w0 w : World} {zb lb nb x y : Nat} {A : Option Addr} {n c k : Nat} (h : St w0 zb lb nb x y A n c k w) (m : Nat) : St w0 zb lb nb x y A n c k (w.drewN m) :=
  ⟨below_drewN h.1 m, bx_drewN h.2.1 m, bx_drewN h.2.2.1 m, bx_drewN h.2.2.2 m⟩
theorem St.step {w0 w : World} {zb lb nb x y : Nat} {A : Option Addr} {n c k : Nat} (h : St w0 zb lb nb x y A n c k w) (h1 : w0.heap.size ≤ nb) (n1 : zb ≠ nb) (n2 : lb ≠ nb) (b : Bool) (j m : Nat) :
    St w0 zb lb nb x y A n c (if b then j else k) (stepW b (w.drewN m) nb j) := by
  have h' := h.drewN m
  cases b
  · exact h'
  · exact ⟨below_set _ h'.1 h1, bx_other h'.2.1 n1, bx_other h'.2.2.1 n2, h'.2.2.2.set _⟩
theorem nearest_yes {w : World} {B n c : Nat} {A : Option Addr} {xs : List (Nat × Nat)} (x y : Nat) (h : Cx w B A n xs) (hB : B ≤ w.heap.size) (hf : fitE n = 0) :
    Calls Try.prog 26 #[.slice A n c, .complex .f64 x y] w fun e w' => e = .returned (.tuple #[.int .i64 (nearC xs (x, y) n : Nat), .int .i64 0]) ∧ RowKit.Below w.heap.size w w' := by
  have HH := Lib.hid h
  obtain ⟨hn0, hn1⟩ := fit_le hf
  have HF := Lib.hid hf
  clear h hf
  go_enter Try.func26, Try.ntmps26
  go_wp2_with fail
  refine (countable_any _ _ _ (by omega) _).mono ?_
  rintro e w1 ⟨rfl, rfl⟩
  rw [HF.out]
  go_wp2_with fail
  have e1 : (w.alloc (Obj.cells #[Value.slice A n c] 38)).heap.size = w.heap.size + 1 := by show (w.heap.push _).size = _; simp
  have e2 : ((w.alloc (Obj.cells #[Value.slice A n c] 38)).alloc (Obj.cells #[Value.complex FloatKind.f64 x y] 23)).heap.size = w.heap.size + 1 + 1 := by show ((w.heap.push _).push _).size = _; simp
  have b0 : RowKit.Below w.heap.size w (((w.alloc (Obj.cells #[Value.slice A n c] 38)).alloc (Obj.cells #[Value.complex FloatKind.f64 x y] 23)).alloc (Obj.cells #[Value.int IntKind.i64 0] 3)) := (((Below.refl _ _).alloc (Nat.le_refl _) _).alloc (by omega) _).alloc (by omega) _
  have x1 := ((Boxed.new w 38 (Value.slice A n c)).alloc (Obj.cells #[Value.complex FloatKind.f64 x y] 23)).alloc (Obj.cells #[Value.int IntKind.i64 0] 3)
  have x2 := (Boxed.new (w.alloc (Obj.cells #[Value.slice A n c] 38)) 23 (Value.complex FloatKind.f64 x y)).alloc (Obj.cells #[Value.int IntKind.i64 0] 3)
  have x3 := Boxed.new ((w.alloc (Obj.cells #[Value.slice A n c] 38)).alloc (Obj.cells #[Value.complex FloatKind.f64 x y] 23)) 3 (Value.int IntKind.i64 0)
  rw [e1] at x2
  rw [e2] at x3
  have hl := HH.out.1
  have S0 : St w (w.heap.size + 1) w.heap.size (w.heap.size + 1 + 1) x y A n c (nearC xs (x, y) 0) (((w.alloc (Obj.cells #[Value.slice A n c] 38)).alloc (Obj.cells #[Value.complex FloatKind.f64 x y] 23)).alloc (Obj.cells #[Value.int IntKind.i64 0] 3)) := ⟨b0, x2, x1, x3⟩
  refine (each_three 42 _ _ _ (fun j w' => St w (w.heap.size + 1) w.heap.size (w.heap.size + 1 + 1) x y A n c (nearC xs (x, y) j) w') (xs := xs) (B := B) enter42 ?_ ?_ (by omega) _ S0).mono ?_
  · intro j z w' hz hs
    have hj : j < n := by have := (List.getElem?_eq_some_iff.1 hz).1; omega
    have hk : nearC xs (x, y) j < n := by have := nearC_le xs (x, y) j; omega
    obtain ⟨_, hc⟩ := HH.out.below hs.1 hB
    rcases hc with h00 | ⟨g, off, rfl, hg, hc⟩
    · omega
    have e3 := List.getElem?_eq_getElem (show nearC xs (x, y) j < xs.length by omega)
    have hcell := hc _ _ e3
    have k1 : xs.getD j (0, 0) = z := by rw [List.getD_eq_getElem?_getD, hz]; rfl
    have k2 : xs.getD (nearC xs (x, y) j) (0, 0) = xs[nearC xs (x, y) j]'(by omega) := by rw [List.getD_eq_getElem?_getD, e3]; rfl
    refine (near1_any j (nearC xs (x, y) j) n c z.1 z.2 x y _ _ hs.2.1.cell hs.2.2.1.cell hs.2.2.2 hcell hk rfl).mono ?_
    rintro e w2 ⟨rfl, m, rfl⟩
    refine ⟨rfl, ?_⟩
    have := hs.step (by omega) (by omega) (by omega) (ltF (farC z.1 z.2 x y) (farC (xs[nearC xs (x, y) j]'(by omega)).1 (xs[nearC xs (x, y) j]'(by omega)).2 x y)) j m
    have e5 : nearC xs (x, y) (j + 1) = if ltF (farC (xs.getD j (0, 0)).1 (xs.getD j (0, 0)).2 x y) (farC (xs.getD (nearC xs (x, y) j) (0, 0)).1 (xs.getD (nearC xs (x, y) j) (0, 0)).2 x y) then j else nearC xs (x, y) j := rfl
    rw [k1, k2] at e5
    rw [e5]
    exact this
  · intro j w' hs
    exact HH.out.below hs.1 hB
  rintro e w2 ⟨rfl, hs⟩
  have HB := Lib.hid hs.1
  have c3 := hs.2.2.2.cell
  clear hs x1 x2 x3 b0 S0 e1 e2
  go_wp2_with fail
  go_ret2
  exact ⟨rfl, HB.out⟩
end Go.Proofs.Ytnjieddkphappaa
