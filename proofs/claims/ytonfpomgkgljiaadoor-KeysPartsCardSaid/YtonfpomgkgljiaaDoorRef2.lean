/- The document's own schedule. -/
import Derived.Test.YtonfpomgkgljiaaDoorRef1
import Derived.BigRegion
namespace Go.Proofs.YtonfpomgkgljiaaDoor
open Go.RowKit
set_option linter.unusedVariables false
set_option maxRecDepth 100000
attribute [local go_sem] bits_wx bits_wa bits_wo bits_wn add_ad wrap_ad div_8 div_1024

section
variable {P : Program} {ops : Array Oper} {Q : Exit → Act → World → Prop} {md : Region.Mode}
theorem take_op {i d : Nat} {o : Oper} {v : Value} {fuel : Nat} {listed : Array Bool} {a a' : Act} {w : World} (hi : ops[i]? = some o)
    (hs : Region.noSelect ops = true) (hf : Region.free md ops listed i = true) (hr : (Region.ready md ops listed).contains i = true)
    (hQ : ∀ c a w, Q (.panic c) (a.put (some d) v) w → Q (.panic c) a w) (hdst : o.dst = some d)
    (hw : Region.wanted o (yielded ops a.tmps) = true) (hy : ∀ w, (execOp a.eval o).run P w = .ok (.value v) w) (hd : a.put (some d) v = a')
    (g : wpAny P md ops Q fuel (listed.setIfInBounds i true) a' w) : wpAny P md ops Q (fuel + 1) listed a w :=
  wpAny_take hi hs hf hr (by rw [hdst]; exact hQ) (Or.inl ⟨hw, hy⟩) (by rw [hdst, hd]; exact g)
end

/-- append of one word to a row of the call's own, as one operation -/
theorem wp_app_w (w : World) {o : Oper} {a : Act} {K : Act → World → Prop} {Q : Exit → Act → World → Prop} (s x : Operand)
    (ho : o.op = .call { callee := .builtin .append, args := #[s, x], argTypes := #[30, 30] }) {base n c g y : Nat} {A : Option Addr} {xs : List Nat} {w0 : World}
    (hs : a.eval s = .slice A n c) (hown : Gw w base A n c xs) (hx : a.eval x = .slice (some ⟨g, 0, none⟩) 1 1) (hc : w.cell? ⟨g, 0, none⟩ = some (.int .u32 (y : Int)))
    (hn : n ≤ 1099511627776) (hb : Below base w0 w) (hbase : base ≤ w.heap.size)
    (h : ∀ A' c' w', Gw w' base A' (n + 1) c' (xs ++ [y]) → Below base w0 w' → K (a.put o.dst (.slice A' (n + 1) c')) w') : Oper.wp Tryd.prog o a w K Q := by
  obtain ⟨i0, hi, hz0, hz1, hz2⟩ := info_parts Tryd.info22'
  obtain ⟨v', w', hr, h2, h3, _⟩ := run_append_own (P := Tryd.prog) w base 30 o.type 22 i0 (.int .u32 0) 1 4 Tryd.underlying30 hi hz0 hz1 hz2 rfl (by decide) _ n (wv xs) hown.2 ⟨g, 0, none⟩ 1 1 [.int .u32 (y : Int)] rfl (by
    intro j u hj
    match j, hj with
    | 0, hj => simp at hj; subst hj; simpa [Addr.add] using hc) (by intro u hu; simp at hu; subst hu; rfl) (by unfold maxLen; omega) (by omega) hbase
  obtain ⟨A', c', rfl⟩ := own_shape h2
  unfold Oper.wp execOp
  simp only [ho, resolve, invoke, builtin, Sem.run_bind, Sem.run_pure, Result.andThen_ok, List.map_toArray, List.map_cons, List.map_nil, hs, hx, hr]
  exact h A' c' w' ⟨by simp [hown.1], by rw [wv_append]; exact h2⟩ (hb.grown h3 hbase fun k hk => (hown.2.lt k hk).1)
/-- a word, as far as its bytes are read -/
def acc (a b c d : Nat) : Nat → Nat
  | 0 => 0
  | 1 => a
  | 2 => a * 256 + b
  | 3 => (a * 256 + b) * 256 + c
  | _ => word a b c d
theorem sched1_succ (p : List Nat) (t : Nat) : sched1 p (t + 1) = sched1 p t ++ [wordAt p t] := by rw [sched1]
theorem gw_drew {w : World} {base n c : Nat} {A : Option Addr} {xs : List Nat} (h : Gw w base A n c xs) : Gw w.drew base A n c xs := h
theorem gw_drewN {w : World} {base n c : Nat} {A : Option Addr} {xs : List Nat} (h : Gw w base A n c xs) (q : Nat) : Gw (w.drewN q) base A n c xs := h
set_option maxHeartbeats 1000000 in
theorem rsched_any {w : World} {c : Nat} {A : Option Addr} {xs : List Nat} (h : Nb w w.heap.size A 64 c xs) :
    Calls Tryd.prog 47 #[.slice A 64 c] w fun e w' => ∃ A' c', e = .returned (.slice A' 64 c') ∧ Nw w' w'.heap.size A' 64 c' (sched xs) ∧ Below w.heap.size w w' := by
  have hc := h.cap
  have hr := h.room
  obtain ⟨b, off, rfl, hb, -⟩ := h.cell (by omega)
  have g0 := Gw.nil w w.heap.size
  go_enter Tryd.func47, Tryd.ntmps47
  go_wp2
  go_loopw [4, 3] (fun i v wr => ∃ k : Nat, k ≤ 16 ∧ i = .int .i64 k ∧ ∃ A c, v = .slice A k c ∧ Gw wr w.heap.size A k c (sched1 xs k) ∧ Below w.heap.size w wr) (fun i _ _ => 16 - (intOf i).toNat)
  case atStart => exact ⟨0, by omega, rfl, none, 0, rfl, by rw [sched1]; exact g0, Below.refl _ _⟩
  case round =>
    obtain ⟨k, hk, rfl, A5, c5, rfl, hG, hB⟩ := hrel
    have hs := hB.size
    by_cases hlt : k < 16
    · have hx := h.below hB
      obtain ⟨b0, off0, e0, _, h0⟩ := hx.at_ (k := 4 * k) (by omega)
      obtain ⟨b1, off1, e1, _, h1⟩ := hx.at_ (k := 4 * k + 1) (by omega)
      obtain ⟨b2, off2, e2, _, h2⟩ := hx.at_ (k := 4 * k + 2) (by omega)
      obtain ⟨b3, off3, e3, _, h3⟩ := hx.at_ (k := 4 * k + 3) (by omega)
      simp only [Option.some.injEq, Addr.mk.injEq, and_true] at e0 e1 e2 e3
      obtain ⟨rfl, rfl⟩ := e0
      obtain ⟨rfl, rfl⟩ := e1
      obtain ⟨rfl, rfl⟩ := e2
      obtain ⟨rfl, rfl⟩ := e3
      have l0 := hx.lim.get (by omega) (4 * k)
      have l1 := hx.lim.get (by omega) (4 * k + 1)
      have l2 := hx.lim.get (by omega) (4 * k + 2)
      have l3 := hx.lim.get (by omega) (4 * k + 3)
      have HW : Hid (sched1 xs (k + 1) = sched1 xs k ++ [word (xs.getD (4 * k) 0) (xs.getD (4 * k + 1) 0) (xs.getD (4 * k + 2) 0) (xs.getD (4 * k + 3) 0)]) := Lib.hid (by rw [sched1_succ]; rfl)
      generalize xs.getD (4 * k) 0 = x0 at *
      generalize xs.getD (4 * k + 1) 0 = x1 at *
      generalize xs.getD (4 * k + 2) 0 = x2 at *
      generalize xs.getD (4 * k + 3) 0 = x3 at *
      go_wp2
      go_loopw [6, 5] (fun i x w2 => ∃ m : Nat, m ≤ 4 ∧ i = .int .i64 m ∧ x = .int .u32 ((acc x0 x1 x2 x3 m : Nat) : Int) ∧ w2 = wr) (fun i _ _ => 4 - (intOf i).toNat)
      case atStart => exact ⟨0, by omega, rfl, rfl, rfl⟩
      case round =>
        obtain ⟨m, hm, rfl, rfl, rfl⟩ := hrel
        have hh : m = 0 ∨ m = 1 ∨ m = 2 ∨ m = 3 ∨ m = 4 := by omega
        rcases hh with rfl | rfl | rfl | rfl | rfl
        · go_wp2
          go_roundw
          case rel => exact ⟨1, by omega, rfl, by congr 1; simp only [acc]; omega, trivial⟩
          case measure => simp [intOf]
        · go_wp2
          go_roundw
          case rel => exact ⟨2, by omega, rfl, by congr 1; simp only [acc]; omega, trivial⟩
          case measure => simp [intOf]
        · go_wp2
          go_roundw
          case rel => exact ⟨3, by omega, rfl, by congr 1; simp only [acc]; omega, trivial⟩
          case measure => simp [intOf]
        · go_wp2
          go_roundw
          case rel => exact ⟨4, by omega, rfl, by congr 1; simp only [acc, word]; omega, trivial⟩
          case measure => simp [intOf]
        · have ha : acc x0 x1 x2 x3 4 = word x0 x1 x2 x3 := rfl
          rw [ha]
          have hwl := word_lt l0 l1 l2 l3
          generalize word x0 x1 x2 x3 = y at *
          have hG' := hG.alloc (.cells #[.int .u32 (y : Int)] 22)
          have hB' := hB.alloc hs (.cells #[.int .u32 (y : Int)] 22)
          have hc9 := cell_new wr (.int .u32 (y : Int)) 22
          go_wp2_with (refine wpList_app_w _ rfl (.tmp 31) (.tmp 33) rfl rfl hG' rfl hc9 (by omega) hB' (by simp; omega) ?_; intro A7 c7 w7 hG7 hB7)
          go_roundw
          case rel => exact ⟨k + 1, by omega, by go_num, A7, c7, rfl, by rw [HW.out]; exact hG7, hB7⟩
          case measure => simp [intOf]; omega
    · have e : k = 16 := by omega
      subst e
      have hL1 := lim_sched1 h.lim 16
      have hl1 := length_sched1 xs 16
      obtain ⟨W1, hW1⟩ : ∃ W1, sched1 xs 16 = W1 := ⟨_, rfl⟩
      have HS : Hid (sched xs = sched2 W1 48) := Lib.hid (by rw [sched, hW1])
      rw [hW1] at hG hL1 hl1
      clear hW1 hlt
      rw [show ((16 : Nat) : Int) = 16 from rfl]
      go_wp2
      go_loopw [7, 3] (fun i v wr => ∃ k : Nat, k ≤ 48 ∧ i = .int .i64 (k + 16 : Nat) ∧ ∃ A c, v = .slice A (k + 16) c ∧ Gw wr w.heap.size A (k + 16) c (sched2 W1 k) ∧ Below w.heap.size w wr) (fun i _ _ => 64 - (intOf i).toNat)
      case atStart => exact ⟨0, by omega, rfl, _, _, rfl, by rw [sched2]; exact hG, hB⟩
      case round =>
        clear hG hB hs
        obtain ⟨k, hk, rfl, A6, c6, rfl, hG, hB⟩ := hrel
        have hs := hB.size
        have hL := lim_sched2 hL1 k
        by_cases hlt : k < 48
        · have hN := hG.nw hL
          obtain ⟨b1, off1, e1, _, h1⟩ := hN.at_ (k := k + 1) (by omega)
          obtain ⟨b2, off2, e2, _, h2⟩ := hN.at_ (k := k + 14) (by omega)
          obtain ⟨b3, off3, e3, _, h3⟩ := hN.at_ (k := k + 9) (by omega)
          obtain ⟨b4, off4, e4, _, h4⟩ := hN.at_ (k := k) (by omega)
          rw [e1] at e2 e3 e4
          simp only [Option.some.injEq, Addr.mk.injEq, and_true] at e2 e3 e4
          obtain ⟨rfl, rfl⟩ := e2
          obtain ⟨rfl, rfl⟩ := e3
          obtain ⟨rfl, rfl⟩ := e4
          subst e1
          have p2 := hL.get (by omega) (k + 14)
          have p1 := hL.get (by omega) (k + 1)
          have Hn : Hid (sched2 W1 (k + 1) = sched2 W1 k ++ [ad (ad (ad (sg1 ((sched2 W1 k).getD (k + 14) 0)) ((sched2 W1 k).getD (k + 9) 0)) (sg0 ((sched2 W1 k).getD (k + 1) 0))) ((sched2 W1 k).getD k 0)]) := Lib.hid (by
            rw [sched2, nextW, length_sched2, hl1, show 16 + k - 2 = k + 14 by omega, show 16 + k - 7 = k + 9 by omega, show 16 + k - 15 = k + 1 by omega, show 16 + k - 16 = k by omega])
          generalize (sched2 W1 k).getD (k + 14) 0 = x2 at *
          generalize (sched2 W1 k).getD (k + 9) 0 = x7 at *
          generalize (sched2 W1 k).getD (k + 1) 0 = x15 at *
          generalize (sched2 W1 k).getD k 0 = x16 at *
          have z2 : IntKind.i64.wrap ((k : Int) + 16 - 2) = (k : Int) + 14 := (IntWalk.i64_in _ (by omega)).trans (by omega)
          go_wp2
          go_quiet (fail)
          replace hB := below_drewN hB nq
          have hG1 : Gw (wr.drewN nq) w.heap.size (some ⟨b1, off1, none⟩) (k + 16) c6 (sched2 W1 k) := gw_drewN hG nq
          replace h3 : (wr.drewN nq).cell? _ = _ := h3
          replace h4 : (wr.drewN nq).cell? _ = _ := h4
          have hs1 : w.heap.size ≤ (wr.drewN nq).heap.size := hs
          generalize wr.drewN nq = w8 at *
          clear hG h1 h2 hN hs
          go_wp2_with (go_at_call 48; refine (rturned_any _ (by omega) _ (by omega) (by omega) _).mono ?_; rintro e w' ⟨rfl, rfl⟩)
          obtain ⟨s0, e0⟩ : ∃ s0, sg0 x15 = s0 := ⟨_, rfl⟩
          obtain ⟨s1, e1⟩ : ∃ s1, sg1 x2 = s1 := ⟨_, rfl⟩
          rw [e0, e1] at Hn
          rw [show wx (wx (rt x15 7) (rt x15 18)) (dn x15 3) = s0 from e0, show wx (wx (rt x2 17) (rt x2 19)) (dn x2 10) = s1 from e1]
          clear e0 e1
          have hG9 := (gw_drew hG1).alloc (.cells #[.int .u32 ((ad (ad (ad s1 x7) s0) x16 : Nat) : Int)] 22)
          have hB9 := (below_drew hB).alloc hs1 (.cells #[.int .u32 ((ad (ad (ad s1 x7) s0) x16 : Nat) : Int)] 22)
          have hc9 := cell_new w8.drew (.int .u32 ((ad (ad (ad s1 x7) s0) x16 : Nat) : Int)) 22
          have hs9 : w.heap.size ≤ (w8.drew.alloc (.cells #[.int .u32 ((ad (ad (ad s1 x7) s0) x16 : Nat) : Int)] 22)).heap.size := by rw [World.size_alloc]; exact Nat.le_succ_of_le hs1
          have z7 : IntKind.i64.wrap ((k : Int) + 16 - 7) = (k : Int) + 9 := (IntWalk.i64_in _ (by omega)).trans (by omega)
          have z16 : IntKind.i64.wrap ((k : Int) + 16 - 16) = (k : Int) := (IntWalk.i64_in _ (by omega)).trans (by omega)
          have y7 : IntKind.i64.wrap ((k : Int) + 9) = (k : Int) + 9 := IntWalk.i64_in _ (by omega)
          have y16 : IntKind.i64.wrap (k : Int) = (k : Int) := IntWalk.i64_in _ (by omega)
          have i1 : 0 ≤ (k : Int) + 9 ∧ (k : Int) + 9 < (k : Int) + 16 := by omega
          have i3 : ((k : Int) + 9).toNat = k + 9 := by omega
          have i4 : 0 ≤ (k : Int) ∧ (k : Int) < (k : Int) + 16 := by omega
          have h3' : w8.drew.cell? _ = _ := h3
          have h4' : w8.drew.cell? _ = _ := h4
          clear h3 h4
          refine wp_region_any (by kernel_rfl) ?_
          change wpAny _ _ _ _ _ _ _ (World.drew _)
          refine take_op (i := 0) (d := 65) (v := .slice (some ⟨b1, off1, none⟩) (k + 16) c6) (a' := _) (by rfl) (by kernel_rfl) (by kernel_rfl) (by kernel_rfl) (fun _ _ _ h => h) (by rfl) (by rfl) (fun W => by go_simp; try rfl) (by go_simp; exact rfl) ?_
          refine take_op (i := 1) (d := 66) (v := .int .u32 (s1 : Int)) (a' := _) (by rfl) (by kernel_rfl) (by kernel_rfl) (by kernel_rfl) (fun _ _ _ h => h) (by rfl) (by rfl) (fun W => by go_simp; try rfl) (by go_simp; exact rfl) ?_
          refine take_op (i := 2) (d := 67) (v := .slice (some ⟨b1, off1, none⟩) (k + 16) c6) (a' := _) (by rfl) (by kernel_rfl) (by kernel_rfl) (by kernel_rfl) (fun _ _ _ h => h) (by rfl) (by rfl) (fun W => by go_simp; try rfl) (by go_simp; exact rfl) ?_
          refine take_op (i := 3) (d := 68) (v := .int .i64 ((k : Int) + 16)) (a' := _) (by rfl) (by kernel_rfl) (by kernel_rfl) (by kernel_rfl) (fun _ _ _ h => h) (by rfl) (by rfl) (fun W => by go_simp; try rfl) (by go_simp; exact rfl) ?_
          refine take_op (i := 4) (d := 69) (v := .int .i64 ((k : Int) + 9)) (a' := _) (by rfl) (by kernel_rfl) (by kernel_rfl) (by kernel_rfl) (fun _ _ _ h => h) (by rfl) (by rfl) (fun W => by go_simp; try rfl) (by go_simp; exact rfl) ?_
          refine take_op (i := 5) (d := 70) (v := .pointer (some ⟨b1, off1 + (k + 9), none⟩)) (a' := _) (by rfl) (by kernel_rfl) (by kernel_rfl) (by kernel_rfl) (fun _ _ _ h => h) (by rfl) (by rfl) (fun W => by go_simp; try rfl) (by go_simp; exact rfl) ?_
          refine take_op (i := 8) (d := 73) (v := .int .u32 (s0 : Int)) (a' := _) (by rfl) (by kernel_rfl) (by kernel_rfl) (by kernel_rfl) (fun _ _ _ h => h) (by rfl) (by rfl) (fun W => by go_simp; try rfl) (by go_simp; exact rfl) ?_
          refine take_op (i := 10) (d := 75) (v := .slice (some ⟨b1, off1, none⟩) (k + 16) c6) (a' := _) (by rfl) (by kernel_rfl) (by kernel_rfl) (by kernel_rfl) (fun _ _ _ h => h) (by rfl) (by rfl) (fun W => by go_simp; try rfl) (by go_simp; exact rfl) ?_
          refine take_op (i := 11) (d := 76) (v := .int .i64 ((k : Int) + 16)) (a' := _) (by rfl) (by kernel_rfl) (by kernel_rfl) (by kernel_rfl) (fun _ _ _ h => h) (by rfl) (by rfl) (fun W => by go_simp; try rfl) (by go_simp; exact rfl) ?_
          refine take_op (i := 12) (d := 77) (v := .int .i64 (k : Int)) (a' := _) (by rfl) (by kernel_rfl) (by kernel_rfl) (by kernel_rfl) (fun _ _ _ h => h) (by rfl) (by rfl) (fun W => by go_simp; try rfl) (by go_simp; exact rfl) ?_
          refine take_op (i := 13) (d := 78) (v := .pointer (some ⟨b1, off1 + k, none⟩)) (a' := _) (by rfl) (by kernel_rfl) (by kernel_rfl) (by kernel_rfl) (fun _ _ _ h => h) (by rfl) (by rfl) (fun W => by go_simp; try rfl) (by go_simp; exact rfl) ?_
          refine wpAny_ready (rs := [6, 14]) (by kernel_rfl) (by simp) ?_
          refine BigFrame.allReady_want rfl rfl (fun K hK => ?PA) (BigFrame.allReady_want rfl rfl (fun K hK => ?PB) AllReady.nil)
          case PA =>
            change Oper.wp _ ⟨some 71, Op.load 22 (.tmp 70), _, _, _, _⟩ _ _ _ _
            go_big_op
            refine hK _ _ ?_
            clear hK K
            refine take_op (i := 7) (d := 72) (v := .int .u32 ((ad s1 x7 : Nat) : Int)) (a' := _) (by rfl) (by kernel_rfl) (by kernel_rfl) (by kernel_rfl) (fun _ _ _ h => h) (by rfl) (by rfl) (fun W => by go_simp; try rfl) (by go_simp; exact rfl) ?_
            refine take_op (i := 9) (d := 74) (v := .int .u32 ((ad (ad s1 x7) s0 : Nat) : Int)) (a' := _) (by rfl) (by kernel_rfl) (by kernel_rfl) (by kernel_rfl) (fun _ _ _ h => h) (by rfl) (by rfl) (fun W => by go_simp; try rfl) (by go_simp; exact rfl) ?_
            refine wpAny_ready (rs := [14]) (by kernel_rfl) (by simp) ?_
            refine BigFrame.allReady_want rfl rfl (fun K hK => ?_) AllReady.nil
            change Oper.wp _ ⟨some 79, Op.load 22 (.tmp 78), _, _, _, _⟩ _ _ _ _
            go_big_op
            refine hK _ _ ?_
            clear hK K
            refine take_op (i := 15) (d := 80) (v := .int .u32 ((ad (ad (ad s1 x7) s0) x16 : Nat) : Int)) (a' := _) (by rfl) (by kernel_rfl) (by kernel_rfl) (by kernel_rfl) (fun _ _ _ h => h) (by rfl) (by rfl) (fun W => by go_simp; try rfl) (by go_simp; exact rfl) ?_
            refine wpAny_ready (rs := [16]) (by kernel_rfl) (by simp) ?_
            refine BigFrame.allReady_want rfl rfl (fun K hK => ?_) AllReady.nil
            change Oper.wp _ ⟨some 81, Op.buildSlice 30 1 #[(0, .tmp 80)], _, _, _, _⟩ _ _ _ _
            go_big_op
            refine hK _ _ ?_
            clear hK K
            refine wpAny_ready (rs := [17]) (by kernel_rfl) (by simp) ?_
            refine BigFrame.allReady_want rfl rfl (fun K hK => ?_) AllReady.nil
            refine wp_app_w _ (.tmp 65) (.tmp 81) rfl rfl hG9 rfl hc9 (by omega) hB9 hs9 ?_
            intro A7 c7 w7 hG7 hB7
            refine hK _ _ ?_
            clear hK K
            refine take_op (i := 18) (d := 3) (v := .slice A7 (k + 16 + 1) c7) (a' := _) (by rfl) (by kernel_rfl) (by kernel_rfl) (by kernel_rfl) (fun _ _ _ h => h) (by rfl) (by rfl) (fun W => by go_simp; try rfl) (by go_simp; exact rfl) ?_
            refine wpAny_done (by kernel_rfl) ?_ _
            go_wp2
            go_roundw
            case rel => exact ⟨k + 1, by omega, by go_num, A7, c7, rfl, by rw [Hn.out]; exact hG7, hB7⟩
            case measure => simp [intOf]; omega
          case PB =>
            change Oper.wp _ ⟨some 79, Op.load 22 (.tmp 78), _, _, _, _⟩ _ _ _ _
            go_big_op
            refine hK _ _ ?_
            clear hK K
            refine wpAny_ready (rs := [6]) (by kernel_rfl) (by simp) ?_
            refine BigFrame.allReady_want rfl rfl (fun K hK => ?_) AllReady.nil
            change Oper.wp _ ⟨some 71, Op.load 22 (.tmp 70), _, _, _, _⟩ _ _ _ _
            go_big_op
            refine hK _ _ ?_
            clear hK K
            refine take_op (i := 7) (d := 72) (v := .int .u32 ((ad s1 x7 : Nat) : Int)) (a' := _) (by rfl) (by kernel_rfl) (by kernel_rfl) (by kernel_rfl) (fun _ _ _ h => h) (by rfl) (by rfl) (fun W => by go_simp; try rfl) (by go_simp; exact rfl) ?_
            refine take_op (i := 9) (d := 74) (v := .int .u32 ((ad (ad s1 x7) s0 : Nat) : Int)) (a' := _) (by rfl) (by kernel_rfl) (by kernel_rfl) (by kernel_rfl) (fun _ _ _ h => h) (by rfl) (by rfl) (fun W => by go_simp; try rfl) (by go_simp; exact rfl) ?_
            refine take_op (i := 15) (d := 80) (v := .int .u32 ((ad (ad (ad s1 x7) s0) x16 : Nat) : Int)) (a' := _) (by rfl) (by kernel_rfl) (by kernel_rfl) (by kernel_rfl) (fun _ _ _ h => h) (by rfl) (by rfl) (fun W => by go_simp; try rfl) (by go_simp; exact rfl) ?_
            refine wpAny_ready (rs := [16]) (by kernel_rfl) (by simp) ?_
            refine BigFrame.allReady_want rfl rfl (fun K hK => ?_) AllReady.nil
            change Oper.wp _ ⟨some 81, Op.buildSlice 30 1 #[(0, .tmp 80)], _, _, _, _⟩ _ _ _ _
            go_big_op
            refine hK _ _ ?_
            clear hK K
            refine wpAny_ready (rs := [17]) (by kernel_rfl) (by simp) ?_
            refine BigFrame.allReady_want rfl rfl (fun K hK => ?_) AllReady.nil
            refine wp_app_w _ (.tmp 65) (.tmp 81) rfl rfl hG9 rfl hc9 (by omega) hB9 hs9 ?_
            intro A7 c7 w7 hG7 hB7
            refine hK _ _ ?_
            clear hK K
            refine take_op (i := 18) (d := 3) (v := .slice A7 (k + 16 + 1) c7) (a' := _) (by rfl) (by kernel_rfl) (by kernel_rfl) (by kernel_rfl) (fun _ _ _ h => h) (by rfl) (by rfl) (fun W => by go_simp; try rfl) (by go_simp; exact rfl) ?_
            refine wpAny_done (by kernel_rfl) ?_ _
            go_wp2
            go_roundw
            case rel => exact ⟨k + 1, by omega, by go_num, A7, c7, rfl, by rw [Hn.out]; exact hG7, hB7⟩
            case measure => simp [intOf]; omega
        · have e : k = 48 := by omega
          subst e
          rw [← HS.out] at hG hL
          have HN := Lib.hid (hG.nw hL)
          clear hG hL hlt
          go_wp2
          go_ret
          exact ⟨_, _, rfl, HN.out, hB⟩
end Go.Proofs.YtonfpomgkgljiaaDoor
