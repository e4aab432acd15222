/- The document's own digest. -/
import Derived.Test.YtonfpomgkgljiaaDoorRow
import Derived.Test.YtonfpomgkgljiaaDoorCuts
namespace Go.Proofs.YtonfpomgkgljiaaDoor
open Go.RowKit
set_option linter.unusedVariables false
set_option maxRecDepth 100000
attribute [local go_sem] bits_wx bits_wa bits_wo bits_wn bits_wn2 add_ad wrap_ad div_8 div_1024

/-- what is known while the blocks are gone through -/
structure At (W : World) (w : World) (base gk gh R : Nat) (A5 : Option Addr) (L c5 : Nat) (T : List Nat) : Prop where
  kk_ : Wb w gk 22 kk
  text : Nb w base A5 L c5 T
  out : Bb w R 45 (List.replicate 32 0)
  bel : Below W.heap.size W w
  hk : gk < base
  hR : R < base
  hb : base ≤ w.heap.size
  hh : gh < w.heap.size
  hW : W.heap.size ≤ R
  hWk : W.heap.size ≤ gk
  nh : gh ≠ gk
  nR : gh ≠ R
  nT : ∃ g off, A5 = some ⟨g, off, none⟩ ∧ g ≠ gh
  hg : gh < base
theorem At.far {W w w' : World} {base gk gh R : Nat} {A5 : Option Addr} {L c5 : Nat} {T : List Nat} (h : At W w base gk gh R A5 L c5 T) (b : Below w.heap.size w w') : At W w' base gk gh R A5 L c5 T := by
  have h1 := h.hk
  have h2 := h.hR
  have h3 := h.hb
  have h4 := b.size
  exact ⟨h.kk_.below b (by omega), h.text.keep fun p hp => b.cell (by omega), h.out.below b (by omega), h.bel.trans (b.mono h.bel.size), h.hk, h.hR, by omega, by have := h.hh; omega, h.hW, h.hWk, h.nh, h.nR, h.nT, h.hg⟩
theorem At.drewN {W w : World} {base gk gh R : Nat} {A5 : Option Addr} {L c5 : Nat} {T : List Nat} (h : At W w base gk gh R A5 L c5 T) (q : Nat) : At W (w.drewN q) base gk gh R A5 L c5 T :=
  ⟨h.kk_.drewN q, h.text.drewN q, h.out.drewN q, below_drewN h.bel q, h.hk, h.hR, h.hb, h.hh, h.hW, h.hWk, h.nh, h.nR, h.nT, h.hg⟩
theorem size_setCell' (w : World) (p : Addr) (v : Value) : (w.setCell p v).heap.size = w.heap.size := by simp [World.setCell]
theorem At.setv {W w : World} {base gk gh R : Nat} {A5 : Option Addr} {L c5 : Nat} {T : List Nat} (h : At W w base gk gh R A5 L c5 T) {g : Nat} (hg : base ≤ g) (j : Nat) (v : Value) : At W (w.setCell ⟨g, j, none⟩ v) base gk gh R A5 L c5 T := by
  have b : Below base w (w.setCell ⟨g, j, none⟩ v) := (Below.refl _ _).setCell (p := ⟨g, j, none⟩) hg v
  have h1 := h.hk
  have h2 := h.hR
  have hs := size_setCell' w ⟨g, j, none⟩ v
  exact ⟨h.kk_.below b h1, h.text.below b, h.out.below b h2, h.bel.setCell (p := ⟨g, j, none⟩) (by have := h.hW; show W.heap.size ≤ g; omega) v, h.hk, h.hR, by rw [hs]; exact h.hb, by rw [hs]; exact h.hh, h.hW, h.hWk, h.nh, h.nR, h.nT, h.hg⟩
theorem At.seth {W w : World} {base gk gh R : Nat} {A5 : Option Addr} {L c5 : Nat} {T : List Nat} (h : At W w base gk gh R A5 L c5 T) (j : Nat) (v : Value) (hW : W.heap.size ≤ gh) : At W (w.setCell ⟨gh, j, none⟩ v) base gk gh R A5 L c5 T := by
  have hs := size_setCell' w ⟨gh, j, none⟩ v
  obtain ⟨g, off, e, hne⟩ := h.nT
  exact ⟨h.kk_.other (p := ⟨gh, j, none⟩) h.nh v, h.text.kept (q := gh) h.hb (fun _ => ⟨g, off, e, hne⟩) (grown_setCell w ⟨gh, j, none⟩ v), (Below.heap_setCell w ⟨gh, j, none⟩ v R (fun e => h.nR e.symm)).trans h.out, h.bel.setCell (p := ⟨gh, j, none⟩) hW v, h.hk, h.hR, by rw [hs]; exact h.hb, by rw [hs]; exact h.hh, h.hW, h.hWk, h.nh, h.nR, h.nT, h.hg⟩
theorem length_dig (s : St) : (dig s).length = 32 := rfl
theorem dig_get (s : St) (q r : Nat) (hq : q < 8) (hr : r < 4) : (dig s).getD (4 * q + r) 0 = (by4 ((words s).getD q 0)).getD r 0 := by
  have h1 : q = 0 ∨ q = 1 ∨ q = 2 ∨ q = 3 ∨ q = 4 ∨ q = 5 ∨ q = 6 ∨ q = 7 := by omega
  have h2 : r = 0 ∨ r = 1 ∨ r = 2 ∨ r = 3 := by omega
  rcases h1 with rfl | rfl | rfl | rfl | rfl | rfl | rfl | rfl <;> rcases h2 with rfl | rfl | rfl | rfl <;> rfl
theorem dig_put (s : St) (i : Nat) (h : i < 32) : ((dig s).take i ++ List.replicate (32 - i) 0).set i ((dig s).getD i 0) = (dig s).take (i + 1) ++ List.replicate (32 - (i + 1)) 0 := by
  have hl : i < (dig s).length := by rw [length_dig]; exact h
  have ht : ((dig s).take i).length = i := by rw [List.length_take, length_dig]; omega
  rw [List.set_append, if_neg (by omega), ht, Nat.sub_self, show 32 - i = (32 - (i + 1)) + 1 by omega, List.replicate_succ, List.set_cons_zero, List.take_succ_eq_append_getElem hl, List.append_assoc]
  congr 1
  simp [List.getD, List.getElem?_eq_getElem hl]
theorem Lim.words {s : St} (h : s.Ok) : Lim 4294967296 (words s) := by
  intro x hx
  simp only [Go.Proofs.YtonfpomgkgljiaaDoor.words, List.mem_cons, List.not_mem_nil, or_false] at hx
  obtain ⟨h0, h1, h2, h3, h4, h5, h6, h7⟩ := h
  omega
set_option maxHeartbeats 4000000 in
theorem rsum_any {w : World} {A : Option Addr} {n c : Nat} {xs : List Nat} (hx : Nb w w.heap.size A n c xs) (hn : n ≤ 1000000) :
    Calls Tryd.prog 30 #[.slice A n c] w fun e w' => e = .returned (.agg (bs (sha xs)).toArray) ∧ Below w.heap.size w w' := by
  have hr := hx.room
  obtain ⟨L, hL⟩ : ∃ L, n + (pad n).length = L := ⟨_, rfl⟩
  obtain ⟨m, hm⟩ : ∃ m, L = 64 * m := ⟨L / 64, by have := pad_whole n; omega⟩
  have hLs : L ≤ 1000100 := by have := length_pad n; omega
  obtain ⟨T, hT⟩ : ∃ T, xs ++ pad n = T := ⟨_, rfl⟩
  have HS : Hid (sha xs = dig (chgN first T m)) := Lib.hid (by
    rw [sha_is, hx.len, hT, hL, hm, Nat.mul_div_cancel_left m (by decide)])
  obtain ⟨D, hD⟩ : ∃ D, sha xs = D := ⟨_, rfl⟩
  rw [hD] at HS ⊢
  have o1 : Bb (w.alloc (Yb 45 (List.replicate 32 0))) w.heap.size 45 (List.replicate 32 0) := alloc_bb w 45 _
  have b1 : Below w.heap.size w (w.alloc (Yb 45 (List.replicate 32 0))) := (Below.refl _ _).alloc (Nat.le_refl _) _
  have hs1 : (w.alloc (Yb 45 (List.replicate 32 0))).heap.size = w.heap.size + 1 := by simp
  obtain ⟨w1, hw1⟩ : ∃ w1, w.alloc (Yb 45 (List.replicate 32 0)) = w1 := ⟨_, rfl⟩
  rw [hw1] at o1 b1 hs1
  have Hs1 := Lib.hid hs1
  have Hm := Lib.hid hm
  have hp := fun w' h => padded_any (w := w') (A := A) (n := n) (c := c) (xs := xs) h hn
  rw [hL, hT] at hp
  have HP := Lib.hid hp
  have HW := Lib.hid hw1
  have Hx := Lib.hid hx
  have HD := Lib.hid hD
  clear hL hT hw1 hp hx hD hs1 hm
  go_enter Tryd.func30, Tryd.ntmps30
  go_wp2_with fail
  change Calls _ _ _ (w.alloc (Yb 45 (List.replicate 32 0))) _
  rw [HW.out]
  refine (constants_any w1).mono ?_
  rintro e w2 ⟨rfl, k2, b2⟩
  have B2 := then_ b1 b2
  have o2 := o1.below b2 o1.lt
  go_wp2_with fail
  refine (rfirst_any w2).mono ?_
  rintro e w3 ⟨rfl, k3, b3⟩
  have B3 := then_ B2 b3
  have o3 := o2.below b3 o2.lt
  have k2' := k2.below b3 k2.lt
  go_wp2_with fail
  refine (HP.out w3 (Hx.out.far B3)).mono ?_
  rintro e w4 ⟨A5, c5, rfl, n4, ⟨gt, ot, et, gt1⟩, b4⟩
  have B4 := then_ B3 b4
  have o4 := o3.below b4 o3.lt
  have k4 := k2'.below b4 k2'.lt
  have f4 := k3.below b4 k3.lt
  have lt1 := k2.lt
  have lt2 := k3.lt
  have sz3 := b3.size
  have sz4 := b4.size
  clear o1 o2 o3 k2 k2' k3 b1 b2 b3 b4 B2 B3
  have hs1 := Hs1.out
  clear Hs1
  generalize hgk : w1.heap.size = gk at *
  generalize hgh : w2.heap.size = gh at *
  have hAt : At w w4 w4.heap.size gk gh w.heap.size A5 L c5 T := ⟨k4, n4, o4, B4, by omega, by omega, Nat.le_refl _, by omega, Nat.le_refl _, by omega, by omega, by omega, ⟨gt, ot, et, by omega⟩, by omega⟩
  have hWh : w.heap.size ≤ gh := by omega
  obtain ⟨base, hbase⟩ : ∃ base, w4.heap.size = base := ⟨_, rfl⟩
  rw [hbase] at hAt
  clear k4 n4 o4 B4 hgk hgh lt1 lt2 sz3 sz4 et gt1 hs1
  go_wp2_with fail
  go_loopw [6] (fun v wr => ∃ j : Nat, j ≤ m ∧ v = .int .i64 (64 * j : Nat) ∧ Wb wr gh 22 (words (chgN first T j)) ∧ At w wr base gk gh w.heap.size A5 L c5 T) (fun v _ => 64 * m - (intOf v).toNat)
  case atStart => exact ⟨0, by omega, rfl, by rw [chgN_zero]; exact f4, hAt⟩
  case round =>
    clear f4 hAt
    obtain ⟨j, hj, rfl, hH, hA⟩ := hrel
    by_cases hlt : j < m
    · have hm := Hm.out
      have hb := hA.hb
      have lt6 : 64 * (j : Int) < (L : Int) := by omega
      have le6 : 64 * (j : Int) + 64 ≤ (L : Int) := by omega
      obtain ⟨A6, c6, q6, n6⟩ := cut_lh hA.text (64 * j) (64 * j + 64) (by omega) (by omega)
      rw [show 64 * j + 64 - 64 * j = 64 by omega] at n6
      have q6' : ∀ W, (Instr.sliceAt 23 (.slice A5 L c5) (some (.int .i64 (64 * (j : Int)))) (some (.int .i64 (64 * (j : Int) + 64))) none).run Tryd.prog W = .ok (.slice A6 64 c6) W := fun W => by
        have := q6 W
        rw [show 64 * j + 64 - 64 * j = 64 by omega, show ((64 * j : Nat) : Int) = 64 * (j : Int) by omega, show ((64 * j + 64 : Nat) : Int) = 64 * (j : Int) + 64 by omega] at this
        exact this
      have HC : Hid (chgN first T (j + 1) = plus (chgN first T j) (rnds kk (sched ((T.drop (64 * j)).take 64)) (chgN first T j) 64)) := Lib.hid (by rw [chgN_succ, chg_is])
      have hok := chgN_ok first_ok T j
      obtain ⟨p, hp⟩ : ∃ p, (T.drop (64 * j)).take 64 = p := ⟨_, rfl⟩
      rw [hp] at HC n6
      generalize hS : chgN first T j = S at *
      have hlp := sched_lim n6.lim
      obtain ⟨V, hV⟩ : ∃ V, sched p = V := ⟨_, rfl⟩
      have HSch := Lib.hid (rsched_any (n6.more hA.hb))
      rw [hV] at HC hlp HSch
      clear hS hp q6 n6 hV hm
      go_wp2_with fail
      refine HSch.out.mono ?_
      rintro e w7 ⟨A7, c7, rfl, n7, b7⟩
      have hA7 := hA.far b7
      have hH7 := hH.below b7 hH.lt
      have s7 := b7.size
      have gn := Gw.nil w7 w7.heap.size
      have hN7 := hH7.nw 8 (words_8 S) (by omega) (Lim.words hok)
      clear hA hH b7 q6'
      go_wp2_with (refine wpList_app_row_w _ rfl (.tmp 34) (.tmp 35) rfl rfl gn rfl hN7 (by omega) (Below.refl _ _) (Nat.le_refl _) ?_; intro A8 c8 w8 hG8 hB8)
      obtain ⟨gv, rfl, hgv, hV8, hc8⟩ := hG8.vw
      have hA8 := hA7.far hB8
      have hH8 := hH7.below hB8 (by have := hA7.hh; omega)
      have hN8 := n7.below hB8
      have hb7 := hA7.hb
      generalize w7.heap.size = B7 at *
      have s7' : B7 ≤ gv := hgv
      have hgb : base ≤ gv := by omega
      have hgh : gv ≠ gh := by have := hA7.hg; omega
      have hgk : gv ≠ gk := by have := hA7.hk; omega
      clear hG8 hB8 gn hN7 hH7 n7 hA7
      go_wp2_with fail
      go_loopw [9] (fun v wr => ∃ t : Nat, t ≤ 64 ∧ v = .int .i64 t ∧ Vw wr gv (words (rnds kk V S t)) ∧ Wb wr gh 22 (words S) ∧ Nw wr B7 A7 64 c7 V ∧ At w wr base gk gh w.heap.size A5 L c5 T) (fun v _ => 64 - (intOf v).toNat)
      case atStart => exact ⟨0, by omega, rfl, by rw [rnds_zero]; exact hV8, hH8, hN8, hA8⟩
      case round =>
        clear hV8 hH8 hN8 hA8 s7
        obtain ⟨t, ht, rfl, hv, hH, hN, hA⟩ := hrel
        by_cases ht64 : t < 64
        · have HR : Hid (rnds kk V S (t + 1) = rnd (rnds kk V S t) (kk.getD t 0) (V.getD t 0)) := Lib.hid (rnds_succ kk V S t)
          have hso := rnds_ok hok kk V t
          obtain ⟨s, hs⟩ : ∃ s, rnds kk V S t = s := ⟨_, rfl⟩
          rw [hs] at HR hso hv
          clear hs
          obtain ⟨b7, off7, e7, hb7', cv⟩ := hN.at_ ht64
          have ck := hA.kk_.cell (j := t) (by show t < 64; exact ht64)
          have lV := hlp.get (by omega) t
          have lK := kk_lt t
          generalize kk.getD t 0 = kt at *
          generalize V.getD t 0 = vt at *
          subst e7
          have d0 : wr.cell? ⟨gv, 0, none⟩ = some (.int .u32 (s.a : Int)) := hv.cell (j := 0) (by omega)
          have d1 : wr.cell? ⟨gv, 1, none⟩ = some (.int .u32 (s.b : Int)) := hv.cell (j := 1) (by omega)
          have d2 : wr.cell? ⟨gv, 2, none⟩ = some (.int .u32 (s.c : Int)) := hv.cell (j := 2) (by omega)
          have d3 : wr.cell? ⟨gv, 3, none⟩ = some (.int .u32 (s.d : Int)) := hv.cell (j := 3) (by omega)
          have d4 : wr.cell? ⟨gv, 4, none⟩ = some (.int .u32 (s.e : Int)) := hv.cell (j := 4) (by omega)
          have d5 : wr.cell? ⟨gv, 5, none⟩ = some (.int .u32 (s.f : Int)) := hv.cell (j := 5) (by omega)
          have d6 : wr.cell? ⟨gv, 6, none⟩ = some (.int .u32 (s.g : Int)) := hv.cell (j := 6) (by omega)
          have d7 : wr.cell? ⟨gv, 7, none⟩ = some (.int .u32 (s.h : Int)) := hv.cell (j := 7) (by omega)
          obtain ⟨l0, l1, l2, l3, l4, l5, l6, l7⟩ := hso
          go_wp2_with fail
          go_quiet (fail)
          replace hv := hv.drewN nq
          replace hH := hH.drewN nq
          replace hN := nw_drewN hN nq
          replace hA := hA.drewN nq
          replace d0 : (wr.drewN nq).cell? _ = _ := d0
          replace d1 : (wr.drewN nq).cell? _ = _ := d1
          replace d2 : (wr.drewN nq).cell? _ = _ := d2
          replace d3 : (wr.drewN nq).cell? _ = _ := d3
          replace d4 : (wr.drewN nq).cell? _ = _ := d4
          replace d5 : (wr.drewN nq).cell? _ = _ := d5
          replace d6 : (wr.drewN nq).cell? _ = _ := d6
          replace d7 : (wr.drewN nq).cell? _ = _ := d7
          replace ck : (wr.drewN nq).cell? _ = _ := ck
          replace cv : (wr.drewN nq).cell? _ = _ := cv
          generalize wr.drewN nq = w9 at *
          clear nq
          go_wp2_with fail
          go_quiet ((go_at_call 48; exact Calls.quiet_of_same ((rturned_any _ (by omega) _ (by omega) (by omega) _).mono fun _ _ ⟨he, hw⟩ => ⟨he, hw.symm⟩)))
          replace hv := hv.drewN nq
          replace hH := hH.drewN nq
          replace hN := nw_drewN hN nq
          replace hA := hA.drewN nq
          replace d0 : (w9.drewN nq).cell? _ = _ := d0
          replace d1 : (w9.drewN nq).cell? _ = _ := d1
          replace d2 : (w9.drewN nq).cell? _ = _ := d2
          replace d3 : (w9.drewN nq).cell? _ = _ := d3
          replace d4 : (w9.drewN nq).cell? _ = _ := d4
          replace d5 : (w9.drewN nq).cell? _ = _ := d5
          replace d6 : (w9.drewN nq).cell? _ = _ := d6
          replace d7 : (w9.drewN nq).cell? _ = _ := d7
          replace ck : (w9.drewN nq).cell? _ = _ := ck
          replace cv : (w9.drewN nq).cell? _ = _ := cv
          generalize w9.drewN nq = w10 at *
          clear nq
          obtain ⟨X, hX⟩ : ∃ X, t1 s kt vt = X := ⟨_, rfl⟩
          rw [show ad (ad (ad (ad s.h (wx (wx (rt s.e 6) (rt s.e 11)) (rt s.e 25))) (wx (wa s.e s.f) (wa (wn s.e) s.g))) kt) vt = X from hX]
          go_wp2_with fail
          go_quiet ((go_at_call 48; exact Calls.quiet_of_same ((rturned_any _ (by omega) _ (by omega) (by omega) _).mono fun _ _ ⟨he, hw⟩ => ⟨he, hw.symm⟩)))
          replace hv := hv.drewN nq
          replace hH := hH.drewN nq
          replace hN := nw_drewN hN nq
          replace hA := hA.drewN nq
          replace d0 : (w10.drewN nq).cell? _ = _ := d0
          replace d1 : (w10.drewN nq).cell? _ = _ := d1
          replace d2 : (w10.drewN nq).cell? _ = _ := d2
          replace d3 : (w10.drewN nq).cell? _ = _ := d3
          replace d4 : (w10.drewN nq).cell? _ = _ := d4
          replace d5 : (w10.drewN nq).cell? _ = _ := d5
          replace d6 : (w10.drewN nq).cell? _ = _ := d6
          replace d7 : (w10.drewN nq).cell? _ = _ := d7
          replace ck : (w10.drewN nq).cell? _ = _ := ck
          replace cv : (w10.drewN nq).cell? _ = _ := cv
          generalize w10.drewN nq = w11 at *
          clear nq
          obtain ⟨Y, hY⟩ : ∃ Y, t2 s = Y := ⟨_, rfl⟩
          rw [show ad (wx (wx (rt s.a 2) (rt s.a 13)) (rt s.a 22)) (wx (wx (wa s.a s.b) (wa s.a s.c)) (wa s.b s.c)) = Y from hY]
          have HX := Lib.hid hX
          have HY := Lib.hid hY
          clear hX hY d0 d1 d2 d3 d4 d5 d6 d7 ck cv
          have hm7 : Vw w11 gv (moved (words s) 7) := hv
          clear hv
          go_wp2_with fail
          go_loopw [14] (fun v w2 => ∃ i : Nat, i ≤ 7 ∧ v = .int .i64 i ∧ Vw w2 gv (moved (words s) i) ∧ Wb w2 gh 22 (words S) ∧ Nw w2 B7 (some ⟨b7, off7, none⟩) 64 c7 V ∧ At w w2 base gk gh w.heap.size A5 L c5 T) (fun v _ => (intOf v).toNat)
          case atStart => exact ⟨7, by omega, rfl, hm7, hH, hN, hA⟩
          case round =>
            clear hm7 hH hN hA
            obtain ⟨i, hi, rfl, hv, hH, hN, hA⟩ := hrel
            by_cases h0 : 0 < i
            · obtain ⟨i, rfl⟩ : ∃ i', i = i' + 1 := ⟨i - 1, by omega⟩
              have r1 := hv.cell (j := i) (by omega)
              have r2 := hv.cell (j := i + 1) (by omega)
              have f2 := hv.frozen (i + 1)
              have Hst := Lib.hid (moved_step s (i + 1) (by omega) (by omega))
              rw [Nat.add_sub_cancel] at Hst
              generalize (moved (words s) (i + 1)).getD i 0 = y at *
              go_wp2_with fail
              go_roundw
              case rel => exact ⟨i, by omega, by go_num, by rw [← Hst.out]; exact hv.set_ (i + 1) y, hH.other (p := ⟨gv, i + 1, none⟩) hgh _, nw_other hN s7' (i + 1) _, hA.setv hgb (i + 1) _⟩
              case measure => simp [intOf]
            · have e : i = 0 := by omega
              subst e
              have d0 : wr.cell? ⟨gv, 0, none⟩ = some (.int .u32 (s.a : Int)) := hv.cell (j := 0) (by omega)
              have d4 : wr.cell? ⟨gv, 4, none⟩ = some (.int .u32 (s.d : Int)) := hv.cell (j := 4) (by omega)
              have f0 := hv.frozen 0
              have f4 := hv.frozen 4
              go_wp2_with fail
              have Hdone : Hid (((moved (words s) 0).set 0 (ad X Y)).set 4 (ad s.d X) = words (rnds kk V S (t + 1))) := Lib.hid (by rw [HR.out, ← HX.out, ← HY.out]; rfl)
              go_roundw
              case rel => exact ⟨t + 1, by omega, by go_num, by rw [← Hdone.out]; exact (hv.set_ 0 (ad X Y)).set_ 4 (ad s.d X), (hH.other (p := ⟨gv, 0, none⟩) hgh _).other (p := ⟨gv, 4, none⟩) hgh _, nw_other (nw_other hN s7' 0 _) s7' 4 _, (hA.setv hgb 0 _).setv hgb 4 _⟩
              case measure => simp [intOf]; omega
        · have e : t = 64 := by omega
          subst e
          obtain ⟨Z, hZ⟩ : ∃ Z, rnds kk V S 64 = Z := ⟨_, rfl⟩
          rw [hZ] at hv HC
          clear hN hZ ht64
          rw [show ((64 : Nat) : Int) = 64 from rfl]
          go_wp2_with fail
          go_loopw [15] (fun v w2 => ∃ i : Nat, i ≤ 8 ∧ v = .int .i64 i ∧ Vw w2 gv (words Z) ∧ Wb w2 gh 22 (plusN S Z i) ∧ At w w2 base gk gh w.heap.size A5 L c5 T) (fun v _ => 8 - (intOf v).toNat)
          case atStart => exact ⟨0, by omega, rfl, hv, by rw [plusN_0]; exact hH, hA⟩
          case round =>
            clear hv hH hA
            obtain ⟨i, hi, rfl, hv, hH, hA⟩ := hrel
            by_cases h8 : i < 8
            · have r1 := hH.drew.cell (j := i) (by simp [plusN, words]; omega)
              have r2 := hv.drew.cell (j := i) h8
              have f1 := hH.drew.frozen i
              have Hst := Lib.hid (plusN_step S Z i h8)
              generalize (plusN S Z i).getD i 0 = x at *
              generalize (words Z).getD i 0 = y at *
              go_wp2_with fail
              go_region
              go_wp2
              go_roundw
              case rel => exact ⟨i + 1, by omega, by go_num, hv.drew.other (p := ⟨gh, i, none⟩) (fun e => hgh e.symm) _, by rw [← Hst.out]; exact hH.drew.set_ i (ad x y), (hA.drewN 1).seth i _ hWh⟩
              case measure => simp [intOf]; omega
            · have e8 : i = 8 := by omega
              subst e8
              rw [plusN_8, ← HC.out] at hH
              rw [show ((8 : Nat) : Int) = 8 from rfl]
              have hm := Hm.out
              go_wp2_with fail
              go_roundw
              case rel => exact ⟨j + 1, by omega, by first | (congr 1; omega) | congr 1, hH, hA⟩
              case measure => simp [intOf]; omega
    · have e : j = m := by omega
      subst e
      have hm := Hm.out
      have hDS := HS.out
      obtain ⟨S, hS⟩ : ∃ S, chgN first T j = S := ⟨_, rfl⟩
      have hok := chgN_ok first_ok T j
      rw [hS] at hH hDS hok
      have l64 : (64 * j : Nat) = L := by omega
      rw [l64]
      have hR0 := hA.out
      have hB0 := hA.bel
      have hsz := hA.hb
      have hsh := hA.hh
      have hsR := hA.hR
      have hlk := Lim.words hok
      have HDS := Lib.hid hDS
      clear hA hS hm l64 hDS hlt Hm HS
      have o9 : Bb (wr.alloc (Yb 45 (List.replicate 32 0))) wr.heap.size 45 (List.replicate 32 0) := alloc_bb wr 45 _
      have b9 := hB0.alloc hB0.size (Yb 45 (List.replicate 32 0))
      have R9 := hR0.alloc (Yb 45 (List.replicate 32 0))
      have H9 := hH.alloc (Yb 45 (List.replicate 32 0))
      obtain ⟨w9, hw9⟩ : ∃ w9, wr.alloc (Yb 45 (List.replicate 32 0)) = w9 := ⟨_, rfl⟩
      rw [hw9] at o9 b9 R9 H9
      have HW9 := Lib.hid hw9
      have hgo : wr.heap.size ≠ w.heap.size := by omega
      have hgo2 : wr.heap.size ≠ gh := by omega
      have hgo3 : w.heap.size ≤ wr.heap.size := by omega
      clear hw9 hH hR0 hB0
      go_wp2_with fail
      change Code.wp _ _ _ _ (wr.alloc (Yb 45 (List.replicate 32 0)))
      rw [HW9.out]
      generalize wr.heap.size = g9 at *
      go_loopw [17] (fun v w2 => ∃ i : Nat, i ≤ 32 ∧ v = .int .i64 i ∧ Bb w2 g9 45 ((dig S).take i ++ List.replicate (32 - i) 0) ∧ Bb w2 w.heap.size 45 (List.replicate 32 0) ∧ Wb w2 gh 22 (words S) ∧ Below w.heap.size w w2) (fun v _ => 32 - (intOf v).toNat)
      case atStart => exact ⟨0, by omega, rfl, by simpa using o9, R9, H9, b9⟩
      case round =>
        clear o9 b9 R9 H9
        obtain ⟨i, hi, rfl, ho, hR, hH, hB⟩ := hrel
        by_cases h32 : i < 32
        · obtain ⟨q, r, hq, hr4, hi4⟩ : ∃ q r : Nat, q < 8 ∧ r < 4 ∧ i = 4 * q + r := ⟨i / 4, i % 4, by omega, by omega, by omega⟩
          have Hg := Lib.hid (dig_get S q r hq hr4)
          rw [← hi4] at Hg
          have Hst := Lib.hid (dig_put S i h32)
          have cx := hH.cell (j := q) hq
          have lx := hlk.get (by omega) q
          have co := ho.cellD (j := i) (by rw [List.length_append, List.length_take, length_dig, List.length_replicate]; omega)
          have fo := ho.frozen i
          have e1 : (i : Int) / 4 = (q : Int) := by omega
          have e2 : (i : Int) % 4 = (r : Int) := by omega
          have n1 : i / 4 = q := by omega
          have n2 : i % 4 = r := by omega
          generalize (words S).getD q 0 = x at *
          have hh : r = 0 ∨ r = 1 ∨ r = 2 ∨ r = 3 := by omega
          clear hi4 hr4
          rcases hh with rfl | rfl | rfl | rfl
          · have ev : (x : Int) / 16777216 = (((by4 x).getD 0 0 : Nat) : Int) := by
              simp only [by4, List.getD, List.getElem?_cons_zero, Option.getD_some]; omega
            rw [← Hg.out] at ev
            generalize (dig S).getD i 0 = y at *
            go_wp2
            go_roundw
            case rel =>
              first | rw [ev] | skip
              exact ⟨i + 1, by omega, by go_num, by rw [← Hst.out]; exact ho.set_ i y, (Below.heap_setCell wr ⟨g9, i, none⟩ _ w.heap.size (fun e => hgo e.symm)).trans hR, hH.other (p := ⟨g9, i, none⟩) hgo2 _, hB.setCell (p := ⟨g9, i, none⟩) hgo3 _⟩
            case measure => simp [intOf]; omega
          · have ev : (x : Int) / 65536 % 256 = (((by4 x).getD 1 0 : Nat) : Int) := by
              simp only [by4, List.getD, List.getElem?_cons_zero, List.getElem?_cons_succ, Option.getD_some]; omega
            rw [← Hg.out] at ev
            generalize (dig S).getD i 0 = y at *
            go_wp2
            go_roundw
            case rel =>
              first | rw [ev] | skip
              exact ⟨i + 1, by omega, by go_num, by rw [← Hst.out]; exact ho.set_ i y, (Below.heap_setCell wr ⟨g9, i, none⟩ _ w.heap.size (fun e => hgo e.symm)).trans hR, hH.other (p := ⟨g9, i, none⟩) hgo2 _, hB.setCell (p := ⟨g9, i, none⟩) hgo3 _⟩
            case measure => simp [intOf]; omega
          · have ev : (x : Int) / 256 % 256 = (((by4 x).getD 2 0 : Nat) : Int) := by
              simp only [by4, List.getD, List.getElem?_cons_zero, List.getElem?_cons_succ, Option.getD_some]; omega
            rw [← Hg.out] at ev
            generalize (dig S).getD i 0 = y at *
            go_wp2
            go_roundw
            case rel =>
              first | rw [ev] | skip
              exact ⟨i + 1, by omega, by go_num, by rw [← Hst.out]; exact ho.set_ i y, (Below.heap_setCell wr ⟨g9, i, none⟩ _ w.heap.size (fun e => hgo e.symm)).trans hR, hH.other (p := ⟨g9, i, none⟩) hgo2 _, hB.setCell (p := ⟨g9, i, none⟩) hgo3 _⟩
            case measure => simp [intOf]; omega
          · have ev : (x : Int) % 256 = (((by4 x).getD 3 0 : Nat) : Int) := by
              simp only [by4, List.getD, List.getElem?_cons_zero, List.getElem?_cons_succ, Option.getD_some]; omega
            rw [← Hg.out] at ev
            generalize (dig S).getD i 0 = y at *
            go_wp2
            go_roundw
            case rel =>
              first | rw [ev] | skip
              exact ⟨i + 1, by omega, by go_num, by rw [← Hst.out]; exact ho.set_ i y, (Below.heap_setCell wr ⟨g9, i, none⟩ _ w.heap.size (fun e => hgo e.symm)).trans hR, hH.other (p := ⟨g9, i, none⟩) hgo2 _, hB.setCell (p := ⟨g9, i, none⟩) hgo3 _⟩
            case measure => simp [intOf]; omega
        · have e : i = 32 := by omega
          subst e
          rw [List.take_of_length_le (Nat.le_of_eq (length_dig _)), ← HDS.out] at ho
          have hDl : (bs D).length = 32 := by rw [HDS.out, length_bs, length_dig]
          have HDl := Lib.hid hDl
          have ho2 : Bb wr g9 45 D := by simpa using ho
          rw [show ((32 : Nat) : Int) = 32 from rfl]
          clear ho hH h32 hDl
          go_wp2_with (first
            | (refine wpList_load_row rfl 45 (.tmp 16) rfl g9 rfl 45 (bs D).toArray (0, 0) _ ho2 Tryd.underlying45 rfl (by rw [List.size_toArray, HDl.out]; kernel_rfl) ?_)
            | (refine wpList_store_row rfl rfl 45 (.tmp 2) (.tmp 168) rfl w.heap.size rfl (bs D) rfl 45 _ hR (bs_one _) (by rw [HDl.out]; simp [bs]) (by rw [HDl.out]; kernel_rfl) ?_))
          have hr1 := setRow_heap wr w.heap.size _ (bs D).toArray 45 (0, 0) hR
          exact bodyPost_ret (v := .agg (bs D).toArray) (results_cell_row rfl _ _ w.heap.size 45 _ (0, 0) _ rfl hr1 Tryd.underlying45 rfl (by rw [List.size_toArray, HDl.out]; kernel_rfl)) rfl ⟨rfl, below_setRow hB (Nat.le_refl _) _⟩
end Go.Proofs.YtonfpomgkgljiaaDoor
