/- choose: Cluster, where it may be. -/
import Derived.Test.YtjagekagpgjoaaaC26
namespace Go.Proofs.Ytjagekagpgjoaaa
open Go.RowKit
set_option linter.unusedVariables false
set_option linter.unusedSimpArgs false
set_option maxRecDepth 100000
theorem arr_box {w w1 : World} {cs : Array Value} {v : Value} {t1 t2 : TypeId} (e1 : w1 = (w.alloc (.cells cs t1)).alloc (.cells #[v] t2)) : w1.heap[w.heap.size]? = some (.cells cs t1 (0, 0)) ∧ Bx w1 (w.heap.size + 1) t2 v ∧ RowKit.Below w.heap.size w w1 ∧ w1.heap.size = w.heap.size + 2 := by
  subst e1
  have s1 : (w.alloc (.cells cs t1)).heap.size = w.heap.size + 1 := World.size_alloc ..
  have k : Below (w.alloc (.cells cs t1)).heap.size (w.alloc (.cells cs t1)) ((w.alloc (.cells cs t1)).alloc (.cells #[v] t2)) := (Below.refl _ _).alloc (Nat.le_refl _) _
  refine ⟨(k.block _ (by rw [s1]; omega)).trans (World.alloc_heap_new w _), ?_, ((Below.refl _ _).alloc (Nat.le_refl _) _).alloc (by rw [s1]; omega) _, by rw [World.size_alloc, s1]⟩
  have h := World.alloc_heap_new (w.alloc (.cells cs t1)) (.cells #[v] t2)
  rw [s1] at h
  exact h
theorem keep_store {W : World} {p q : Addr} {v u : Value} (h : W.cell? p = some v) (hne : p.block ≠ q.block) : (W.setCell q u).cell? p = some v :=
  (World.cell?_setCell_other _ _ _ _ (fun e => hne (by rw [e]))).trans h
theorem new_cell1 (W : World) (d : Nat) (v : Value) (t : TypeId) : ((W.drewN d).alloc (.cells #[v] t)).cell? ⟨W.heap.size, 0, none⟩ = some v :=
  Bx.cell (t := t) (World.alloc_heap_new (W.drewN d) (.cells #[v] t))
theorem new_cell2 (W : World) (d : Nat) (v : Value) (t : TypeId) : ((W.alloc (.cells #[v] t)).drewN d).cell? ⟨W.heap.size, 0, none⟩ = some v :=
  Bx.cell (t := t) (World.alloc_heap_new W (.cells #[v] t))
theorem new_free1 (W : World) (d : Nat) (v : Value) (t : TypeId) : ((W.drewN d).alloc (.cells #[v] t)).frozen? ⟨W.heap.size, 0, none⟩ = false :=
  Bx.fr (t := t) (World.alloc_heap_new (W.drewN d) (.cells #[v] t))
theorem new_free2 (W : World) (d : Nat) (v : Value) (t : TypeId) : ((W.alloc (.cells #[v] t)).drewN d).frozen? ⟨W.heap.size, 0, none⟩ = false :=
  Bx.fr (t := t) (World.alloc_heap_new W (.cells #[v] t))
theorem to_w {Q : World → Prop} {W : World} (P : World → Prop) (h : P W) (k : ∀ w', P w' → Q w') : Q W := k W h
theorem cl_step {os ds : List Int} {least : Int} {L L1 L2 R : List Nat} {m s : Nat} (h : clN os ds least m L = R) (hm : L.length = m) (hl : least < (m : Int)) (hl1 : 1 ≤ least) (hs : s = sgt os L) (hL : L = L1 ++ s :: L2) (h1 : s ∉ L1)
    (hx : ¬ str os L s ≤ ds.getD (nrt ds L) 0 * ((m : Int) - 1)) : clN os ds least (m - 1) (L1 ++ L2) = R := by
  obtain ⟨k, rfl⟩ : ∃ k, m = k + 1 := ⟨m - 1, by omega⟩
  unfold clN at h
  rw [hm, if_neg (by omega), ← hs, if_neg hx] at h
  rw [← h, Nat.add_sub_cancel, hL, List.erase_append_right _ h1, List.erase_cons_head]
theorem cl_stop {os ds : List Int} {least : Int} {L R : List Nat} {m s : Nat} (h : clN os ds least m L = R) (hm : L.length = m) (hl : least < (m : Int)) (hl1 : 1 ≤ least) (hs : s = sgt os L)
    (hx : str os L s ≤ ds.getD (nrt ds L) 0 * ((m : Int) - 1)) : L = R := by
  obtain ⟨k, rfl⟩ : ∃ k, m = k + 1 := ⟨m - 1, by omega⟩
  unfold clN at h
  rw [hm, if_neg (by omega), ← hs, if_pos hx] at h
  exact h
set_option maxHeartbeats 4000000 in
theorem clus_ok {w : World} {A1 A2 : Option Addr} {n c1 c2 : Nat} {os ds : List Int} (h1 : Ri w w.heap.size A1 n os) (h2 : Ri w w.heap.size A2 n ds) (hF : Fit os ds) (least : Int) (hl : 1 ≤ least) (hl2 : least ≤ 9223372036854775807) :
    Calls Try.prog 18 #[.slice A1 n c1, .slice A2 n c2, .int .i64 least] w fun e w' => (∃ g c, e = .returned (.tuple #[.slice (some ⟨g, 0, none⟩) (clus os ds least).length c, .int .i64 0]) ∧ w.heap.size ≤ g ∧ Lw w' g (clus os ds least) c) ∧ RowKit.Below w.heap.size w w' := by
  have hn : n ≤ 64 := by have := hF.2.1; rw [h1.1] at this; exact this
  obtain ⟨w1, e1⟩ : ∃ w1, w1 = (w.alloc (.cells #[.slice A1 n c1] 33)).alloc (.cells #[.slice A2 n c2] 33) := ⟨_, rfl⟩
  obtain ⟨y1, y2, b1, s1⟩ := two_boxes e1
  have x1 := y1.cell
  have x2 := y2.cell
  have HM := Lib.hid (mayBe_any (c1 := c1) (c2 := c2) (h1.below b1 (Nat.le_refl _)) (h2.below b1 (Nat.le_refl _)) (by omega) (by omega))
  rw [decide_eq_true hF] at HM
  have HR1 := Lib.hid h1
  have HR2 := Lib.hid h2
  have HO := Lib.hid hF.2.2.1
  have HD := Lib.hid hF.2.2.2
  have HLo := Lib.hid h1.1
  have HB := Lib.hid b1
  have HY1 := Lib.hid y1
  have HY2 := Lib.hid y2
  have HS := Lib.hid s1
  have hl1 : (least < 1) = False := by simp only [eq_iff_iff, iff_false]; omega
  have hmk := run_make_i n hn
  have hmf : ∀ (fn : Fn) (first cap : Array Value) (w : World), (Instr.makeFunc fn first cap).run Try.prog w = .ok (.func fn first cap) w := fun _ _ _ _ => rfl
  clear h1 h2 b1 y1 y2 s1 hF
  go_enter Try.func18, Try.ntmps18
  go_wp2_with fail
  rw [← e1]
  clear e1
  go_wp2_with fail
  refine HM.out.mono ?_
  rintro e w2 ⟨rfl, e3⟩
  subst w2
  go_wp2_with fail
  obtain ⟨w3, e3⟩ : ∃ w3, w3 = (w1.alloc (Obj.cells (Array.replicate n (Value.int .i64 0)) 3)).alloc (Obj.cells #[Value.slice (some { block := w1.heap.size, off := 0 }) n n] 27) := ⟨_, rfl⟩
  rw [← e3]
  obtain ⟨hz, hb, k3, s3⟩ := arr_box e3
  have z1 := HY1.out.below k3 HY1.out.lt
  have z2 := HY2.out.below k3 HY2.out.lt
  have b3 := bthen HB.out k3 (Nat.le_refl _)
  have hgw : w.heap.size + 1 < w1.heap.size := by rw [HS.out]; omega
  have HK3 := Lib.hid k3
  have HY31 := Lib.hid z1
  have HY32 := Lib.hid z2
  have HB3 := Lib.hid b3
  have HBx3 := Lib.hid hb
  have HZ := Lib.hid hz
  obtain ⟨g, hg⟩ : ∃ g, g = w1.heap.size := ⟨_, rfl⟩
  rw [← hg] at hgw HZ HBx3 ⊢
  have HGW := Lib.hid hgw
  clear e3 hz hb k3 s3 z1 z2 b3 hg hgw x1 x2 hmk
  go_loopw [27] (fun iv wr => ∃ j : Nat, ∃ c2 : Array Value, j ≤ n ∧ iv = .int .i64 (j : Int) ∧ Hid (wr.heap[g]? = some (.cells c2 3 (0, 0))) ∧ Hid (c2.size = n) ∧ Hid (∀ i : Nat, i < j → c2[i]? = some (Value.int .i64 (i : Int))) ∧ Hid (Ot g w3 wr)) (fun iv _ => (n - (match iv with | .int _ z => z.toNat | _ => 0)))
  case atStart => exact ⟨0, _, by omega, rfl, HZ.out, Array.size_replicate .., fun i hi => absurd hi (Nat.not_lt_zero _), Ot.refl _ _⟩
  case round =>
    obtain ⟨j, cur, hj, rfl, hc, hsz, hv, ho⟩ := hrel
    have d1 : wr.cell? ⟨g + 1, 0, none⟩ = some (.slice (some ⟨g, 0, none⟩) n n) := (HBx3.out.ot ho.out (by omega)).cell
    by_cases hjn : j < n
    · have e1 : ((j : Int) < (n : Int)) = True := by simp only [eq_iff_iff, iff_true]; omega
      have e1' : (j : Int) < (n : Int) := by omega
      have hjc : j < cur.size := by rw [hsz.out]; exact hjn
      have d2 : wr.cell? ⟨g, j, none⟩ = some cur[j] := blk_cell hc.out (Array.getElem?_eq_getElem hjc)
      have d3 : wr.frozen? ⟨g, j, none⟩ = false := blk_fr hc.out j
      have HJ := Lib.hid hjc
      generalize cur[j] = old at d2
      clear hjc
      go_wp2_with fail
      refine ⟨⟨j + 1, cur.setIfInBounds j (.int .i64 (j : Int)), by omega, rfl, set_cell hc.out _ _, by show (cur.setIfInBounds j _).size = n; rw [Array.size_setIfInBounds]; exact hsz.out, fun i hi => ?_, ho.out.set _ _⟩, by show n - ((j : Int) + 1).toNat < n - (j : Int).toNat; omega⟩
      rw [Array.getElem?_setIfInBounds]
      by_cases hij : j = i
      · rw [if_pos hij, if_pos HJ.out, hij]
      · rw [if_neg hij]
        exact hv.out i (by omega)
    · have e1' : ((j : Int) < (n : Int)) = False := by simp only [eq_iff_iff, iff_false]; omega
      have e0 : j = n := by omega
      have HLw := Lib.hid (show Lw wr g (List.range n) n from ⟨cur, hc.out, hsz.out, by rw [List.length_range]; exact Nat.le_refl _, fun i q hq => by
        obtain ⟨hi, he⟩ := List.getElem?_eq_some_iff.1 hq
        rw [List.length_range] at hi
        rw [List.getElem_range] at he
        subst he
        exact hv.out i (by omega)⟩)
      have HX := Lib.hid (HBx3.out.ot ho.out (by omega))
      have HX1 := Lib.hid (HY31.out.ot ho.out (by have := HGW.out; omega))
      have HX2 := Lib.hid (HY32.out.ot ho.out (by have := HGW.out; omega))
      have HBw := Lib.hid (HB3.out.trans (ho.out.below _ (by have := HGW.out; omega)))
      clear hc hsz hv ho d1 e0
      obtain ⟨w4, hw4⟩ : ∃ w4, w4 = wr := ⟨_, rfl⟩
      subst hw4
      go_wp2_with fail
      go_loopw [] (fun wr => ∃ L : List Nat, ∃ m : Nat, Hid (L.length = m) ∧ m ≤ n ∧ Hid L.Nodup ∧ Hid (∀ j ∈ L, j < n) ∧ Hid (clN os ds least m L = clus os ds least) ∧ Hid (Lw wr g L n) ∧ Hid (Bx wr (g + 1) 27 (.slice (some ⟨g, 0, none⟩) m n)) ∧ Hid (Bx wr w.heap.size 33 (.slice A1 n c1)) ∧ Hid (Bx wr (w.heap.size + 1) 33 (.slice A2 n c2)) ∧ Hid (RowKit.Below w.heap.size w wr)) (fun wr => match wr.cell? ⟨g + 1, 0, none⟩ with | some (.slice _ m _) => m | _ => 0)
      case atStart =>
        exact ⟨List.range n, n, List.length_range .., Nat.le_refl _, List.nodup_range, fun j hj => List.mem_range.1 hj, by show clN os ds least n (List.range n) = clN os ds least os.length (List.range os.length); rw [HLo.out], HLw.out, HX.out, HX1.out, HX2.out, HBw.out⟩
      case round =>
        obtain ⟨L, m, hlm, hmn, hnd, hlt, hR, hLw, hBx, hX1, hX2, hbw⟩ := hrel
        have d1 := hBx.out.cell
        by_cases hml : (m : Int) ≤ least
        · have e2 : (least < (m : Int)) = False := by simp only [eq_iff_iff, iff_false]; omega
          have hfin : L = clus os ds least := by
            rw [← hR.out]
            cases m with
            | zero => rfl
            | succ m => unfold clN; rw [if_pos (by rw [hlm.out]; exact hml)]
          have HF := Lib.hid hfin
          clear hfin
          go_wp2_with fail
          go_ret2
          refine ⟨⟨g, n, by rw [← HF.out, hlm.out]; rfl, by have := HGW.out; omega, by rw [← HF.out]; exact hLw.out⟩, hbw.out⟩
        · have e2 : (least < (m : Int)) = True := by simp only [eq_iff_iff, iff_true]; omega
          have e2' : least < (m : Int) := by omega
          have h0 : 0 < m := by omega
          have hne : L ≠ [] := fun e => by have := hlm.out; rw [e] at this; simp at this; omega
          obtain ⟨s, hs⟩ : ∃ s, s = sgt os L := ⟨_, rfl⟩
          obtain ⟨r, hr⟩ : ∃ r, r = nrt ds L := ⟨_, rfl⟩
          have HSm := Lib.hid (show s ∈ L by rw [hs]; exact sgt_mem hne)
          have hrL : r ∈ L := by rw [hr]; exact nrt_mem hne
          have hrn : r < n := hlt.out r hrL
          have HG1 := Lib.hid (show ∀ W, Below wr.heap.size wr W → Calls Try.prog 30 #[.slice (some ⟨g, 0, none⟩) m n, .func (.func 27) #[] #[.pointer (some ⟨w.heap.size, 0, none⟩), .pointer (some ⟨g + 1, 0, none⟩)]] W fun e w' => e = .returned (.int .i64 (s : Int)) ∧ ∃ k, w' = W.drewN k from fun W k => by
            rw [hs]
            have hw := (hLw.out.below k hLw.out.lt).ri
            rw [hlm.out] at hw
            exact grt_any2 (reads27 ((HR1.out.below (bthen hbw.out k (Nat.le_refl _)) (Nat.le_refl _)).le (Nat.le_trans hbw.out.size k.size)) hw HO.out hlt.out (by omega) (hX1.out.below k hX1.out.lt).cell (hBx.out.below k hBx.out.lt).cell) hw (by omega) h0)
          have HG2 := Lib.hid (show ∀ W, Below wr.heap.size wr W → Calls Try.prog 30 #[.slice (some ⟨g, 0, none⟩) m n, .func (.func 29) #[] #[.pointer (some ⟨w.heap.size + 1, 0, none⟩)]] W fun e w' => e = .returned (.int .i64 (r : Int)) ∧ ∃ k, w' = W.drewN k from fun W k => by
            rw [hr]
            have hw := (hLw.out.below k hLw.out.lt).ri
            rw [hlm.out] at hw
            exact grt_any1 (reads29 ((HR2.out.below (bthen hbw.out k (Nat.le_refl _)) (Nat.le_refl _)).le (Nat.le_trans hbw.out.size k.size)) HD.out hlt.out hn (hX2.out.below k hX2.out.lt).cell) hw (by omega) h0)
          have HSe := Lib.hid hs
          have HRe := Lib.hid hr
          have HRn := Lib.hid hrn
          have hlt1 := hBx.out.lt
          clear hs hr hrL hrn hne hml
          go_wp2_with fail
          have nc1 := new_cell1
          have nc2 := new_cell2
          have nf1 := new_free1
          have nf2 := new_free2
          go_region_held3 (fun w' => w'.cell? ⟨g + 1, 0, none⟩ = some (.slice (some ⟨g, 0, none⟩) m n))
            (first | assumption | go_keep | exact keep_store (by assumption) (by simp; omega))
            (first
            | (go_at_call 30; (with_reducible refine (HG1.out _ ?_).mono ?_); (repeat (first | exact Below.refl _ _ | refine below_drewN ?_ _ | (refine Below.alloc ?_ (by first | exact Nat.le_refl _ | (simp; done) | (simp; omega)) _) | (refine below_set ?_ (by first | exact Nat.le_refl _ | (simp; done) | (simp; omega)) _ _))); rintro e w5 ⟨rfl, k5, rfl⟩)
            | (go_at_call 30; (with_reducible refine (HG2.out _ ?_).mono ?_); (repeat (first | exact Below.refl _ _ | refine below_drewN ?_ _ | (refine Below.alloc ?_ (by first | exact Nat.le_refl _ | (simp; done) | (simp; omega)) _) | (refine below_set ?_ (by first | exact Nat.le_refl _ | (simp; done) | (simp; omega)) _ _))); rintro e w6 ⟨rfl, k6, rfl⟩))
          all_goals
            refine to_w (Q := Exit.then _ _ Exit.normal _) (fun w5 => Below wr.heap.size wr w5 ∧ Bx w5 wr.heap.size 3 (.int .i64 (s : Int))) ⟨by (repeat (first | exact Below.refl _ _ | refine below_drewN ?_ _ | (refine Below.alloc ?_ (by first | exact Nat.le_refl _ | (simp; done) | (simp; omega)) _) | (refine below_set ?_ (by first | exact Nat.le_refl _ | (simp; done) | (simp; omega)) _ _))), by exact Bx.set (World.alloc_heap_new _ _) _⟩ ?_
            rintro w5 ⟨b5, x5⟩
            clear nc1 nc2 nf1 nf2 d1
            have y1 := (hX1.out.below b5 hX1.out.lt).cell
            have y2 := (hX2.out.below b5 hX2.out.lt).cell
            have y3 := (hBx.out.below b5 hBx.out.lt).cell
            have y4 := x5.cell
            have hlw5 := hLw.out.below b5 hLw.out.lt
            have hw5 := hlw5.ri
            rw [hlm.out] at hw5
            have hRd := (reads27 ((HR1.out.below (bthen hbw.out b5 (Nat.le_refl _)) (Nat.le_refl _)).le (Nat.le_trans hbw.out.size b5.size)) hw5 HO.out hlt.out (by omega) y1 y3).2 s HSm.out
            obtain ⟨S, hS⟩ : ∃ S, S = str os L s := ⟨_, rfl⟩
            rw [← hS] at hRd
            have HC := Lib.hid (show ∀ k, Calls Try.prog 27 #[.int .i64 (s : Int), .pointer (some ⟨w.heap.size, 0, none⟩), .pointer (some ⟨g + 1, 0, none⟩)] (w5.drewN k) fun e w' => e = .returned (.int .i64 S) ∧ ∃ k', w' = w5.drewN k' from hRd)
            have HS := Lib.hid hS
            have hds : ds[r]? = some (ds.getD r 0) := by
              rw [List.getD_eq_getElem?_getD, List.getElem?_eq_getElem (by rw [HR2.out.1]; exact HRn.out)]
              rfl
            have hdl := HD.out _ (List.mem_of_getElem? hds)
            obtain ⟨g2, off2, rfl, _, hcd⟩ := HR2.out.cells (by omega)
            have y5 := hcd w5 (bthen hbw.out b5 (Nat.le_refl _)) r _ hds
            obtain ⟨d, hd⟩ : ∃ d, d = ds.getD r 0 := ⟨_, rfl⟩
            rw [← hd] at y5 hdl
            have HDd := Lib.hid hd
            have hrn := HRn.out
            have hmu : 0 ≤ d * ((m : Int) - 1) ∧ d * ((m : Int) - 1) ≤ 70368744177664 := by
              have h63 : (m : Int) - 1 ≤ 63 := by omega
              have h0 : 0 ≤ (m : Int) - 1 := by omega
              refine ⟨Int.mul_nonneg hdl.1 h0, Int.le_trans (Int.mul_le_mul hdl.2 h63 h0 (by omega)) (by decide)⟩
            have HLw5 := Lib.hid hlw5
            have HB5 := Lib.hid b5
            have HX5 := Lib.hid x5
            have hmm : (m : Int) - 1 ≤ 9223372036854775807 := by omega
            clear hlw5 hw5 hRd hS hds hcd hd b5 x5
            obtain ⟨X, hX⟩ : ∃ X, X = d * ((m : Int) - 1) := ⟨_, rfl⟩
            have HXX := Lib.hid hX
            by_cases hSX : S ≤ X
            · rw [hX] at hSX
              clear hX
              have hfin : L = clus os ds least := cl_stop hR.out hlm.out e2' hl HSe.out (by rw [← HS.out, ← HRe.out, ← HDd.out]; exact hSX)
              have HF := Lib.hid hfin
              clear hfin
              go_wp2_with fail
              go_quiet ((go_at_call 27; with_reducible exact HC.out _))
              go_wp2_with fail
              go_ret2
              refine ⟨⟨g, n, by rw [← HF.out, hlm.out]; rfl, by have := HGW.out; omega, by rw [← HF.out]; exact HLw5.out⟩, below_drewN (bthen hbw.out HB5.out (Nat.le_refl _)) _⟩
            · have hSX' : (S ≤ d * ((m : Int) - 1)) = False := by
                simp only [eq_iff_iff, iff_false]
                rw [← hX]
                exact hSX
              have HNx := Lib.hid (show ¬ str os L s ≤ ds.getD (nrt ds L) 0 * ((m : Int) - 1) by
                rw [← HS.out, ← HRe.out, ← HDd.out, ← hX]
                exact hSX)
              clear hX hSX
              obtain ⟨L1, L2, hLL⟩ := List.append_of_mem HSm.out
              have hno := hnd.out
              rw [hLL] at hno
              have h1 : s ∉ L1 := fun h => by
                have := (List.nodup_append.1 hno).2.2 s h s (List.mem_cons_self ..)
                exact this rfl
              have h2 : s ∉ L2 := (List.nodup_cons.1 (List.nodup_append.1 hno).2.1).1
              have hno2 : (L1 ++ L2).Nodup := by
                have e : L1 ++ L2 = (L1 ++ s :: L2).erase s := by rw [List.erase_append_right _ h1, List.erase_cons_head]
                rw [e]
                exact hno.erase s
              have HL2 := Lib.hid hno2
              have HR2' := Lib.hid (cl_step hR.out hlm.out e2' hl HSe.out hLL h1 HNx.out)
              have HLt2 := Lib.hid (show ∀ j ∈ L1 ++ L2, j < n from fun j hj => hlt.out j (by
                rw [hLL]
                rcases List.mem_append.1 hj with h | h
                · exact List.mem_append_left _ h
                · exact List.mem_append_right _ (List.mem_cons_of_mem _ h)))
              have hlm2 : (L1 ++ L2).length = m - 1 := by
                have := hlm.out
                rw [hLL, List.length_append, List.length_cons] at this
                rw [List.length_append]
                omega
              have HLm2 := Lib.hid hlm2
              have hbg : wr.heap.size ≠ g := by have := hLw.out.lt; omega
              have HDl := Lib.hid (show ∀ k, Calls Try.prog 31 #[.slice (some ⟨g, 0, none⟩) m n, .func (.func 32) #[] #[.pointer (some ⟨wr.heap.size, 0, none⟩)]] (w5.drewN k) fun e w' => e = .returned (.slice (some ⟨g, 0, none⟩) (m - 1 : Nat) n) ∧ Lw w' g (L1 ++ L2) n ∧ Ot g (w5.drewN k) w' from fun k => del_any (w := w5.drewN k) (show Lw w5 g (L1 ++ s :: L2) n by rw [← hLL]; exact HLw5.out) (by rw [← hLL]; exact hlm.out) (by omega) h1 h2 hbg y4)
              clear hno h1 h2 hno2 hlm2 hLL
              go_wp2_with fail
              go_quiet ((go_at_call 27; with_reducible exact HC.out _))
              go_wp2_with fail
              refine (HDl.out _).mono ?_
              rintro e w8 ⟨rfl, hl8, ho8⟩
              have y38 : Bx w8 (g + 1) 27 (.slice (some ⟨g, 0, none⟩) m n) := Bx.ot (w := w5.drewN nq) (hBx.out.below (below_drewN HB5.out nq) hBx.out.lt) ho8 (by omega)
              have y18 : Bx w8 w.heap.size 33 (.slice A1 n c1) := Bx.ot (w := w5.drewN nq) (hX1.out.below (below_drewN HB5.out nq) hX1.out.lt) ho8 (by have := HGW.out; omega)
              have y28 : Bx w8 (w.heap.size + 1) 33 (.slice (some ⟨g2, off2, none⟩) n c2) := Bx.ot (w := w5.drewN nq) (hX2.out.below (below_drewN HB5.out nq) hX2.out.lt) ho8 (by have := HGW.out; omega)
              have z1 := y38.cell
              have z2 := y38.fr
              have HY38 := Lib.hid y38
              have HY18 := Lib.hid y18
              have HY28 := Lib.hid y28
              have HL8 := Lib.hid hl8
              have HB8 := Lib.hid (show RowKit.Below w.heap.size w w8 from (below_drewN (bthen hbw.out HB5.out (Nat.le_refl _)) nq).trans (ho8.below _ (by have := HGW.out; omega)))
              clear y38 y18 y28 hl8 ho8 y1 y2 y3 y4 y5
              have d1 := hBx.out.cell
              go_wp2_with fail
              refine ⟨⟨L1 ++ L2, m - 1, HLm2.out, by omega, HL2.out, HLt2.out, HR2'.out, HL8.out.far (by omega) _ _, HY38.out.set _, HY18.out.far (by have := HGW.out; omega) _ _, HY28.out.far (by have := HGW.out; omega) _ _, below_set HB8.out (by have := HGW.out; omega) _ _⟩, ?_⟩
              have z9 := (HY38.out.set (.slice (some ⟨g, 0, none⟩) (m - 1 : Nat) n)).cell
              rw [z9, d1]
              show m - 1 < m
              omega
end Go.Proofs.Ytjagekagpgjoaaa
