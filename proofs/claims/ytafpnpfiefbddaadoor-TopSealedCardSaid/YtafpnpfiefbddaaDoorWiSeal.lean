/- top06.TopSealed: its walk. -/
import Derived.Test.YtafpnpfiefbddaaDoorVa
import Derived.Test.YtafpnpfiefbddaaDoorKk
import Derived.Test.YtafpnpfiefbddaaDoorWiR16
import Derived.Test.YtafpnpfiefbddaaDoorWiR13
import Derived.Test.YtafpnpfiefbddaaDoorWiS4
import Derived.Test.YtafpnpfiefbddaaDoorWiG0
namespace Go.Proofs.YtafpnpfiefbddaaDoor.Wi
open Go.RowKit
set_option linter.unusedVariables false
set_option linter.unusedSimpArgs false
set_option maxRecDepth 100000
def bx (w : World) (p : Pk) (a k : Nat) : World := (w.alloc (.cells (pkC p) 29)).alloc (.cells (flC a k) 38)
theorem bx_def (w : World) (p : Pk) : (w.alloc (.cells #[.int .i64 p.h.lp, .int .i64 p.h.ve, .int .i64 p.h.mo, .int .i64 p.h.st, .int .i64 p.h.po, .int .i64 p.h.pr, .int .u32 (p.h.dl : Int), .int .u32 (p.h.di : Int), .int .u32 (p.h.rf : Int), .int .u64 (p.h.re : Int), .int .u64 (p.h.og : Int), .int .u64 (p.h.rc : Int), .int .u64 (p.h.xm : Int), .slice p.A p.n p.c, .bool p.m.has, .int .u32 (p.m.key : Int), .slice p.m.A p.m.n p.m.c] 29)).alloc (.cells #[.int .i64 0, .int .i64 0] 38) = bx w p 0 0 := rfl
theorem bx_at (w : World) (p : Pk) (a k : Nat) : PBox (bx w p a k) w.heap.size p ∧ (bx w p a k).heap[w.heap.size + 1]? = some (.cells (flC a k) 38 (0, 0)) ∧ RowKit.Below w.heap.size w (bx w p a k) ∧ (bx w p a k).heap.size = w.heap.size + 2 := by
  refine ⟨?_, ?_, ?_, ?_⟩
  · exact (Below.heap_alloc _ _ _ (by simp)).trans (heap_alloc_new w _)
  · have h := heap_alloc_new (w.alloc (.cells (pkC p) 29)) (.cells (flC a k) 38)
    rw [show (w.alloc (.cells (pkC p) 29)).heap.size = w.heap.size + 1 by simp] at h
    exact h
  · exact ((Below.refl _ _).alloc (Nat.le_refl _) _).alloc (by simp) _
  · simp [bx]
theorem fl_cells {w : World} {g : Nat} {a k : Nat} (h : w.heap[g]? = some (.cells (flC a k) 38 (0, 0))) : w.cell? ⟨g, 0, none⟩ = some (.int .i64 a) ∧ w.cell? ⟨g, 1, none⟩ = some (.int .i64 k) :=
  ⟨by rw [cell_of_row w g 0 _ 38 (0, 0) h]; rfl, by rw [cell_of_row w g 1 _ 38 (0, 0) h]; rfl⟩
theorem front_of {p : Pk} {l : List El} {xs : List Nat} {m : Mc} (hf : ∀ x ∈ l, x.fit) : (packW ⟨p.h, p.A, p.n, p.c, m⟩ l xs).take (48 + szs l) = packW ⟨p.h, p.A, p.n, p.c, m0⟩ l [] := by
  unfold packW
  rw [take_pre (by rw [List.length_append, headW_length, flat_length l hf])]
  show _ = headW p.h ++ l.flatMap extB ++ macW ⟨p.h, p.A, p.n, p.c, m0⟩ []
  rw [show macW ⟨p.h, p.A, p.n, p.c, m0⟩ [] = [] from rfl, List.append_nil]
/-- a row that can be read, said in the other words -/
theorem outN {w : World} {B n c : Nat} {A : Option Addr} {xs : List Nat} (h : Nb w B A n c xs) : Go.Proofs.YtafpnpfiefbddaaDoor.Nb w B A n c xs := ⟨h.len, h.cap, h.room, h.lim, h.cell⟩
theorem inN {w : World} {B n c : Nat} {A : Option Addr} {xs : List Nat} (h : Go.Proofs.YtafpnpfiefbddaaDoor.Nb w B A n c xs) : Nb w B A n c xs := ⟨h.len, h.cap, h.room, h.lim, h.cell⟩
def pkP : Pk := ⟨⟨0, 4, 3, 0, 0, 0, 0, 0, 0, 0, 0, 0, 0⟩, none, 0, 0, m0⟩
theorem write_plain (w : World) : Calls Tryd.prog 6 #[pkV pkP] w fun e w' => ∃ A c, e = .returned (.tuple #[.slice A 48 c, .int .i64 0]) ∧ RowKit.Below w.heap.size w w' := by
  refine (write_any pkP [] [] (w := w) ⟨rfl, (fun x hx => by cases hx), .inl rfl⟩ (Nb.nil _ _ 0 (by omega) none)).mono ?_
  rintro e w' (⟨h, -, -⟩ | ⟨-, A, c, rfl, g, b⟩)
  · exact absurd h (by decide +kernel)
  · exact ⟨A, c, rfl, b⟩
set_option maxHeartbeats 2000000 in
theorem alive06_any {w : World} (hk : Ks w) : Calls Tryd.prog 5 #[] w fun e w' => e = .returned (.bool true) ∧ RowKit.Below w.heap.size w w' := by
  have HL := Lib.hid (show Calls Tryd.prog 12 #[.int .u32 1, .int .u32 2, .int .u32 3, .int .u32 4, .int .i64 0] w fun e w' => e = .returned (.tuple #[.slice none 0 0, .int .i64 1]) ∧ w = w' from list_out 1 2 3 4 0 (.inl (by decide)) w)
  clear hk
  go_enter Tryd.func5, Tryd.ntmps5
  go_wp2_with fail
  refine HL.out.mono ?_
  rintro e w1 ⟨rfl, rfl⟩
  go_wp2_with fail
  refine (write_plain _).mono ?_
  rintro e w2 ⟨A2, k2, rfl, b2⟩
  have HB2 := Lib.hid b2
  clear b2
  go_wp2_with fail
  refine (Va.signed_nil _).mono ?_
  rintro e w3 ⟨⟨A3, k3, rfl⟩, b3⟩
  have HB3 := Lib.hid (bthen HB2.out b3 (Nat.le_refl _))
  clear b3
  go_wp2_with fail
  go_ret
  exact ⟨rfl, HB3.out⟩
set_option maxHeartbeats 16000000 in
theorem sealed_law {w : World} (hk : Ks w) (p : Pk) (l : List El) (ms : List Nat) (src dst id cookie other : Nat) (hok : p.ok) (hE : Es w w.heap.size p.A p.n l) (hts : ∀ e ∈ l, e.ts < 4294967296 ∧ e.fs < 4294967296) (hsz : p.n ≤ 140737488355328)
    (hsrc : src < 4294967296) (hdst : dst < 4294967296) (hid : id < 4294967296) (hco : cookie < 4294967296) (hot : other < 4294967296) :
    Calls Tryd.prog 3 #[pkV p, .int .u32 (src : Int), .int .u32 (dst : Int), .int .u32 (id : Int), .int .u32 (cookie : Int), .int .u32 (other : Int)] w fun e w' => e = .returned (.bool true) ∧ RowKit.Below w.heap.size w w' := by
  obtain ⟨W, hW⟩ : ∃ W, W = w.alloc (.cells #[.int .i64 p.h.lp, .int .i64 p.h.ve, .int .i64 p.h.mo, .int .i64 p.h.st, .int .i64 p.h.po, .int .i64 p.h.pr, .int .u32 (p.h.dl : Int), .int .u32 (p.h.di : Int), .int .u32 (p.h.rf : Int), .int .u64 (p.h.re : Int), .int .u64 (p.h.og : Int), .int .u64 (p.h.rc : Int), .int .u64 (p.h.xm : Int), .slice p.A p.n p.c, .bool p.m.has, .int .u32 (p.m.key : Int), .slice p.m.A p.m.n p.m.c] 29) := ⟨_, rfl⟩
  have x1 : PBox W w.heap.size p := by rw [hW]; exact heap_alloc_new w _
  have b0 : RowKit.Below w.heap.size w W := by rw [hW]; exact (Below.refl _ _).alloc (Nat.le_refl _) _
  have HE := Lib.hid (Es.more (hE.below b0 (Nat.le_refl _)) b0.size)
  have HE0 := Lib.hid hE
  have HK0 := Lib.hid hk
  have HX := Lib.hid x1
  have HW := Lib.hid hW
  have HB := Lib.hid b0
  have HOk := Lib.hid hok
  have HTs := Lib.hid hts
  have HU := Lib.hid (⟨hsrc, hdst, hid, hco, hot⟩ : src < 4294967296 ∧ dst < 4294967296 ∧ id < 4294967296 ∧ cookie < 4294967296 ∧ other < 4294967296)
  have HHv := Lib.hid (heavy_any p l HE.out hsz)
  clear hW x1 b0 hE hsz hok hts hsrc hdst hid hco hot hk
  go_enter Tryd.func3, Tryd.ntmps3
  go_upto_region 1 with fail
  rw [← HW.out]
  go_wp2_with (refine wpList_load_row rfl 29 (.tmp 6) rfl w.heap.size rfl 29 (pkC p) (0, 0) _ HX.out Tryd.underlying29 rfl s29 ?_)
  refine HHv.out.mono ?_
  rintro e w1 ⟨⟨hv, rfl⟩, b1⟩
  have HB1 := Lib.hid (bthen HB.out b1 (Nat.le_refl _))
  have HX1 := Lib.hid (HX.out.below b1)
  have HK1 := Lib.hid (HK0.out.bel HB1.out)
  clear b1 HB HX HE HHv HW
  cases hv with
  | true =>
    go_wp2_with fail
    refine (alive06_any HK1.out).mono ?_
    rintro e we ⟨rfl, be⟩
    have HBe := Lib.hid (bthen HB1.out be (Nat.le_refl _))
    clear be
    go_wp2_with fail
    go_ret
    exact ⟨rfl, HBe.out⟩
  | false =>
    obtain ⟨-, -, -, -, -, -, -, -, -, -, -, -, -, -, c14, c15, c16⟩ := HX1.out.cells
    have f14 : w1.frozen? ⟨w.heap.size, 14, none⟩ = false := frozen_of_row w1 _ 14 _ 29 HX1.out
    have f15 : w1.frozen? ⟨w.heap.size, 15, none⟩ = false := frozen_of_row w1 _ 15 _ 29 HX1.out
    have f16 : w1.frozen? ⟨w.heap.size, 16, none⟩ = false := frozen_of_row w1 _ 16 _ 29 HX1.out
    go_upto_region 4 with fail
    obtain ⟨U, hU⟩ : ∃ U, U = ((w1.setCell ⟨w.heap.size, 14, none⟩ (.bool false)).setCell ⟨w.heap.size, 15, none⟩ (.int .u32 0)).setCell ⟨w.heap.size, 16, none⟩ (.slice none 0 0) := ⟨_, rfl⟩
    have pU : PBox U w.heap.size ⟨p.h, p.A, p.n, p.c, m0⟩ := by
      rw [hU]
      exact heap_setCell_same _ _ _ _ _ _ (heap_setCell_same _ _ _ _ _ _ (heap_setCell_same _ _ _ _ _ _ HX1.out))
    have bU : RowKit.Below w.heap.size w U := by rw [hU]; exact ((HB1.out.setCell (Nat.le_refl _) _).setCell (Nat.le_refl _) _).setCell (Nat.le_refl _) _
    rw [← hU]
    clear hU c14 c15 c16 f14 f15 f16 HX1 HB1 HK1
    have HPU := Lib.hid pU
    have HBU := Lib.hid bU
    have HEU := Lib.hid (Es.more (HE0.out.below bU (Nat.le_refl _)) bU.size)
    clear pU bU
    have HWr := Lib.hid (write_any ⟨p.h, p.A, p.n, p.c, m0⟩ l [] HEU.out (Nb.nil _ _ 0 (by omega) none))
    go_wp2_with (refine wpList_load_row rfl 29 (.tmp 6) rfl w.heap.size rfl 29 (pkC ⟨p.h, p.A, p.n, p.c, m0⟩) (0, 0) _ HPU.out Tryd.underlying29 rfl s29 ?_)
    refine (HWr.out.mono (R' := fun e w' => ∃ A1 n1 c1 k1 fr, e = .returned (.tuple #[.slice A1 n1 c1, .int .i64 k1]) ∧ RowKit.Below U.heap.size U w' ∧ (∀ ad, A1 = some ad → U.heap.size ≤ ad.block) ∧ Nb w' w'.heap.size A1 n1 c1 fr ∧ n1 ≤ 8192 ∧ ((rightB ⟨p.h, p.A, p.n, p.c, m0⟩ l = false ∧ n1 = 0 ∧ k1 = 3) ∨ (rightB ⟨p.h, p.A, p.n, p.c, m0⟩ l = true ∧ fr = packW ⟨p.h, p.A, p.n, p.c, m0⟩ l [] ∧ k1 = 0))) ?_).mono ?_
    · rintro e w' (⟨hr, rfl, b⟩ | ⟨hr, A1, c1, rfl, hg, b⟩)
      · exact ⟨none, 0, 0, 3, [], rfl, b, (fun ad e => by cases e), Nb.nil _ _ 0 (by omega) none, by omega, .inl ⟨hr, rfl, rfl⟩⟩
      · exact ⟨A1, szp ⟨p.h, p.A, p.n, p.c, m0⟩ l, c1, 0, _, rfl, b, (fun ad e => hg.own ad.block (by rw [e]; rfl)), hg.nb (packW_lim HEU.out.has (Lim.nil _)), (right_parts hr).2.2.2.2, .inr ⟨hr, rfl, rfl⟩⟩
    rintro e w2 ⟨A1, n1, c1, k1, fr, rfl, b2, hA1, hN1, hn1, hr1⟩
    have HA1 := Lib.hid (fun ad e => Nat.lt_of_lt_of_le HPU.out.lt (hA1 ad e))
    clear hA1
    have HR1 := Lib.hid hr1
    have HN1 := Lib.hid hN1
    have Hn1 := Lib.hid hn1
    have HP2 := Lib.hid (HPU.out.below b2)
    have HB2 := Lib.hid (bthen HBU.out b2 (Nat.le_refl _))
    have HK2 := Lib.hid (HK0.out.bel HB2.out)
    clear b2 hr1 hN1 hn1 HWr HPU HBU HEU
    have HSe := Lib.hid (session_any HK2.out src dst id cookie HU.out.1 HU.out.2.1 HU.out.2.2.1 HU.out.2.2.2.1)
    have Hsl := Lib.hid (sess_len src dst id cookie)
    go_wp2_with fail
    refine HSe.out.mono ?_
    rintro e w3 ⟨A3, k3, rfl, hN3, -, b3⟩
    have HN3 := Lib.hid hN3
    have HN13 := Lib.hid (HN1.out.far b3)
    have HP3 := Lib.hid (HP2.out.below b3)
    have HB3 := Lib.hid (bthen HB2.out b3 (Nat.le_refl _))
    have HK3 := Lib.hid (HK0.out.bel HB3.out)
    clear b3 hN3 HP2 HB2 HN1 HSe HK2
    have HMa := Lib.hid (Go.Proofs.YtafpnpfiefbddaaDoor.mac_any HK3.out HN3.out (outN HN13.out) (by have := Hn1.out; omega))
    go_wp2_with fail
    refine HMa.out.mono ?_
    rintro e w4 ⟨Am, cm, rfl, hN4, ⟨gm, om, hAm, hgm⟩, b4⟩
    have HAm := Lib.hid (show ∀ ad, Am = some ad → w.heap.size < ad.block from fun ad e => by rw [hAm] at e; cases e; exact Nat.lt_of_lt_of_le HP3.out.lt hgm)
    clear hAm hgm
    obtain ⟨sm, hsm⟩ : ∃ s, s = mac (sess src dst id cookie) fr := ⟨_, rfl⟩
    rw [← hsm] at hN4
    have HSm := Lib.hid hsm
    have HN4 := Lib.hid (inN hN4)
    have HN14 := Lib.hid (HN13.out.far b4)
    have HP4 := Lib.hid (HP3.out.below b4)
    have HB4 := Lib.hid (bthen HB3.out b4 (Nat.le_refl _))
    clear b4 hN4 hsm HP3 HB3 HN13 HMa HN3 HK3
    obtain ⟨-, -, -, -, -, -, -, -, -, -, -, -, -, -, c14, c15, c16⟩ := HP4.out.cells
    have f14 : w4.frozen? ⟨w.heap.size, 14, none⟩ = false := frozen_of_row w4 _ 14 _ 29 HP4.out
    have f15 : w4.frozen? ⟨w.heap.size, 15, none⟩ = false := frozen_of_row w4 _ 15 _ 29 HP4.out
    have f16 : w4.frozen? ⟨w.heap.size, 16, none⟩ = false := frozen_of_row w4 _ 16 _ 29 HP4.out
    go_upto_region 6 with fail
    obtain ⟨U2, hU⟩ : ∃ U, U = ((w4.setCell ⟨w.heap.size, 14, none⟩ (.bool true)).setCell ⟨w.heap.size, 15, none⟩ (.int .u32 (id : Int))).setCell ⟨w.heap.size, 16, none⟩ (.slice Am 16 cm) := ⟨_, rfl⟩
    have pU : PBox U2 w.heap.size ⟨p.h, p.A, p.n, p.c, ⟨true, id, Am, 16, cm⟩⟩ := by
      rw [hU]
      exact heap_setCell_same _ _ _ _ _ _ (heap_setCell_same _ _ _ _ _ _ (heap_setCell_same _ _ _ _ _ _ HP4.out))
    have oU : ∀ q, q ≠ w.heap.size → U2.heap[q]? = w4.heap[q]? := fun q hq => by
      rw [hU]; exact (heap_setCell_other _ _ _ _ (by exact hq)).trans ((heap_setCell_other _ _ _ _ (by exact hq)).trans (heap_setCell_other _ _ _ _ (by exact hq)))
    have sU : U2.heap.size = w4.heap.size := by rw [hU]; simp
    have bU : RowKit.Below w.heap.size w U2 := by rw [hU]; exact ((HB4.out.setCell (Nat.le_refl _) _).setCell (Nat.le_refl _) _).setCell (Nat.le_refl _) _
    rw [← hU]
    have HPU := Lib.hid pU
    have HBU := Lib.hid bU
    have HEU := Lib.hid (Es.more (HE0.out.below bU (Nat.le_refl _)) bU.size)
    have HNs := Lib.hid (HN4.out.keepn (w' := U2) (by omega) fun _ ad ea => oU _ (by have := HAm.out ad ea; omega))
    have HNf := Lib.hid (HN14.out.keepn (w' := U2) (by omega) fun _ ad ea => oU _ (by have := HA1.out ad ea; omega))
    clear hU pU oU sU bU c14 c15 c16 f14 f15 f16 HP4 HB4 HN4 HN14
    have HWr := Lib.hid (write_any ⟨p.h, p.A, p.n, p.c, ⟨true, id, Am, 16, cm⟩⟩ l sm HEU.out HNs.out)
    go_wp2_with (refine wpList_load_row rfl 29 (.tmp 6) rfl w.heap.size rfl 29 (pkC ⟨p.h, p.A, p.n, p.c, ⟨true, id, Am, 16, cm⟩⟩) (0, 0) _ HPU.out Tryd.underlying29 rfl s29 ?_)
    refine HWr.out.mono ?_
    rintro e w5 (⟨hr2, rfl, b5⟩ | ⟨hr2, A2, c2, rfl, hg5, b5⟩)
    · have HB5 := Lib.hid (bthen HBU.out b5 (Nat.le_refl _))
      clear b5 hr2
      rcases HR1.out with ⟨-, h1, h2⟩ | ⟨-, -, h2⟩
      all_goals
        rw [h2]
        clear h2
        go_wp2_with fail
        go_ret
        exact ⟨rfl, HB5.out⟩
    · have HB5 := Lib.hid (bthen HBU.out b5 (Nat.le_refl _))
      have HRr := Lib.hid hr2
      have hge : 48 ≤ szp ⟨p.h, p.A, p.n, p.c, ⟨true, id, Am, 16, cm⟩⟩ l := by unfold szp; omega
      have hs8 := (right_parts hr2).2.2.2.2
      have HE5 := Lib.hid (Es.more (HEU.out.below b5 (Nat.le_refl _)) b5.size)
      have HNs5 := Lib.hid (HNs.out.far b5)
      have HNf5 := Lib.hid (HNf.out.far b5)
      have HN5 := Lib.hid (hg5.nb (packW_lim HEU.out.has HNs.out.lim))
      generalize hS : szp ⟨p.h, p.A, p.n, p.c, ⟨true, id, Am, 16, cm⟩⟩ l = S at *
      have HS := Lib.hid hs8
      have hne : ((S : Int) == 0) = false := by simp; omega
      clear b5 hr2 hg5 hS hge hs8 HWr HPU HBU HEU HNs HNf
      rcases HR1.out with ⟨-, h1, h2⟩ | ⟨q1, hfr, h2⟩
      · have h1' : n1 = 0 := h1
        subst h1'
        rw [h2]
        clear h1 h2
        go_wp2_with fail
        go_ret
        exact ⟨rfl, HB5.out⟩
      · rw [h2]
        have hfit : ∀ x ∈ l, x.fit := fun x hx => ⟨(right_parts HRr.out).2.2.2.1 x hx, (HE5.out.has x hx).n1, (HE5.out.has x hx).n2, (HTs.out x hx).1, (HTs.out x hx).2⟩
        have hpr : prs (packW ⟨p.h, p.A, p.n, p.c, ⟨true, id, Am, 16, cm⟩⟩ l sm) = .ok p.h (l.map toEx) (48 + szs l) := prs_fwd HRr.out HE5.out.1 hfit HOk.out.h HNs5.out.len
        have HFo := Lib.hid (show (packW ⟨p.h, p.A, p.n, p.c, ⟨true, id, Am, 16, cm⟩⟩ l sm).take (48 + szs l) = fr from (front_of (p := p) (l := l) (xs := sm) hfit).trans hfr.symm)
        have HMw := Lib.hid (show macW ⟨p.h, p.A, p.n, p.c, ⟨true, id, Am, 16, cm⟩⟩ sm = (packW ⟨p.h, p.A, p.n, p.c, ⟨true, id, Am, 16, cm⟩⟩ l sm).drop (48 + szs l) from by
          unfold packW
          exact (drop_pre (by rw [List.length_append, headW_length, flat_length l hfit])).symm)
        have HPr := Lib.hid hpr
        have HRd := Lib.hid (read_any HN5.out (by have := HS.out; omega))
        clear h2 q1 hfr hfit hpr
        go_wp2_with fail
        refine HRd.out.mono ?_
        rintro e w6 ⟨b6, q, en, a, k, rfl, hrd⟩
        unfold Rd at hrd
        rw [HPr.out] at hrd
        obtain ⟨rfl, rfl, -, -, -, hqk, els, ns, -, hmem, -, hqr, -, hql, hqm⟩ := hrd
        obtain ⟨e1, e2, e3⟩ := mac_eq (right_parts HRr.out).2.1 (right_parts hqr).2.1 HNs5.out.len hql HU.out.2.2.1 hqk (HMw.out.trans hqm.symm)
        obtain ⟨y1, y2, y3, y4⟩ := bx_at w6 q 0 0
        have b56 := bthen b6 y3 (Nat.le_refl _)
        have HB7 := Lib.hid (bthen HB5.out b56 (Nat.le_refl _))
        have HQ7 := Lib.hid y1
        have HF7 := Lib.hid y2
        have HN7 := Lib.hid (HN5.out.far b56)
        have HNf7 := Lib.hid (HNf5.out.far b56)
        have HNq7 := Lib.hid (hmem (bx w6 q 0 0) y3.size fun z _ hz => y3.block z hz).2
        have HKe := Lib.hid (show id = q.m.key from e2)
        have HSn := Lib.hid (show sm = ns from e3)
        clear b6 hqk hmem hqr hql hqm e1 e2 e3 y1 y2 y3 y4 b56 HRd HMw HB5 HNs5 HNf5 HN5 HE5
        go_upto_region 10 with fail
        rw [bx_def]
        generalize bx w6 q 0 0 = w7 at *
        have HFr := Lib.hid (front_any HN7.out (by have := HS.out; omega))
        go_wp2_with fail
        refine HFr.out.mono ?_
        rintro e w8 ⟨b8, hpost⟩
        rw [HPr.out] at hpost
        obtain ⟨A8, c8, rfl, N8⟩ := hpost
        rw [HFo.out] at N8
        have hen : 48 + szs l ≤ 8192 := by
          obtain ⟨-, -, -, -, -, -, z7, z8, -⟩ := prs_rev HN7.out.lim HPr.out
          omega
        have HEn := Lib.hid hen
        have HB8 := Lib.hid (bthen HB7.out b8 (Nat.le_refl _))
        have HK8 := Lib.hid (HK0.out.bel HB8.out)
        have HQ8 := Lib.hid (HQ7.out.below b8)
        have HF8 := Lib.hid ((b8.block _ (Array.getElem?_eq_some_iff.1 HF7.out).1).trans HF7.out)
        have HNf8 := Lib.hid (HNf7.out.far b8)
        have HNq8 := Lib.hid (HNq7.out.far b8)
        have HN8 := Lib.hid N8
        clear b8 N8 hen HFr HB7 HQ7 HF7 HNf7 HNq7 HN7 HPr HFo
        generalize 48 + szs l = E at *
        have hf2 : w8.cell? ⟨w6.heap.size + 1, 1, none⟩ = some (.int .i64 0) := (fl_cells HF8.out).2
        have k1 := conv_any HN8.out
        have k2 := conv_any HNf8.out
        have k3 := eq_self (bstr fr)
        obtain ⟨-, -, -, -, -, -, -, -, -, -, -, -, -, -, -, c15, c16⟩ := HQ8.out.cells
        rw [← HKe.out] at c15
        have HSd := Lib.hid (sealed_any HK8.out src dst id cookie HU.out.1 HU.out.2.1 HU.out.2.2.1 HU.out.2.2.2.1 (outN HN8.out) (outN HNq8.out) (by have := HEn.out; omega))
        rw [← HSm.out, ← HSn.out, eq_self] at HSd
        go_wp2_with fail
        refine HSd.out.mono ?_
        rintro e w9 ⟨rfl, b9⟩
        have HB9 := Lib.hid (bthen HB8.out b9 (Nat.le_refl _))
        have HK9 := Lib.hid (HK0.out.bel HB9.out)
        have HQ9 := Lib.hid (HQ8.out.below b9)
        have HNf9 := Lib.hid (HNf8.out.far b9)
        have HNq9 := Lib.hid (HNq8.out.far b9)
        have HN9 := Lib.hid (HN8.out.far b9)
        clear b9 hf2 k1 k2 k3 c15 c16 HSd HB8 HK8 HQ8 HF8 HNf8 HNq8 HN8
        have HSe := Lib.hid (session_any HK9.out src dst id other HU.out.1 HU.out.2.1 HU.out.2.2.1 HU.out.2.2.2.2)
        go_wp2_with fail
        refine HSe.out.mono ?_
        rintro e w10 ⟨A10, k10, rfl, hN10, -, b10⟩
        have HN10 := Lib.hid hN10
        have HB10 := Lib.hid (bthen HB9.out b10 (Nat.le_refl _))
        have HK10 := Lib.hid (HK0.out.bel HB10.out)
        have HQ10 := Lib.hid (HQ9.out.below b10)
        have HNf10 := Lib.hid (HNf9.out.far b10)
        have HNq10 := Lib.hid (HNq9.out.far b10)
        have HNa10 := Lib.hid (HN9.out.far b10)
        clear b10 hN10 HSe HB9 HK9 HQ9 HNf9 HNq9 HN9
        have HMa := Lib.hid (Go.Proofs.YtafpnpfiefbddaaDoor.mac_any HK10.out HN10.out (outN HNf10.out) (by have := Hn1.out; omega))
        go_wp2_with fail
        refine HMa.out.mono ?_
        rintro e w11 ⟨A11, k11, rfl, hN11, -, b11⟩
        have HN11 := Lib.hid (inN hN11)
        have HB11 := Lib.hid (bthen HB10.out b11 (Nat.le_refl _))
        have HK11 := Lib.hid (HK0.out.bel HB11.out)
        have HQ11 := Lib.hid (HQ10.out.below b11)
        have HNq11 := Lib.hid (HNq10.out.far b11)
        have HNa11 := Lib.hid (HNa10.out.far b11)
        clear b11 hN11 HMa HN10 HB10 HK10 HQ10 HNf10 HNq10 HNa10
        obtain ⟨m2, hm2⟩ : ∃ m, m = mac (sess src dst id other) fr := ⟨_, rfl⟩
        rw [← hm2] at HN11
        have HAl := Lib.hid (fun pp : Bel w11.heap.size w11 => Calls.bel (Nat.le_refl _) pp (alive06_any (HK11.out.bel pp.h)))
        have HSd := Lib.hid (fun pp : Bel w11.heap.size w11 => Calls.bel (Nat.le_refl _) pp (sealed_any (HK11.out.bel pp.h) src dst id other HU.out.1 HU.out.2.1 HU.out.2.2.1 HU.out.2.2.2.2 (outN (HNa11.out.far pp.h)) (outN (HNq11.out.far pp.h)) (by have := HEn.out; omega)))
        obtain ⟨bb, hbb⟩ : ∃ bb, ((bstr ns).toList == (bstr m2).toList) = bb := ⟨_, rfl⟩
        have hbb2 : ((bstr m2).toList == (bstr ns).toList) = bb := by rw [← hbb]; exact BEq.comm
        have HSd2 := Lib.hid (show ∀ pp : Bel w11.heap.size w11, Calls Tryd.prog 11 #[.int .u32 (src : Int), .int .u32 (dst : Int), .int .u32 (id : Int), .int .u32 (other : Int), .slice A8 E c8, .slice q.m.A q.m.n q.m.c] pp.w fun e w' => e = .returned (.bool bb) ∧ ∃ q : Bel w11.heap.size w11, w' = q.w from fun pp => by
          have h := HSd.out pp
          rw [← hm2, show ((Go.Proofs.YtafpnpfiefbddaaDoor.bstr ns).toList == (Go.Proofs.YtafpnpfiefbddaaDoor.bstr m2).toList) = bb from hbb] at h
          exact h)
        have k1 := fun pp : Bel w11.heap.size w11 => conv_any (HN11.out.below pp.h)
        have k2 := fun pp : Bel w11.heap.size w11 => conv_any (HNq11.out.below pp.h)
        obtain ⟨-, -, -, -, -, -, -, -, -, -, -, -, -, -, -, -, c16⟩ := HQ11.out.cells
        have u16 := fun pp : Bel w11.heap.size w11 => (pp.h.cell (p := ⟨w6.heap.size, 16, none⟩) HQ11.out.lt).trans c16
        have HBw := Lib.hid (Below.refl w11.heap.size w11)
        clear hm2 c16 HSd hbb
        cases bb
        all_goals
          go_upto_region 14 with fail
          refine wp_region_quiet_bel HBw.out (by kernel_rfl) (by kernel_rfl) ?_
          repeat (go_big_quiet_step (first | (go_at_call 5; with_reducible exact HAl.out _) | (go_at_call 11; with_reducible exact HSd2.out _)))
          refine wpQuiet_nil ?_
          intro _ hw'
          obtain ⟨⟨w12, h12⟩, hw''⟩ := hw'
          subst hw''
          have HB12 := Lib.hid (bthen HB11.out h12 (Nat.le_refl _))
          clear h12 k1 k2 u16 hbb2
          go_wp2_with fail
          go_ret
          exact ⟨rfl, HB12.out⟩
end Go.Proofs.YtafpnpfiefbddaaDoor.Wi
