/- The reference's Row: the best of those that are left, again and again. -/
import Derived.Test.YtofieoklcegddaaK2
import Derived.Test.YtofieoklcegddaaJ3
namespace Go.Proofs.Ytofieoklcegddaa
open Go.RowKit Go.Sort Go.Shelf Go.Lib
set_option linter.unusedVariables false
set_option linter.unusedSimpArgs false
set_option maxRecDepth 100000

structure Sel (now : Int) (L out left : List S4) : Prop where
  rise : risingK (fun s => s.dist now) out
  le : ∀ x ∈ out, ∀ y ∈ left, x.dist now ≤ y.dist now
  keyd : ∀ d, atKey (fun s => s.dist now) d (out ++ left.reverse) = atKey (fun s => s.dist now) d L
  tot : out.length + left.length = L.length
theorem Sel.start (now : Int) (L : List S4) : Sel now L [] L.reverse := ⟨trivial, fun x hx => (by cases hx), fun d => (by simp), by simp⟩
theorem rising_snoc {k : S4 → Int} {x : S4} : ∀ {L : List S4}, risingK k L → (∀ y ∈ L, k y ≤ k x) → risingK k (L ++ [x])
  | [], _, _ => ⟨fun y hy => (by cases hy), trivial⟩
  | z :: L, h, hx => ⟨fun y hy => by
      rcases List.mem_append.1 hy with h1 | h1
      · exact h.1 y h1
      · rw [List.mem_singleton.1 h1]; exact hx z (by simp), rising_snoc h.2 (fun y hy => hx y (by simp [hy]))⟩
theorem Sel.step {now : Int} {L out P S : List S4} {x : S4} (h : Sel now L out (P ++ x :: S)) (hP : ∀ y ∈ P, x.dist now ≤ y.dist now) (hS : ∀ y ∈ S, x.dist now < y.dist now) : Sel now L (out ++ [x]) (P ++ S) := by
  refine ⟨rising_snoc h.rise (fun y hy => h.le y hy x (by simp)), fun z hz y hy => ?_, fun d => ?_, ?_⟩
  · rcases List.mem_append.1 hz with h1 | h1
    · exact h.le z h1 y (by rcases List.mem_append.1 hy with h2 | h2 <;> simp [h2])
    · rw [List.mem_singleton.1 h1]
      rcases List.mem_append.1 hy with h2 | h2
      · exact hP y h2
      · have := hS y h2; omega
  · rw [← h.keyd d]
    unfold atKey
    simp only [List.filter_append, List.reverse_append, List.reverse_cons, List.append_assoc, List.filter_cons, List.filter_nil]
    by_cases hd : x.dist now = d
    · have hn : S.reverse.filter (fun s => decide (s.dist now = d)) = [] := by
        rw [List.filter_eq_nil_iff]
        intro y hy
        have := hS y (by simpa using hy)
        simp; omega
      simp [hd, hn]
    · simp [hd]
  · have := h.tot
    simp at this ⊢
    omega
theorem Sel.done {now : Int} {L out : List S4} (h : Sel now L out []) : out = sorted now L := sorted_is now L out h.rise (fun d => by have := h.keyd d; simpa using this)
set_option maxHeartbeats 8000000 in
theorem rrow_any {w : World} {h n c : Nat} {A : Option Addr} {L : List S4} (now : Int) (hc : w.cell? ⟨h, 0, none⟩ = some (.slice A n c)) (hr : Rd w w.heap.size A n L.reverse) (h8 : L.length ≤ 8) :
    Calls Try.prog 26 #[.pointer (some ⟨h, 0, none⟩), .int .i64 now] w fun e w' => ∃ A' c', e = .returned (.slice A' L.length c') ∧ Rd w' w'.heap.size A' L.length (sorted now L) ∧ RowKit.Below w.heap.size w w' := by
  have hn : n = L.length := by have := hr.1; simpa using this.symm
  have hn8 : n ≤ 8 := by omega
  have HN := Lib.hid hn
  have HR := Lib.hid hr
  clear hr hn h8
  go_enter Try.func26, Try.ntmps26
  go_wp2_with (at_builtin; refine wpList_app_r _ rfl (.tmp 10) (.tmp 14) rfl rfl (Gs.nil _ w.heap.size) rfl HR.out (by omega) (Nat.le_refl _) ?_; intro Al cl w1 hg1 hq1 _)
  have hb1 : RowKit.Below w.heap.size w w1 := (Below.refl _ _).grown hq1 (Nat.le_refl _) (fun k hk => by cases hk)
  rw [List.nil_append] at hg1
  have HG1 := Lib.hid hg1
  have HB1 := Lib.hid hb1
  clear hg1 hq1 hb1
  rw [Nat.zero_add] at HG1
  go_wp2_with fail
  go_loopw [5, 6] (fun lv ov wr => ∃ (Al : Option Addr) (nl cl : Nat) (left : List S4) (Ao : Option Addr) (no co : Nat) (out : List S4), lv = .slice Al nl cl ∧ ov = .slice Ao no co ∧ Gs wr w.heap.size Al nl cl left ∧ Gs wr w.heap.size Ao no co out ∧
      Hid (∀ k, blk Ao = some k → blk Al ≠ some k) ∧ Hid (Sel now L out left) ∧ RowKit.Below w.heap.size w wr) (fun lv _ _ => (match lv with | .slice _ m _ => m | _ => 0))
  case atStart => exact ⟨Al, n, cl, L.reverse, none, 0, 0, [], rfl, rfl, HG1.out, Gs.nil _ _, fun k hk => (by cases hk), Sel.start now L, HB1.out⟩
  case round =>
    obtain ⟨Al, nl, cl, left, Ao, no, co, out, rfl, rfl, hgl, hgo, HD, HS, hb⟩ := hrel
    rename World => wo
    have HGl := Lib.hid hgl
    have HGo := Lib.hid hgo
    have HB := Lib.hid hb
    have hnl : left.length = nl := hgl.1
    have hno : out.length = no := hgo.1
    have htot := HS.out.tot
    have hl8 : nl + no ≤ 8 := by have := HN.out; omega
    have HLl := Lib.hid hnl
    have HTo := Lib.hid (show no + nl = n by have := HN.out; omega)
    clear hgl hgo hb hnl hno htot
    by_cases hnz : 0 < nl
    · have e1 : decide ((0 : Int) < (nl : Int)) = true := by simp; omega
      have e1' : (0 : Int) < (nl : Int) := by omega
      obtain ⟨g, rfl, hgb, hgw, hH⟩ := HGl.out.holds hnz
      have HRl := Lib.hid HGl.out.rd
      go_wp2_with fail
      go_loopw [8, 7] (fun iv av wq => ∃ i at_ : Nat, iv = .int .i64 ((i : Int) - 1) ∧ av = .int .i64 (at_ : Int) ∧ at_ < nl ∧ i ≤ at_ ∧
          Hid (∀ (q : Nat) (s t : S4), i ≤ q → left[q]? = some s → left[at_]? = some t → t.dist now ≤ s.dist now) ∧ Hid (∀ (q : Nat) (s t : S4), at_ < q → left[q]? = some s → left[at_]? = some t → t.dist now < s.dist now) ∧ RowKit.Below wo.heap.size wo wq)
        (fun iv _ _ => ((match iv with | .int _ z => z | _ => 0) + 1).toNat)
      case atStart => exact ⟨nl - 1, nl - 1, by congr 1; omega, by congr 1; omega, by omega, by omega, fun q s t hq hs ht => (by
          have := (List.getElem?_eq_some_iff.1 hs).1
          have := HLl.out
          rw [show q = nl - 1 by omega, ht] at hs
          cases hs
          exact Int.le_refl _), fun q s t hq hs ht => (by
          have := (List.getElem?_eq_some_iff.1 hs).1
          have := HLl.out
          omega), Below.refl _ _⟩
      case round =>
        obtain ⟨i, at_, rfl, rfl, hat, hia, H1, H2, hb2⟩ := hrel
        have HB2 := Lib.hid hb2
        clear hb2
        cases i with
        | succ k =>
          rw [show ((k + 1 : Nat) : Int) - 1 = (k : Int) by omega]
          obtain ⟨s, hs⟩ : ∃ s, left[k]? = some s := ⟨_, List.getElem?_eq_getElem (by have := HLl.out; omega)⟩
          obtain ⟨t, ht⟩ : ∃ t, left[at_]? = some t := ⟨_, List.getElem?_eq_getElem (by have := HLl.out; omega)⟩
          obtain ⟨g', off, he, hg', hcl⟩ := HRl.out.cells hnz
          cases he
          have d0 := fun p : Bel wo.heap.size wo => (hcl p.w p.h k s hs).1
          have d1 := fun p : Bel wo.heap.size wo => (hcl p.w p.h k s hs).2.1
          have d2 := fun p : Bel wo.heap.size wo => (hcl p.w p.h k s hs).2.2.1
          have d3 := fun p : Bel wo.heap.size wo => (hcl p.w p.h k s hs).2.2.2
          have f0 := fun p : Bel wo.heap.size wo => (hcl p.w p.h at_ t ht).1
          have f1 := fun p : Bel wo.heap.size wo => (hcl p.w p.h at_ t ht).2.1
          have f2 := fun p : Bel wo.heap.size wo => (hcl p.w p.h at_ t ht).2.2.1
          have f3 := fun p : Bel wo.heap.size wo => (hcl p.w p.h at_ t ht).2.2.2
          simp only [Nat.zero_add] at d0 d1 d2 d3 f0 f1 f2 f3
          have HDs := Lib.hid (fun p : Bel wo.heap.size wo => Calls.bel (Nat.le_refl _) p (rdist_below s now p.w))
          have HDt := Lib.hid (fun p : Bel wo.heap.size wo => Calls.bel (Nat.le_refl _) p (rdist_below t now p.w))
          have HSs := Lib.hid hs
          have HTt := Lib.hid ht
          have hk1 : (k : Int) < (nl : Int) := by omega
          have hk2 : (at_ : Int) < (nl : Int) := by omega
          have hk0 : (0 : Int) ≤ (k : Int) := by omega
          clear hcl hs ht
          have hds : ∃ ds, ds = s.dist now := ⟨_, rfl⟩
          have hdt : ∃ dt, dt = t.dist now := ⟨_, rfl⟩
          obtain ⟨ds, hds⟩ := hds
          obtain ⟨dt, hdt⟩ := hdt
          rw [← hds] at HDs
          rw [← hdt] at HDt
          have Hds := Lib.hid hds
          have Hdt := Lib.hid hdt
          clear hds hdt
          by_cases hlt : ds < dt
          · go_upto_region 8 with fail
            refine wp_region_quiet_bel HB2.out (by kernel_rfl) (by kernel_rfl) ?_
            repeat (go_big_quiet_step (first | (go_at_call 11; with_reducible exact HDs.out _) | (go_at_call 11; with_reducible exact HDt.out _)))
            refine wpQuiet_nil ?_
            intro _ hw'
            obtain ⟨⟨w5, h5⟩, hw''⟩ := hw'
            subst hw''
            have HB5 := Lib.hid h5
            clear d0 d1 d2 d3 f0 f1 f2 f3 h5
            go_wp2_with fail
            exact ⟨⟨k, k, rfl, rfl, by omega, Nat.le_refl _, fun q s' t' hq hs' ht' => (by
              rw [HSs.out] at ht'
              cases ht'
              rcases Nat.lt_or_eq_of_le hq with hq | rfl
              · have := H1.out q s' t (by omega) hs' HTt.out
                rw [← Hdt.out] at this
                rw [← Hds.out]
                omega
              · rw [HSs.out] at hs'; cases hs'; exact Int.le_refl _), fun q s' t' hq hs' ht' => (by
              rw [HSs.out] at ht'
              cases ht'
              have := H1.out q s' t (by omega) hs' HTt.out
              rw [← Hdt.out] at this
              rw [← Hds.out]
              omega), HB5.out⟩, by show ((k : Int) - 1 + 1).toNat < ((k : Int) + 1).toNat; omega⟩
          · have hlt' : (ds < dt) = False := by simp only [hlt]
            go_upto_region 8 with fail
            refine wp_region_quiet_bel HB2.out (by kernel_rfl) (by kernel_rfl) ?_
            repeat (go_big_quiet_step (first | (go_at_call 11; with_reducible exact HDs.out _) | (go_at_call 11; with_reducible exact HDt.out _)))
            refine wpQuiet_nil ?_
            intro _ hw'
            obtain ⟨⟨w5, h5⟩, hw''⟩ := hw'
            subst hw''
            have HB5 := Lib.hid h5
            clear d0 d1 d2 d3 f0 f1 f2 f3 h5
            go_wp2_with fail
            exact ⟨⟨k, at_, rfl, rfl, hat, by omega, fun q s' t' hq hs' ht' => (by
              rcases Nat.lt_or_eq_of_le hq with hq | rfl
              · exact H1.out q s' t' (by omega) hs' ht'
              · rw [HSs.out] at hs'; cases hs'
                rw [HTt.out] at ht'; cases ht'
                rw [← Hds.out, ← Hdt.out]
                omega), H2, HB5.out⟩, by show ((k : Int) - 1 + 1).toNat < ((k : Int) + 1).toNat; omega⟩
        | zero =>
          have hneg : ((0 : Int) ≤ ((0 : Nat) : Int) - 1) = False := by simp
          obtain ⟨t, ht⟩ : ∃ t, left[at_]? = some t := ⟨_, List.getElem?_eq_getElem (by have := HLl.out; omega)⟩
          have hk2 : (at_ : Int) < (nl : Int) := by omega
          have HTt := Lib.hid ht
          obtain ⟨g', off, he, hg', hcl⟩ := HRl.out.cells hnz
          cases he
          obtain ⟨c0, c1, c2, c3⟩ := hcl wr HB2.out at_ t ht
          simp only [Nat.zero_add] at c0 c1 c2 c3
          clear ht hcl
          obtain ⟨w2, hw2⟩ : ∃ w2, w2 = wr.alloc (.cells #[.int .i64 t.o, .int .i64 t.d, .int .i64 t.p, .int .i64 t.a] 23) := ⟨_, rfl⟩
          have b2 : RowKit.Below wo.heap.size wo w2 := by rw [hw2]; exact HB2.out.alloc HB2.out.size _
          have x2 : Box w2 wr.heap.size t := by rw [hw2]; exact World.alloc_heap_new wr _
          have hs2 : w2.heap.size = wr.heap.size + 1 := by rw [hw2]; simp
          have HRb := Lib.hid (show Rd w2 w2.heap.size (some ⟨wr.heap.size, 0, none⟩) 1 [t] from ⟨rfl, .inr ⟨_, 0, rfl, by omega, fun q s hq => by
            cases q with
            | zero => cases hq; exact x2.cells
            | succ q => simp at hq⟩⟩)
          have HGo2 := Lib.hid (HGo.out.below b2)
          have HGl2 := Lib.hid (HGl.out.below b2)
          have hbw : w.heap.size ≤ wo.heap.size := HB.out.size
          have HS2 := Lib.hid (show w.heap.size ≤ w2.heap.size by have := b2.size; omega)
          have HB22 := Lib.hid b2
          have HW2 := Lib.hid hw2
          have hno8 : no + 1 ≤ 1099511627776 := by omega
          clear hw2 b2 x2 hs2
          go_upto_region 10 with fail
          go_upto_region 11 with (at_builtin; (rw [← HW2.out]); refine wpList_app_r _ rfl (.tmp 43) (.tmp 48) rfl rfl HGo2.out rfl HRb.out hno8 HS2.out ?_; intro Ao' co' w3 hgo3 hq3 hl3)
          have HQ3 := Lib.hid hq3
          have HL3 := Lib.hid hl3
          have HGo3 := Lib.hid hgo3
          have hne : blk (some (⟨g, 0, none⟩ : Addr)) ≠ blk Ao := fun e => by
            have := HD.out g (by rw [← e]; rfl)
            exact this rfl
          have HGl3 := Lib.hid (HGl2.out.kept hq3 (.inr hne))
          have hS3 : w2.heap.size ≤ w3.heap.size := hq3.size
          have HRp := Lib.hid (HGl3.out.rd.from (HGl3.out.lt g rfl).2 0 at_ (by omega))
          have HRs := Lib.hid (HGl3.out.rd.from (HGl3.out.lt g rfl).2 (at_ + 1) (nl - (at_ + 1)) (by omega))
          have hroom : nl ≤ cl := HGl3.out.room
          have hbs3 : w.heap.size ≤ w3.heap.size := by have := HS2.out; omega
          clear hgo3 hq3 hl3 c0 c1 c2 c3
          simp only [Nat.zero_mul, Nat.zero_add, List.drop_zero] at HRp HRs
          have HS3 := Lib.hid hbs3
          have ha8 : 0 + at_ ≤ 1099511627776 := by omega
          have ha9 : at_ + (nl - (at_ + 1)) ≤ 1099511627776 := by omega
          go_upto_region 13 with (at_builtin; refine wpList_app_r _ rfl (.tmp 50) (.tmp 53) rfl rfl (Gs.nil _ w.heap.size) rfl HRp.out ha8 HS3.out ?_; intro Ar cr w4 hgr hq4 hl4)
          have HQ4 := Lib.hid hq4
          have HL4 := Lib.hid hl4
          have HGo4 := Lib.hid (HGo3.out.kept hq4 (by cases hb : blk Ao' with | none => exact .inl rfl | some k => exact .inr (by intro e; cases e)))
          have HRs4 := Lib.hid (HRs.out.below (C := w3.heap.size) (w' := w4) ⟨hq4.os, hq4.tape, hq4.output, hq4.size, fun k hk => hq4.block k hk (by intro e; cases e)⟩ (Nat.le_refl _))
          have HGr := Lib.hid hgr
          have HS4 := Lib.hid (show w.heap.size ≤ w4.heap.size from Nat.le_trans hbs3 hq4.size)
          clear hgr hq4 hl4
          rw [List.nil_append, Nat.zero_add] at HGr
          have HTk := Lib.hid (show (left.drop (at_ + 1)).take (nl - (at_ + 1)) = left.drop (at_ + 1) by rw [List.take_of_length_le (by have := HLl.out; simp; omega)])
          rw [HTk.out] at HRs4
          by_cases hcap : cl = at_ + 1
          case' pos =>
            have HRs5 := Lib.hid (show Rd w4 w3.heap.size (some ⟨g, 0, none⟩) 0 (left.drop (at_ + 1)) from ⟨by have := HRs4.out.1; omega, .inl rfl⟩)
            have ha5 : at_ + 0 ≤ 1099511627776 := by omega
            have hlen : at_ + 0 < nl := by omega
            subst hcap
          case' neg =>
            have HRs5 := HRs4
            have ha5 := ha9
            have hlen : at_ + (nl - (at_ + 1)) < nl := by omega
            have hcp1 : (cl = at_ + 1) = False := by simp only [hcap]
            have hcp2 : (at_ + 1 = cl) = False := by simp only [eq_iff_iff, iff_false]; omega
          all_goals (
            go_wp2_with (at_builtin; refine wpList_app_r _ rfl (.tmp 55) (.tmp 59) rfl rfl HGr.out rfl HRs5.out ha5 HS4.out ?_; intro Al' cl' w5 hgl5 hq5 hl5)
            have hgo5 := HGo4.out.kept hq5 (by
              rcases HL4.out with e | e
              · rw [e]
                cases hb : blk Ao' with
                | none => exact .inl rfl
                | some k => exact .inr (by intro e; cases e)
              · refine .inr fun e2 => ?_
                have := HGo3.out.lt w3.heap.size (by rw [e2, e])
                omega)
            have hw3 : RowKit.Below w.heap.size w2 w3 := (Below.refl _ _).grown HQ3.out HS2.out (fun k hk => (HGo2.out.lt k hk).1)
            have hw4 : RowKit.Below w.heap.size w3 w4 := (Below.refl _ _).grown HQ4.out HS3.out (fun k hk => (by cases hk))
            have hw5 : RowKit.Below w.heap.size w4 w5 := (Below.refl _ _).grown hq5 HS4.out (fun k hk => (HGr.out.lt k hk).1)
            have hw2' : RowKit.Below w.heap.size w w2 := HB.out.trans (HB22.out.mono HB.out.size)
            have hdis : ∀ k, blk Ao' = some k → blk Al' ≠ some k := fun k hk e => by
              have h1 := (HGo3.out.lt k hk).2
              have h2 := HQ4.out.size
              rcases hl5 with e5 | e5
              · rw [e5] at e
                rcases HL4.out with e4 | e4
                · rw [e4] at e; cases e
                · rw [e4] at e; cases e; omega
              · rw [e5] at e; cases e; omega
            have hsplit : left = left.take at_ ++ t :: left.drop (at_ + 1) := by
              conv => lhs; rw [← List.take_append_drop at_ left]
              congr 1
              have hlt := (List.getElem?_eq_some_iff.1 HTt.out).1
              rw [List.drop_eq_getElem_cons hlt]
              congr 1
              exact (List.getElem?_eq_some_iff.1 HTt.out).2
            have hsel : Sel now L (out ++ [t]) (left.take at_ ++ left.drop (at_ + 1)) := by
              have hS := HS.out
              rw [hsplit] at hS
              refine hS.step (fun y hy => ?_) (fun y hy => ?_)
              · obtain ⟨q, hq, rfl⟩ := List.getElem_of_mem hy
                have hq' : q < at_ := by simp at hq; omega
                refine H1.out q _ t (Nat.zero_le _) ?_ HTt.out
                rw [List.getElem_take]
                exact List.getElem?_eq_getElem _
              · obtain ⟨q, hq, rfl⟩ := List.getElem_of_mem hy
                refine H2.out (at_ + 1 + q) _ t (by omega) ?_ HTt.out
                rw [List.getElem_drop]
                exact List.getElem?_eq_getElem _
            have HGl5 := Lib.hid hgl5
            have HGo5 := Lib.hid hgo5
            have HDi := Lib.hid hdis
            have HSe := Lib.hid hsel
            have HBe := Lib.hid (((hw2'.trans hw3).trans hw4).trans hw5)
            clear hw2' hw3 hw4 hw5 hdis hsel hsplit
            clear hgl5 hgo5 hq5 hl5
            go_wp2_with fail
            exact ⟨⟨Al', _, cl', _, Ao', _, co', _, rfl, rfl, HGl5.out, HGo5.out, HDi.out, HSe.out, HBe.out⟩, hlen⟩)
    · have hnz' : nl = 0 := by omega
      subst hnz'
      have hle : left = [] := List.length_eq_zero_iff.1 HLl.out
      have hout : out = sorted now L := by have := HS.out; rw [hle] at this; exact this.done
      have hon : no = L.length := by have := HTo.out; have := HN.out; omega
      have HF := Lib.hid (show Rd wo wo.heap.size Ao L.length (sorted now L) by rw [← hout, ← hon]; exact HGo.out.rd)
      have HON := Lib.hid hon
      clear hout hon hle
      go_wp2_with fail
      go_ret
      exact ⟨Ao, co, by rw [← HON.out]; rfl, HF.out, HB.out⟩
end Go.Proofs.Ytofieoklcegddaa
