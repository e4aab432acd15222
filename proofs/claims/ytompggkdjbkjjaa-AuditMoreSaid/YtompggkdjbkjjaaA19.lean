/- audit: a log behind a log; AuditMore's walk. -/
import Derived.Test.YtompggkdjbkjjaaA18
namespace Go.Proofs.Ytompggkdjbkjjaa
open Go.RowKit
set_option linter.unusedVariables false
set_option maxRecDepth 100000
theorem wpList_app_rows {P : Program} (w : World) {ops : Array Oper} {rest : List Oper} {o : Oper} {a : Act} {Q : Exit → Act → World → Prop} (hgd : o.guard = none) (s x : Operand) (t : TypeId)
    (ho : o.op = .call { callee := .builtin .append, args := #[s, x], argTypes := #[t, t] }) {base e size bytes : Nat} {z : Value} (ht : P.underlying t = some (.slice e))
    (hinf : (P.info? e).map (fun i => (i.zero, i.size, i.bytes)) = some (some z, size, bytes)) (hzs : z.cells.size = size) (hsz : 0 < size) (hby : bytes ≤ 128)
    {n c m c2 : Nat} {A A2 : Option Addr} {cs ys : List Value}
    (hs : a.eval s = .slice A n c) (hown : Gw w base e size A n c cs) (hx : a.eval x = .slice A2 m c2) (hyl : ys.length = m * size)
    (hr : m = 0 ∨ ∃ g off, A2 = some ⟨g, off, none⟩ ∧ ∀ j u, ys[j]? = some u → w.cell? ⟨g, off + j, none⟩ = some u) (h1 : ∀ u ∈ ys, u.oneCell' = true) (hn : n + m ≤ 1099511627776) (hbase : base ≤ w.heap.size)
    (h : ∀ A' c' w', Gw w' base e size A' (n + m) c' (cs ++ ys) → Gr w A w' A' → wpList P ops Q rest (a.put o.dst (.slice A' (n + m) c')) w') : wpList P ops Q (o :: rest) a w := by
  obtain ⟨i0, hi, hz0, hz1, hz2⟩ := info_parts hinf
  refine wpList_plain hgd fun K hK => ?_
  rcases A2 with _ | ad
  · have hm : m = 0 := by
      rcases hr with h0 | ⟨g, off, e, _⟩
      · exact h0
      · cases e
    subst hm
    have hy : ys = [] := List.eq_nil_of_length_eq_zero (by simpa using hyl)
    subst hy
    have hrun := run_app_nil (P := P) w base t o.type e i0 size ht hi (.slice A n c) n cs hown c2
    unfold Oper.wp execOp
    simp only [ho, resolve, invoke, builtin, Sem.run_bind, Sem.run_pure, Result.andThen_ok, List.map_toArray, List.map_cons, List.map_nil, hs, hx, hrun]
    exact hK _ _ (h A c w (by rw [List.append_nil]; exact hown) (Gr.refl _ _))
  · have hnews : ∀ j u, ys[j]? = some u → w.cell? (ad.add j) = some u := by
      intro j u hj
      rcases hr with h0 | ⟨g, off, e, hc⟩
      · have hy : ys = [] := List.eq_nil_of_length_eq_zero (by rw [hyl, h0]; simp)
        subst hy
        cases hj
      · cases e
        rw [addr_add]
        exact hc j u hj
    obtain ⟨v', w', hr, h2, h3, _, h5⟩ := run_append_own_at (P := P) w base t o.type e i0 z size bytes ht hi hz0 hz1 hz2 hzs hsz _ n cs hown ad m c2 ys hyl hnews h1 (by unfold maxLen; omega)
      (by have := Nat.mul_le_mul hn hby; omega) hbase
    obtain ⟨A', c', rfl⟩ := own_shape' h2
    rw [own_blk] at h3
    rw [own_blk, own_blk] at h5
    unfold Oper.wp execOp
    simp only [ho, resolve, invoke, builtin, Sem.run_bind, Sem.run_pure, Result.andThen_ok, List.map_toArray, List.map_cons, List.map_nil, hs, hx, hr]
    exact hK _ _ (h A' c' w' h2 ⟨h3, h5.imp id fun e => ⟨_, e, Nat.le_refl _⟩⟩)
theorem ecs_one (E : List Ev) : ∀ u ∈ ecs E, u.oneCell' = true := by
  intro u hu
  unfold ecs at hu
  obtain ⟨x, _, hx⟩ := List.mem_flatMap.1 hu
  exact cs_one x u hx
theorem Lg.row {w : World} {B n : Nat} {A : Option Addr} {E : List Ev} (h : Lg w B A n E) : n = 0 ∨ ∃ g off, A = some ⟨g, off, none⟩ ∧ ∀ j u, (ecs E)[j]? = some u → w.cell? ⟨g, off + j, none⟩ = some u := by
  refine h.2.2.imp id fun ⟨g, off, e, hg, hc⟩ => ⟨g, off, e, fun j u hj => ?_⟩
  have hlt : j < E.length * 5 := by
    have := (List.getElem?_eq_some_iff.1 hj).1
    rwa [ecs_len] at this
  have hi : j / 5 < E.length := by omega
  obtain ⟨s, hs⟩ : ∃ s, E[j / 5]? = some s := ⟨_, List.getElem?_eq_getElem hi⟩
  have ee := ecs_get hs (j % 5) (by omega)
  rw [show j / 5 * 5 + j % 5 = j by omega, hj] at ee
  obtain ⟨c0, c1, c2, c3, c4⟩ := hc (j / 5) s hs
  have hq : j % 5 = 0 ∨ j % 5 = 1 ∨ j % 5 = 2 ∨ j % 5 = 3 ∨ j % 5 = 4 := by omega
  rcases hq with hq | hq | hq | hq | hq
  · rw [show off + j = off + j / 5 * 5 by omega, c0]; rw [hq] at ee; exact ee.symm
  · rw [show off + j = off + j / 5 * 5 + 1 by omega, c1]; rw [hq] at ee; exact ee.symm
  · rw [show off + j = off + j / 5 * 5 + 2 by omega, c2]; rw [hq] at ee; exact ee.symm
  · rw [show off + j = off + j / 5 * 5 + 3 by omega, c3]; rw [hq] at ee; exact ee.symm
  · rw [show off + j = off + j / 5 * 5 + 4 by omega, c4]; rw [hq] at ee; exact ee.symm
theorem Lg.of_row {w : World} {base n c t B : Nat} {A : Option Addr} {E : List Ev} (hE : E.length = n) (h : Gw w base t 5 A n c (ecs E)) (hx : ∀ x ∈ E, Nb w B x.A x.n x.c x.xs) (hB : B ≤ w.heap.size) : Lg w w.heap.size A n E := by
  refine ⟨hE, fun x hh => (hx x hh).more hB, ?_⟩
  rcases Nat.eq_zero_or_pos n with h0 | h0
  · exact .inl h0
  · obtain ⟨g, e, hb, hg, hc⟩ := h.cell h0 (by omega)
    refine .inr ⟨g, 0, e, hg, fun i x hi => ?_⟩
    have H := fun j hj => hc (i * 5 + j) _ ((ecs_get hi j hj).trans (List.getElem?_eq_getElem (by simpa [Ev.cs] using hj)))
    refine ⟨?_, ?_, ?_, ?_, ?_⟩
    · simpa [Ev.cs] using H 0 (by omega)
    · simpa [Ev.cs] using H 1 (by omega)
    · simpa [Ev.cs] using H 2 (by omega)
    · simpa [Ev.cs] using H 3 (by omega)
    · simpa [Ev.cs] using H 4 (by omega)
theorem i54 : (Try.prog.info? 54).map (fun i => (i.zero, i.size, i.bytes)) = some (some (.agg #[.int .i64 0, .int .u32 0, .int .u32 0, .int .i64 0, .slice none 0 0]), 5, 48) := by kernel_rfl
set_option maxHeartbeats 8000000 in
theorem more_law {w : World} {n c : Nat} {A : Option Addr} {E : List Ev} {x : Ev} (h : Lg w w.heap.size A n E) (hl : ∀ x ∈ E, x.n ≤ 140737488355328) (hok : ∀ x ∈ E, x.ok) (hx : Nb w w.heap.size x.A x.n x.c x.xs) (hxk : x.ok) :
    Calls Try.prog 7 #[.slice A n c, evV x] w fun e w' => e = .returned (.bool true) ∧ RowKit.Below w.heap.size w w' := by
  obtain ⟨W, hW⟩ : ∃ W, W = w.alloc (.cells #[.int .i64 x.k, .int .u32 (x.h : Int), .int .u32 (x.p : Int), .int .i64 x.at_, .slice x.A x.n x.c] 54) := ⟨_, rfl⟩
  have hbW : RowKit.Below w.heap.size w W := by rw [hW]; exact (Below.refl _ _).alloc (Nat.le_refl _) _
  have x1 : EBox W w.heap.size 54 x := by rw [hW]; exact EBox.new w 54 x
  have HLo := Lib.hid (fun (W' : World) (hb : RowKit.Below w.heap.size w W') => long_any (c := c) (h.below hb (Nat.le_refl _)) hl)
  have HE := Lib.hid h
  have HK := Lib.hid hok
  have HX := Lib.hid hx
  have HXk := Lib.hid hxk
  have HW := Lib.hid hW
  have HBW := Lib.hid hbW
  have HB1 := Lib.hid x1
  obtain ⟨c0, c1, c2, c3, c4⟩ := x1.cells
  clear hW hbW x1 hx hxk
  cases hlong : longB E with
  | true =>
    rw [hlong] at HLo
    clear hlong h hl hok
    go_enter Try.func7, Try.ntmps7
    go_upto_region 1 with fail
    rw [← HW.out]
    go_wp2_with (first
      | (go_at_call 9; refine (HLo.out _ HBW.out).mono ?_; rintro e w1 ⟨rfl, hw1⟩; subst hw1)
      | (go_at_call 10; refine (alive_any _).mono ?_; rintro e w2 ⟨rfl, hb2⟩; have HB2 := Lib.hid hb2; clear hb2))
    go_ret
    exact ⟨rfl, bthen HBW.out HB2.out (Nat.le_refl _)⟩
  | false =>
    obtain ⟨hn, hxs⟩ := short_of hlong
    rw [h.1] at hn
    rw [hlong] at HLo
    by_cases hbig : 1000 < x.n
    · have e1 : 1000 < (x.n : Int) := by omega
      clear hlong h hl hok hxs
      go_enter Try.func7, Try.ntmps7
      go_upto_region 1 with fail
      rw [← HW.out]
      go_wp2_with (first
        | (go_at_call 9; refine (HLo.out _ HBW.out).mono ?_; rintro e w1 ⟨rfl, hw1⟩; subst hw1)
        | (go_at_call 10; refine (alive_any _).mono ?_; rintro e w2 ⟨rfl, hb2⟩; have HB2 := Lib.hid hb2; clear hb2))
      go_ret
      exact ⟨rfl, bthen HBW.out HB2.out (Nat.le_refl _)⟩
    · have e1 : (1000 < (x.n : Int)) = False := by simp only [eq_iff_iff, iff_false]; omega
      have HXs := Lib.hid hxs
      have f0 : W.frozen? ⟨w.heap.size, 0, none⟩ = false := frozen_of_row W _ 0 _ 54 HB1.out
      obtain ⟨W1, hW1⟩ : ∃ W1, W1 = W.setCell ⟨w.heap.size, 0, none⟩ (.int .i64 1) := ⟨_, rfl⟩
      obtain ⟨y, hy⟩ : ∃ y : Ev, y = ⟨1, x.h, x.p, x.at_, x.A, x.n, x.c, x.xs⟩ := ⟨_, rfl⟩
      have hbW1 : RowKit.Below w.heap.size w W1 := by rw [hW1]; exact HBW.out.setCell (Nat.le_refl _) _
      have y1 : W1.heap[w.heap.size]? = some (.cells #[.int .i64 1, .int .u32 (x.h : Int), .int .u32 (x.p : Int), .int .i64 x.at_, .slice x.A x.n x.c] 54 (0, 0)) := by
        rw [hW1, heap_setCell_same W _ 0 _ 54 _ HB1.out]; rfl
      have HBW1 := Lib.hid hbW1
      have HY1 := Lib.hid y1
      have HW1 := Lib.hid hW1
      obtain ⟨d0, d1, d2, d3, d4⟩ := EBox.cells (x := ⟨1, x.h, x.p, x.at_, x.A, x.n, x.c, x.xs⟩) y1
      dsimp only at d0 d1 d2 d3 d4
      have HG0 := Lib.hid (Gw.nil ((W1.alloc (.cells #[.int .i64 1, .int .u32 (x.h : Int), .int .u32 (x.p : Int), .int .i64 x.at_, .slice x.A x.n x.c] 54))) (w.heap.size + 1) 54 5)
      have HBa := Lib.hid (hbW1.alloc hbW1.size (.cells #[.int .i64 1, .int .u32 (x.h : Int), .int .u32 (x.p : Int), .int .i64 x.at_, .slice x.A x.n x.c] 54))
      have hlt1 : w.heap.size < W1.heap.size := (Array.getElem?_eq_some_iff.1 y1).1
      have HLt := Lib.hid hlt1
      clear hlong h hl hok hxs hW1 hbW1 y1 hlt1
      go_enter Try.func7, Try.ntmps7
      go_upto_region 1 with fail
      rw [← HW.out]
      go_upto_region 4 with (go_at_call 9; refine (HLo.out _ HBW.out).mono ?_; rintro e w1 ⟨rfl, hw1⟩; subst hw1)
      rw [← HW1.out]
      clear c0 c1 c2 c3 c4 f0
      go_upto_region 7 with (at_builtin; first
        | (have _t := HG5; refine wpList_app_rows _ rfl (.tmp 22) (.tmp 23) 22 rfl Try.underlying22 i54 rfl (by decide) (by decide) rfl HG5.out rfl (by rw [ecs_len]; have := HE.out.1; omega) ((HE.out.below HB5.out (Nat.le_refl _)).row) (ecs_one E) (by omega) HB5s.out ?_
           intro A6 c6 w6 hg6 hr6
           have HG6 := Lib.hid hg6
           have HB6 := Lib.hid (HB5.out.grown hr6.1 HB5.out.size fun k hk => Nat.le_of_succ_le (HG5.out.blk_lt k hk).1)
           clear hg6 hr6)
        | (refine wpList_push _ rfl (.tmp 18) (.tmp 20) 22 rfl Try.underlying22 i54 rfl (by decide) (by decide) (Ev.cs ⟨1, x.h, x.p, x.at_, x.A, x.n, x.c, x.xs⟩) rfl HG0.out rfl rfl (heap_alloc_new _ _) (cs_one _) (by omega) (Nat.le_trans (Nat.succ_le_of_lt HLt.out) (by simp)) ?_
           intro A5 c5 w5 hg5 hr5
           have HG5 := Lib.hid hg5
           have HB5 := Lib.hid (HBa.out.grown hr5.1 HBa.out.size fun k hk => by cases hk)
           have HB5s := Lib.hid (Nat.le_trans (Nat.succ_le_of_lt HLt.out) (Nat.le_trans (by simp) hr5.1.size : W1.heap.size ≤ w5.heap.size))
           clear hg5 hr5))
      have hE := HE.out.1
      have HLa := Lib.hid (fun (W' : World) (hb : RowKit.Below w.heap.size w W') => matched_any (c := c) (HE.out.below hb (Nat.le_refl _)) hb.size (by omega) (fun x hx => Nat.le_trans (HXs.out x hx) (by omega)) HK.out)
      have hlg := Lg.of_row (E := (⟨1, x.h, x.p, x.at_, x.A, x.n, x.c, x.xs⟩ : Ev) :: E) (n := 0 + 1 + n) (by simp; omega) (show Gw w6 (w.heap.size + 1) 54 5 A6 (0 + 1 + n) c6 _ from HG6.out) (B := w.heap.size) (fun z hz => by
        rcases List.mem_cons.1 hz with rfl | hz
        · exact HX.out.below HB6.out
        · exact (HE.out.2.1 z hz).below HB6.out) HB6.out.size
      have HLb := Lib.hid (fun (W' : World) (hb : RowKit.Below w6.heap.size w6 W') => matched_any (c := c6) (hlg.below hb (Nat.le_refl _)) hb.size (by omega) (fun z hz => by
        rcases List.mem_cons.1 hz with rfl | hz
        · show x.n ≤ _; omega
        · exact Nat.le_trans (HXs.out z hz) (by omega)) (fun z hz => by
        rcases List.mem_cons.1 hz with rfl | hz
        · exact ⟨⟨by show (-9223372036854775808 : Int) ≤ 1; omega, by show (1 : Int) ≤ 9223372036854775807; omega⟩, HXk.out.2⟩
        · exact HK.out z hz))
      have hcnt := more_cnt (Ev.m ⟨1, x.h, x.p, x.at_, x.A, x.n, x.c, x.xs⟩) rfl (E.map Ev.m)
      rw [← List.map_cons] at hcnt
      have hca : cnt (mrun (E.map Ev.m)).out ≤ 50 := Nat.le_trans (cnt_le _) (Nat.le_trans (mrun_lens _).1 (by simp; omega))
      generalize cnt (mrun (E.map Ev.m)).out = ca at *
      generalize cnt (mrun (((⟨1, x.h, x.p, x.at_, x.A, x.n, x.c, x.xs⟩ : Ev) :: E).map Ev.m)).out = cb at *
      have h1 : ca ≤ cb := hcnt.1
      have h2 : (cb : Int) ≤ (ca : Int) + 1 := by omega
      have h3 : wrap64 ((ca : Int) + 1) = (ca : Int) + 1 := by unfold wrap64; omega
      clear hcnt hlg hE
      go_wp2_with (first
        | (go_at_call 21; (with_reducible refine (HLa.out _ HB6.out).mono ?_)
           rintro e w7 ⟨rfl, hb7⟩
           have HB7 := Lib.hid hb7
           clear hb7)
        | (go_at_call 21; (with_reducible refine (HLb.out _ HB7.out).mono ?_)
           rintro e w8 ⟨rfl, hb8⟩
           have HB8 := Lib.hid (bthen (bthen HB6.out HB7.out (Nat.le_refl _)) hb8 (Nat.le_refl _))
           clear hb8)
        | (go_at_call 10; refine (alive_any _).mono ?_; rintro e w9 ⟨rfl, hb9⟩; have HB9 := Lib.hid (bthen HB8.out hb9 (Nat.le_refl _)); clear hb9))
      go_ret
      exact ⟨rfl, HB9.out⟩
end Go.Proofs.Ytompggkdjbkjjaa
