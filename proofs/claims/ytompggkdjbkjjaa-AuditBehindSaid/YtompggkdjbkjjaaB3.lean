/- audit: faces; a list of them as the program's own. -/
import Derived.Test.YtompggkdjbkjjaaA15
namespace Go.Proofs.Ytompggkdjbkjjaa
open Go.RowKit
set_option linter.unusedVariables false
set_option maxRecDepth 100000
/-- a face as it lies in memory, and its text's bytes -/
structure Fc where
  a : Nat
  A : Option Addr
  (n c : Nat)
  xs : List Nat
instance : Inhabited Fc := ⟨⟨0, none, 0, 0, []⟩⟩
def Fc.cs (x : Fc) : List Value := [.int .u32 (x.a : Int), .slice x.A x.n x.c]
abbrev fcV (x : Fc) : Value := .agg #[.int .u32 (x.a : Int), .slice x.A x.n x.c]
/-- a row of faces that can be read -/
def Lf (w : World) (B : Nat) (A : Option Addr) (n : Nat) (E : List Fc) : Prop :=
  E.length = n ∧ (∀ x ∈ E, Nb w B x.A x.n x.c x.xs) ∧ (n = 0 ∨ ∃ g off, A = some ⟨g, off, none⟩ ∧ g < B ∧ ∀ i x, E[i]? = some x →
    w.cell? ⟨g, off + i * 2, none⟩ = some (.int .u32 (x.a : Int)) ∧ w.cell? ⟨g, off + i * 2 + 1, none⟩ = some (.slice x.A x.n x.c))
theorem Lf.keep {w w' : World} {B n : Nat} {A : Option Addr} {E : List Fc} (h : Lf w B A n E) (hk : ∀ p : Addr, p.block < B → w'.cell? p = w.cell? p) : Lf w' B A n E := by
  refine ⟨h.1, fun x hx => (h.2.1 x hx).keep hk, h.2.2.imp id ?_⟩
  rintro ⟨g, off, rfl, hg, hc⟩
  refine ⟨g, off, rfl, hg, fun i x hx => ?_⟩
  obtain ⟨c0, c1⟩ := hc i x hx
  have e : ∀ j, w'.cell? ⟨g, j, none⟩ = w.cell? ⟨g, j, none⟩ := fun j => hk ⟨g, j, none⟩ hg
  exact ⟨(e _).trans c0, (e _).trans c1⟩
theorem Lf.below {w w' : World} {B C n : Nat} {A : Option Addr} {E : List Fc} (h : Lf w B A n E) (b : RowKit.Below C w w') (hB : B ≤ C) : Lf w' B A n E :=
  h.keep fun p hp => (b.mono hB).cell hp
theorem Lf.more {w : World} {B B' n : Nat} {A : Option Addr} {E : List Fc} (h : Lf w B A n E) (hB : B ≤ B') : Lf w B' A n E :=
  ⟨h.1, fun x hx => (h.2.1 x hx).more hB, h.2.2.imp id fun ⟨g, off, e, hg, hc⟩ => ⟨g, off, e, by omega, hc⟩⟩
theorem i73 : (Try.prog.info? 73).map (fun i => (i.zero, i.size, i.bytes)) = some (some (.agg #[.int .u32 0, .slice none 0 0]), 2, 32) := by kernel_rfl
def Fc.m (x : Fc) : Nat × List Nat := (x.a, x.xs)
def fcs (E : List Fc) : List Value := E.flatMap Fc.cs
theorem fcs_get {E : List Fc} {i : Nat} {x : Fc} (h : E[i]? = some x) (j : Nat) (hj : j < 2) : (fcs E)[i * 2 + j]? = x.cs[j]? := by
  induction E generalizing i with
  | nil => cases h
  | cons y E ih =>
    cases i with
    | zero =>
      cases h
      simp only [fcs, List.flatMap_cons, Nat.zero_mul, Nat.zero_add]
      rw [List.getElem?_append_left (by simpa [Fc.cs] using hj)]
    | succ i =>
      have := ih (i := i) h
      simp only [fcs, List.flatMap_cons] at this ⊢
      rw [List.getElem?_append_right (by simp [Fc.cs]; omega), ← this]
      simp only [Fc.cs, List.length_cons, List.length_nil]
      congr 1
      omega
/-- an own row of faces, and their texts in other blocks -/
def Gf (w : World) (base : Nat) (A : Option Addr) (n c : Nat) (E : List Fc) : Prop :=
  E.length = n ∧ Gw w base 73 2 A n c (fcs E) ∧ ∀ x ∈ E, Nb w w.heap.size x.A x.n x.c x.xs ∧ (x.n = 0 ∨ blk x.A ≠ blk A)
theorem Gf.keepb {w w' : World} {base n c : Nat} {A : Option Addr} {E : List Fc} (h : Gf w base A n c E) (hb : RowKit.Below w.heap.size w w') : Gf w' base A n c E :=
  ⟨h.1, h.2.1.below hb, fun x hx => ⟨((h.2.2 x hx).1.below hb).more hb.size, (h.2.2 x hx).2⟩⟩
theorem Gf.push {w w' : World} {base n c c' : Nat} {A A' : Option Addr} {E : List Fc} (h : Gf w base A n c E) (hg : Gr w A w' A') {x : Fc} (hx : Nb w w.heap.size x.A x.n x.c x.xs) (hne : x.n = 0 ∨ blk x.A ≠ blk A)
    (hw : Gw w' base 73 2 A' (n + 1) c' (fcs E ++ x.cs)) : Gf w' base A' (n + 1) c' (E ++ [x]) := by
  have key : ∀ y : Fc, Nb w w.heap.size y.A y.n y.c y.xs → (y.n = 0 ∨ blk y.A ≠ blk A) → Nb w' w'.heap.size y.A y.n y.c y.xs ∧ (y.n = 0 ∨ blk y.A ≠ blk A') := by
    intro y h1 h2
    refine ⟨(h1.keepb fun k hn hk hkb => hg.1.block k hkb fun e => ?_).more hg.1.size, ?_⟩
    · rcases h2 with h2 | h2
      · omega
      · exact h2 (hk.trans e)
    · rcases Nat.eq_zero_or_pos y.n with h0 | h0
      · exact .inl h0
      · refine .inr ?_
        obtain ⟨k, hk, hlt⟩ := h1.blk_lt h0
        rcases hg.2 with e | ⟨q, e, hq⟩
        · rw [e]; exact h2.resolve_left (by omega)
        · rw [e, hk]; intro e2; cases e2; omega
  refine ⟨by simp [h.1], by simpa [fcs] using hw, fun y hy => ?_⟩
  rcases List.mem_append.1 hy with hy | hy
  · exact key y (h.2.2 y hy).1 (h.2.2 y hy).2
  · simp at hy; subst hy; exact key y hx hne
theorem Gf.lf {w : World} {base n c : Nat} {A : Option Addr} {E : List Fc} (h : Gf w base A n c E) : Lf w w.heap.size A n E := by
  refine ⟨h.1, fun x hx => (h.2.2 x hx).1, ?_⟩
  rcases Nat.eq_zero_or_pos n with h0 | h0
  · exact .inl h0
  · obtain ⟨g, e, hb, hg, hc⟩ := h.2.1.cell h0 (by omega)
    refine .inr ⟨g, 0, e, hg, fun i x hi => ?_⟩
    have H := fun j hj => hc (i * 2 + j) _ ((fcs_get hi j hj).trans (List.getElem?_eq_getElem (by simpa [Fc.cs] using hj)))
    refine ⟨?_, ?_⟩
    · simpa [Fc.cs] using H 0 (by omega)
    · simpa [Fc.cs] using H 1 (by omega)
theorem fcs_one (x : Fc) : ∀ u ∈ x.cs, u.oneCell' = true := by
  intro u hu
  simp [Fc.cs] at hu
  rcases hu with rfl | rfl <;> rfl
theorem wpList_app_row_big (w : World) {ops : Array Oper} {rest : List Oper} {o : Oper} {a : Act} {Q : Exit → Act → World → Prop} (hgd : o.guard = none) (s x : Operand)
    (ho : o.op = .call { callee := .builtin .append, args := #[s, x], argTypes := #[52, 52] }) {base n c B m c2 : Nat} {A A2 : Option Addr} {xs ys : List Nat} {w0 : World}
    (hs : a.eval s = .slice A n c) (hown : Gb w base A n c xs) (hx : a.eval x = .slice A2 m c2) (hr : Nb w B A2 m c2 ys)
    (hn : n + m ≤ 140737488355328) (hb : Below base w0 w) (hbase : base ≤ w.heap.size)
    (h : ∀ A' c' w', Gb w' base A' (n + m) c' (xs ++ ys) → Below base w0 w' → wpList Try.prog ops Q rest (a.put o.dst (.slice A' (n + m) c')) w') : wpList Try.prog ops Q (o :: rest) a w := by
  obtain ⟨i0, hi, hz0, hz1, hz2⟩ := info_parts Try.info5'
  rcases A2 with _ | ad
  · have hm : m = 0 := by
      rcases Nat.eq_zero_or_pos m with h0 | h0
      · exact h0
      · obtain ⟨b, off, e, _⟩ := hr.cell h0
        cases e
    subst hm
    have hy : ys = [] := List.eq_nil_of_length_eq_zero hr.len
    subst hy
    refine wpList_plain hgd fun K hK => ?_
    have hrun := run_app_nil (P := Try.prog) w base 52 o.type 5 i0 1 Try.underlying52 hi (.slice A n c) n (bs xs) hown.2 c2
    unfold Oper.wp
    simp [execOp, ho, resolve, invoke, builtin, hs, hx, hrun, Result.andThen]
    exact hK _ _ (h A c w (by simpa using hown) hb)
  · refine wpList_append_own w hgd s x 52 ho base 5 i0 (.int .u8 0) 1 1 Try.underlying52 hi hz0 hz1 hz2 rfl (by decide) _ n (bs xs) hs hown.2 ad m c2 (bs ys) hx (by simp [bs, hr.len]) ?_ (bs_one ys) (by unfold maxLen; omega) (by omega) hbase ?_
    · exact Nb.olds hr
    · intro v' w' hown' hgrow _
      obtain ⟨A', c', rfl⟩ := own_shape hown'
      refine h A' c' w' ⟨by simp [hown.1, hr.len], by rw [bs_append]; exact hown'⟩ (hb.grown hgrow hbase fun k hk => (hown.2.lt k hk).1)
theorem join_big {w : World} {B n c : Nat} {A : Option Addr} {xs : List Nat} (h : Nb w B A n c xs) (hn : n ≤ 140737488355328) :
    Calls Try.prog 24 #[.slice A n c, .slice none 0 0] w fun e w' => ∃ A' c', e = .returned (.slice A' n c') ∧ Nb w' w'.heap.size A' n c' xs ∧ (∀ k, blk A' = some k → w.heap.size ≤ k) ∧ RowKit.Below w.heap.size w w' := by
  have HN := Lib.hid h
  have HG := Lib.hid (Gb.nil w w.heap.size)
  have HB := Lib.hid (Below.refl w.heap.size w)
  clear h
  go_enter Try.func24, Try.ntmps24
  go_wp2_with (at_builtin; first
    | (have _t := HG1; refine wpList_app_row_big (w0 := w) (base := w.heap.size) (ys := []) (A2 := none) (m := 0) (c2 := 0) (B := 0) _ rfl _ _ rfl rfl HG1.out rfl (Nb.nil _ 0 0 (by omega) none) (by omega) HB1.out HS.out ?_
       intro A2 c2 w2 hg2 hb2
       simp only [Nat.add_zero, List.append_nil] at hg2
       have HG2 := Lib.hid hg2
       have HB2 := Lib.hid hb2
       clear hg2 hb2)
    | (refine wpList_app_row_big (w0 := w) _ rfl _ _ rfl rfl HG.out rfl HN.out (by omega) HB.out (Nat.le_refl _) ?_
       intro A1 c1 w1 hg1 hb1
       rw [Nat.zero_add, List.nil_append] at hg1
       rw [Nat.zero_add]
       have HG1 := Lib.hid hg1
       have HB1 := Lib.hid hb1
       have HS := Lib.hid hb1.size
       clear hg1 hb1 HG))
  go_ret
  refine ⟨A2, c2, rfl, HG2.out.nb HN.out.lim, fun k hk => ?_, HB2.out⟩
  exact (Gw.blk_lt (w := w2) (cs := bs xs) HG2.out.2 k hk).1
set_option maxHeartbeats 2000000 in
theorem faces_any {w : World} {B n c : Nat} {A : Option Addr} {E : List Fc} (h : Lf w B A n E) (hB : B ≤ w.heap.size) (hn : n ≤ 1000) (hl : ∀ x ∈ E, x.n ≤ 140737488355328) :
    Calls Try.prog 15 #[.slice A n c] w fun e w' => ∃ A' c' E', e = .returned (.slice A' n c') ∧ Gf w' w.heap.size A' n c' E' ∧ E'.map Fc.m = E.map Fc.m ∧ RowKit.Below w.heap.size w w' := by
  have HE := Lib.hid h
  have HL := Lib.hid hl
  have HN := Lib.hid h.1
  have HBw := Lib.hid hB
  clear h hl hB
  go_enter Try.func15, Try.ntmps15
  go_wp2_with fail
  go_loopw [3, 4] (fun v i wr => ∃ j A' c' E', j ≤ n ∧ i = .int .i64 ((j : Nat) : Int) ∧ v = .slice A' j c' ∧ Gf wr w.heap.size A' j c' E' ∧ E'.map Fc.m = (E.take j).map Fc.m ∧ RowKit.Below w.heap.size w wr) (fun _ i _ => (n - (match i with | .int _ z => z.toNat | _ => 0)))
  case atStart => exact ⟨0, none, 0, [], by omega, rfl, rfl, ⟨rfl, Gw.nil _ _ _ _, fun x hx => by cases hx⟩, rfl, Below.refl _ _⟩
  case round =>
    obtain ⟨j, A1, c1, E1, hjn, rfl, rfl, hg, hm, hb⟩ := hrel
    have HG := Lib.hid hg
    have HM := Lib.hid hm
    have HBe := Lib.hid hb
    clear hg hm hb
    by_cases hj : j < n
    · have e1 : (j : Int) < (n : Int) := by omega
      obtain ⟨x, hx⟩ : ∃ x, E[j]? = some x := ⟨_, List.getElem?_eq_getElem (by have := HN.out; omega)⟩
      have hlg := HE.out.below HBe.out HBw.out
      have hxt := (hlg.2.1 x (List.mem_of_getElem? hx))
      rcases hlg.2.2 with he3 | ⟨g, off, hA, hg, hcl⟩
      · omega
      obtain ⟨d0, d1⟩ := hcl j x hx
      have hgr : g < wr.heap.size := Nat.lt_of_lt_of_le hg (Nat.le_trans HBw.out HBe.out.size)
      have HGr := Lib.hid hgr
      have HGw := Lib.hid (show g < w.heap.size from Nat.lt_of_lt_of_le hg HBw.out)
      have HD := Lib.hid (show wr.cell? ⟨g, off + j * 2, none⟩ = some (.int .u32 (x.a : Int)) ∧ wr.cell? ⟨g, off + j * 2 + 1, none⟩ = some (.slice x.A x.n x.c) from ⟨d0, d1⟩)
      have HDk := Lib.hid (fun W' (hb : RowKit.Below wr.heap.size wr W') => (show W'.cell? ⟨g, off + j * 2, none⟩ = some (.int .u32 (x.a : Int)) ∧ W'.cell? ⟨g, off + j * 2 + 1, none⟩ = some (.slice x.A x.n x.c) from ⟨(hb.cell (p := ⟨g, off + j * 2, none⟩) hgr).trans d0, (hb.cell (p := ⟨g, off + j * 2 + 1, none⟩) hgr).trans d1⟩))
      have hxl := HL.out x (List.mem_of_getElem? hx)
      have HX := Lib.hid hx
      have HXl := Lib.hid hxl
      have HXt := Lib.hid hxt
      rw [hA]
      have s0 : wrap64 ((j : Int) + 1) = ((j + 1 : Nat) : Int) := by unfold wrap64; omega
      have HJ := Lib.hid hj
      have HC := Lib.hid (fun W' (hb : RowKit.Below wr.heap.size wr W') => join_big (w := W') (HXt.out.below (hb.mono (Nat.le_trans HBw.out HBe.out.size))) HXl.out)
      clear hcl hx hxl hxt hlg hg hgr
      go_upto_region 5 with fail
      go_region_held3 (fun w' => w'.cell? ⟨g, off + j * 2, none⟩ = some (.int .u32 (x.a : Int)) ∧ w'.cell? ⟨g, off + j * 2 + 1, none⟩ = some (.slice x.A x.n x.c))
        (first | exact HD.out | exact HDk.out _ HB2.out | exact HDk.out _ HB3.out | exact HX4.out)
        (first
          | (go_at_call 24; refine (HC.out _ (Below.refl _ _).drew).mono ?_
             rintro e w2 ⟨A2, c2, rfl, hn2, hk2, hb2⟩
             have HB2 := Lib.hid (((Below.refl wr.heap.size wr).drew).trans hb2)
             have HN2 := Lib.hid hn2
             have HK2 := Lib.hid (show ∀ k, blk A2 = some k → wr.heap.size ≤ k from hk2)
             have HB3 := Lib.hid (HB2.out.alloc HB2.out.size (.cells #[.int .u32 (x.a : Int), .slice A2 x.n c2] 73))
             have HG3 := Lib.hid ((HG.out.keepb HB2.out).keepb ((Below.refl w2.heap.size w2).alloc (Nat.le_refl _) (.cells #[.int .u32 (x.a : Int), .slice A2 x.n c2] 73)))
             have HN3 := Lib.hid ((HN2.out.below ((Below.refl w2.heap.size w2).alloc (Nat.le_refl _) (.cells #[.int .u32 (x.a : Int), .slice A2 x.n c2] 73))).more ((Below.refl w2.heap.size w2).alloc (Nat.le_refl _) (.cells #[.int .u32 (x.a : Int), .slice A2 x.n c2] 73)).size)
             clear hn2 hk2 hb2)
          | (refine wp_push _ (.tmp 11) (.tmp 24) 37 rfl Try.underlying37 i73 rfl (by decide) (by decide) (Fc.cs ⟨x.a, A2, x.n, c2, x.xs⟩) rfl HG3.out.2.1 rfl rfl (heap_alloc_new _ _) (fcs_one _) (by omega) (Nat.le_trans HBe.out.size HB3.out.size) ?_
             intro A4 c4 w4 hg4 hr4
             have hne : x.n = 0 ∨ blk A2 ≠ blk A1 := ne_blk HN3.out HK2.out fun k hk => (HG.out.2.1.blk_lt k hk).2
             have HG4 := Lib.hid (HG3.out.push hr4 (x := ⟨x.a, A2, x.n, c2, x.xs⟩) HN3.out hne hg4)
             have hgA : some g ≠ blk A1 := fun e => by
               have h1 := (HG.out.2.1.blk_lt g e.symm).1
               exact Nat.lt_irrefl _ (Nat.lt_of_lt_of_le HGw.out h1)
             have HX4 := Lib.hid (show w4.cell? ⟨g, off + j * 2, none⟩ = some (.int .u32 (x.a : Int)) ∧ w4.cell? ⟨g, off + j * 2 + 1, none⟩ = some (.slice x.A x.n x.c) from
               ⟨(World.cell?_of_block (a := ⟨g, off + j * 2, none⟩) (hr4.1.block g (Nat.lt_of_lt_of_le HGr.out HB3.out.size) hgA)).trans (HDk.out _ HB3.out).1, (World.cell?_of_block (a := ⟨g, off + j * 2 + 1, none⟩) (hr4.1.block g (Nat.lt_of_lt_of_le HGr.out HB3.out.size) hgA)).trans (HDk.out _ HB3.out).2⟩)
             have HB4 := Lib.hid (show RowKit.Below w.heap.size w w4 from (bthen HBe.out HB3.out (Nat.le_refl _)).grown hr4.1 (Nat.le_trans HBe.out.size HB3.out.size) fun k hk => (HG3.out.2.1.blk_lt k hk).1)
             clear hg4 hr4 hne hgA))
      have HM4 := Lib.hid (show (E1 ++ [(⟨x.a, A2, x.n, c2, x.xs⟩ : Fc)]).map Fc.m = (E.take (j + 1)).map Fc.m by
        rw [List.take_add_one, HX.out, List.map_append, List.map_append, HM.out]; rfl)
      clear d0 d1
      go_wp2_with fail
      exact ⟨⟨j + 1, A4, c4, _, HJ.out, by go_num, rfl, HG4.out, HM4.out, HB4.out⟩, by show n - ((j : Int) + 1).toNat < n - (j : Int).toNat; have := HJ.out; omega⟩
    · have e1' : ((j : Int) < (n : Int)) = False := by simp only [eq_iff_iff, iff_false]; omega
      have hjn2 : j = n := by omega
      subst hjn2
      have HM4 := Lib.hid (show E1.map Fc.m = E.map Fc.m by rw [HM.out, List.take_of_length_le (by have := HN.out; omega)])
      go_wp2_with fail
      go_ret
      exact ⟨A1, c1, E1, rfl, HG.out, HM4.out, HBe.out⟩
end Go.Proofs.Ytompggkdjbkjjaa
