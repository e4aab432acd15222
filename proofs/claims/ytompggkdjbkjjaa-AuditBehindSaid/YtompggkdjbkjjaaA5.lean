/- audit: a log as the program's own. -/
import Derived.Test.YtompggkdjbkjjaaA4
import Derived.StillTailTactics
import Derived.Deep.Cut
namespace Go.Proofs.Ytompggkdjbkjjaa
open Go.RowKit
set_option linter.unusedVariables false
set_option maxRecDepth 100000
/-- an event in a box of its own (t: its type) -/
def EBox (w : World) (g t : Nat) (x : Ev) : Prop := w.heap[g]? = some (.cells #[.int .i64 x.k, .int .u32 (x.h : Int), .int .u32 (x.p : Int), .int .i64 x.at_, .slice x.A x.n x.c] t (0, 0))
theorem EBox.lt {w : World} {g t : Nat} {x : Ev} (h : EBox w g t x) : g < w.heap.size := (Array.getElem?_eq_some_iff.1 h).1
theorem EBox.below {w w' : World} {g t : Nat} {x : Ev} (h : EBox w g t x) (b : RowKit.Below w.heap.size w w') : EBox w' g t x := (b.block g h.lt).trans h
theorem EBox.cells {w : World} {g t : Nat} {x : Ev} (h : EBox w g t x) : w.cell? ⟨g, 0, none⟩ = some (.int .i64 x.k) ∧ w.cell? ⟨g, 1, none⟩ = some (.int .u32 (x.h : Int)) ∧ w.cell? ⟨g, 2, none⟩ = some (.int .u32 (x.p : Int)) ∧ w.cell? ⟨g, 3, none⟩ = some (.int .i64 x.at_) ∧ w.cell? ⟨g, 4, none⟩ = some (.slice x.A x.n x.c) := by
  have h' : w.heap[g]? = _ := h
  refine ⟨?_, ?_, ?_, ?_, ?_⟩ <;> simp [World.cell?, h']
theorem EBox.new (w : World) (t : Nat) (x : Ev) : EBox (w.alloc (.cells #[.int .i64 x.k, .int .u32 (x.h : Int), .int .u32 (x.p : Int), .int .i64 x.at_, .slice x.A x.n x.c] t)) w.heap.size t x := heap_alloc_new w _
theorem cs_one (x : Ev) : ∀ u ∈ x.cs, u.oneCell' = true := by
  intro u hu
  simp [Ev.cs] at hu
  rcases hu with rfl | rfl | rfl | rfl | rfl <;> rfl
theorem ne_blk {w : World} {B n c L : Nat} {A A1 : Option Addr} {xs : List Nat} (h : Nb w B A n c xs) (h1 : ∀ k, blk A = some k → L ≤ k) (h2 : ∀ k, blk A1 = some k → k < L) : n = 0 ∨ blk A ≠ blk A1 := by
  rcases Nat.eq_zero_or_pos n with h0 | h0
  · exact .inl h0
  · refine .inr fun e => ?_
    obtain ⟨k, hk, _⟩ := h.blk_lt h0
    have a1 := h1 k hk
    have a2 := h2 k (e ▸ hk)
    omega
set_option maxHeartbeats 2000000 in
theorem own_any {w : World} {B n c : Nat} {A : Option Addr} {E : List Ev} (h : Lg w B A n E) (hB : B ≤ w.heap.size) (hn : n ≤ 1000) (hl : ∀ x ∈ E, x.n ≤ 1073741824) :
    Calls Try.prog 12 #[.slice A n c] w fun e w' => ∃ A' c' E', e = .returned (.slice A' n c') ∧ Ge w' w.heap.size A' n c' E' ∧ E'.map Ev.m = E.map Ev.m ∧ RowKit.Below w.heap.size w w' := by
  have HE := Lib.hid h
  have HL := Lib.hid hl
  have HN := Lib.hid h.1
  have HBw := Lib.hid hB
  clear h hl hB
  go_enter Try.func12, Try.ntmps12
  go_wp2_with fail
  go_loopw [3, 4] (fun v i wr => ∃ j A' c' E', j ≤ n ∧ i = .int .i64 ((j : Nat) : Int) ∧ v = .slice A' j c' ∧ Ge wr w.heap.size A' j c' E' ∧ E'.map Ev.m = (E.take j).map Ev.m ∧ RowKit.Below w.heap.size w wr) (fun _ i _ => (n - (match i with | .int _ z => z.toNat | _ => 0)))
  case atStart => exact ⟨0, none, 0, [], by omega, rfl, rfl, ⟨rfl, Gw.nil _ _ _ _, fun x hx => by cases hx⟩, rfl, Below.refl _ _⟩
  case round =>
    obtain ⟨j, A1, c1, E1, hjn, rfl, rfl, hg, hm, hb⟩ := hrel
    have HG := Lib.hid hg
    have HM := Lib.hid hm
    have HBe := Lib.hid hb
    clear hg hm hb
    by_cases hj : j < n
    · have e1 : (j : Int) < (n : Int) := by omega
      obtain ⟨x, hx⟩ : ∃ x, E[j]? = some x := ⟨_, List.getElem?_eq_getElem (by have := HN.out; omega)⟩
      have hlg := HE.out.below HBe.out HBw.out
      have hxt := (hlg.2.1 x (List.mem_of_getElem? hx))
      rcases hlg.2.2 with he3 | ⟨g, off, hA, hg, hcl⟩
      · omega
      obtain ⟨d0, d1, d2, d3, d4⟩ := hcl j x hx
      have hxl := HL.out x (List.mem_of_getElem? hx)
      have HX := Lib.hid hx
      have HXl := Lib.hid hxl
      have HXt := Lib.hid hxt
      rw [hA]
      have s0 : wrap64 ((j : Int) + 1) = ((j + 1 : Nat) : Int) := by unfold wrap64; omega
      have HJ := Lib.hid hj
      obtain ⟨wa, hwa⟩ : ∃ wa, wa = wr.alloc (.cells #[.int .i64 x.k, .int .u32 (x.h : Int), .int .u32 (x.p : Int), .int .i64 x.at_, .slice x.A x.n x.c] 54) := ⟨_, rfl⟩
      have hbx : RowKit.Below wr.heap.size wr wa := by rw [hwa]; exact (Below.refl _ _).alloc (Nat.le_refl _) _
      have HAl := Lib.hid (show EBox wa wr.heap.size 54 x by rw [hwa]; exact EBox.new wr 54 x)
      have HBa := Lib.hid (bthen HBe.out hbx (Nat.le_refl _))
      have HGa := Lib.hid (HG.out.keepb hbx)
      have HC := Lib.hid (fun W' (hb : RowKit.Below wa.heap.size wa W') => join_any (w := W') ((HXt.out.below (hbx.mono (Nat.le_trans HBw.out HBe.out.size))).below (hb.mono (Nat.le_trans HBw.out HBa.out.size))) HXl.out)
      have HWa := Lib.hid hwa
      clear hcl hx hxl hxt hlg hg hj hbx hwa
      obtain ⟨b0, b1, b2, b3, b4⟩ := HAl.out.cells
      go_upto_region 6 with fail
      rw [← HWa.out]
      go_region_held3 (fun w' => w'.cell? ⟨wr.heap.size, 0, none⟩ = some (.int .i64 x.k) ∧ w'.cell? ⟨wr.heap.size, 1, none⟩ = some (.int .u32 (x.h : Int)) ∧ w'.cell? ⟨wr.heap.size, 2, none⟩ = some (.int .u32 (x.p : Int)) ∧ w'.cell? ⟨wr.heap.size, 3, none⟩ = some (.int .i64 x.at_) ∧ w'.cell? ⟨wr.heap.size, 4, none⟩ = some (.slice x.A x.n x.c))
        (first | exact ⟨b0, b1, b2, b3, b4⟩ | exact HAl.out.cells | exact (HAl.out.below HB2.out).cells | exact (HAl.out.below HB3.out).cells | exact HX4.out.cells)
        (first
          | (go_at_call 24; refine (HC.out _ (Below.refl _ _).drew).mono ?_
             rintro e w2 ⟨A2, c2, rfl, hn2, hk2, hb2⟩
             have HB2 := Lib.hid (((Below.refl wa.heap.size wa).drew).trans hb2)
             have HN2 := Lib.hid hn2
             have HK2 := Lib.hid (show ∀ k, blk A2 = some k → wa.heap.size ≤ k from hk2)
             have HB3 := Lib.hid (HB2.out.alloc HB2.out.size (.cells #[.int .i64 x.k, .int .u32 (x.h : Int), .int .u32 (x.p : Int), .int .i64 x.at_, .slice A2 x.n c2] 58))
             have HG3 := Lib.hid ((HGa.out.keepb HB2.out).keepb ((Below.refl w2.heap.size w2).alloc (Nat.le_refl _) (.cells #[.int .i64 x.k, .int .u32 (x.h : Int), .int .u32 (x.p : Int), .int .i64 x.at_, .slice A2 x.n c2] 58)))
             have HN3 := Lib.hid ((HN2.out.below ((Below.refl w2.heap.size w2).alloc (Nat.le_refl _) (.cells #[.int .i64 x.k, .int .u32 (x.h : Int), .int .u32 (x.p : Int), .int .i64 x.at_, .slice A2 x.n c2] 58))).more ((Below.refl w2.heap.size w2).alloc (Nat.le_refl _) (.cells #[.int .i64 x.k, .int .u32 (x.h : Int), .int .u32 (x.p : Int), .int .i64 x.at_, .slice A2 x.n c2] 58)).size)
             clear hn2 hk2 hb2)
          | (refine wp_push _ (.tmp 16) (.tmp 29) 28 rfl Try.underlying28 i58 rfl (by decide) (by decide) (Ev.cs ⟨x.k, x.h, x.p, x.at_, A2, x.n, c2, x.xs⟩) rfl HG3.out.2.1 rfl rfl (heap_alloc_new _ _) (cs_one _) (by omega) (Nat.le_trans HBa.out.size HB3.out.size) ?_
             intro A4 c4 w4 hg4 hr4
             have hne : x.n = 0 ∨ blk A2 ≠ blk A1 := ne_blk HN3.out HK2.out fun k hk => (HGa.out.2.1.blk_lt k hk).2
             have HG4 := Lib.hid (HG3.out.push hr4 (x := ⟨x.k, x.h, x.p, x.at_, A2, x.n, c2, x.xs⟩) HN3.out hne hg4)
             have HX4 := Lib.hid (show EBox w4 wr.heap.size 54 x from (hr4.1.block _ (HAl.out.below HB3.out).lt (fun e => Nat.lt_irrefl _ (HG.out.2.1.blk_lt _ e.symm).2)).trans (HAl.out.below HB3.out))
             have HR4 := Lib.hid hr4
             have HB4 := Lib.hid (show RowKit.Below w.heap.size w w4 from (bthen HBa.out HB3.out (Nat.le_refl _)).grown hr4.1 (Nat.le_trans HBa.out.size HB3.out.size) fun k hk => (HG3.out.2.1.blk_lt k hk).1)
             clear hg4 hr4 hne))
      have HM4 := Lib.hid (show (E1 ++ [(⟨x.k, x.h, x.p, x.at_, A2, x.n, c2, x.xs⟩ : Ev)]).map Ev.m = (E.take (j + 1)).map Ev.m by
        rw [List.take_add_one, HX.out, List.map_append, List.map_append, HM.out]; rfl)
      clear b0 b1 b2 b3 b4 d0 d1 d2 d3 d4
      go_wp2_with fail
      exact ⟨⟨j + 1, A4, c4, _, HJ.out, by go_num, rfl, HG4.out, HM4.out, HB4.out⟩, by show n - ((j : Int) + 1).toNat < n - (j : Int).toNat; have := HJ.out; omega⟩
    · have e1' : ((j : Int) < (n : Int)) = False := by simp only [eq_iff_iff, iff_false]; omega
      have hjn2 : j = n := by omega
      subst hjn2
      have HM4 := Lib.hid (show E1.map Ev.m = E.map Ev.m by rw [HM.out, List.take_of_length_le (by have := HN.out; omega)])
      go_wp2_with fail
      go_ret
      exact ⟨A1, c1, E1, rfl, HG.out, HM4.out, HBe.out⟩
end Go.Proofs.Ytompggkdjbkjjaa
