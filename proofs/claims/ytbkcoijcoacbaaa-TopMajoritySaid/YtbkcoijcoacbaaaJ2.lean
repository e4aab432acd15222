/- top08: TopMajority's walk. -/
import Derived.Test.YtbkcoijcoacbaaaJ1
import Derived.Deep.Cut
namespace Go.Proofs.Ytbkcoijcoacbaaa
open Go.RowKit
set_option maxRecDepth 100000
set_option linter.unusedVariables false
theorem one_span (w : World) (s : Ch.Sp) : Ch.Rs (w.alloc (.cells #[.int .i64 s.lo, .int .i64 s.mid, .int .i64 s.hi] 28)) (w.alloc (.cells #[.int .i64 s.lo, .int .i64 s.mid, .int .i64 s.hi] 28)).heap.size (some ⟨w.heap.size, 0, none⟩) 1 [s] := by
  have h := World.alloc_heap_new w (.cells #[.int .i64 s.lo, .int .i64 s.mid, .int .i64 s.hi] 28)
  refine ⟨rfl, .inr ⟨w.heap.size, 0, rfl, (Array.getElem?_eq_some_iff.1 h).1, fun i z hz => ?_⟩⟩
  have hi : i = 0 := by
    have := (List.getElem?_eq_some_iff.1 hz).1
    have e : [s].length = 1 := rfl
    omega
  subst hi
  cases hz
  simp only [World.cell?, h]
  exact ⟨rfl, rfl, rfl⟩
set_option maxHeartbeats 8000000 in
theorem major_law {w : World} {n c m d : Nat} {A A2 : Option Addr} {wy ly : List Ch.Sp} (h : Ch.Rs w w.heap.size A n wy) (h2 : Ch.Rs w w.heap.size A2 m ly) (hn : n ≤ 140737488355328) (hm : m ≤ 140737488355328) (t o : Int) :
    Calls Try.prog 3 #[.int .u64 t, .int .i64 o, .slice A n c, .slice A2 m d] w fun e w' => e = .returned (.bool true) ∧ RowKit.Below w.heap.size w w' := by
  have HA := Lib.hid h
  have HB := Lib.hid h2
  clear h h2
  have e0 : wrap64 ((n : Int) + (m : Int)) = (n : Int) + m := by unfold wrap64; omega
  go_enter Try.func3, Try.ntmps3
  by_cases e1 : 64 < (n : Int) + (m : Int)
  case pos =>
    go_wp2_with fail
    refine (alive_any _).mono ?_
    rintro e w2 ⟨rfl, h5⟩
    have H5 := Lib.hid h5
    clear h5
    go_wp2_with fail
    go_ret
    exact ⟨rfl, H5.out⟩
  have e1' : (64 < (n : Int) + (m : Int)) = False := by simp only [e1]
  by_cases e2 : (n : Int) ≤ (m : Int)
  case pos =>
    go_wp2_with fail
    refine (alive_any _).mono ?_
    rintro e w2 ⟨rfl, h5⟩
    have H5 := Lib.hid h5
    clear h5
    go_wp2_with fail
    go_ret
    exact ⟨rfl, H5.out⟩
  have e2' : ((n : Int) ≤ (m : Int)) = False := by simp only [e2]
  go_wp2_with fail
  refine (near_any _ _).mono ?_
  rintro e w ⟨rfl, rfl⟩
  obtain ⟨O, hO⟩ : ∃ O, O = o.tmod 68719476736 := ⟨_, rfl⟩
  have HO := Lib.hid (show -68719476736 < O ∧ O < 68719476736 from hO ▸ tmod36 o)
  rw [← hO]
  clear hO
  go_wp2_with fail
  go_loopw [9, 10] (fun l i wr => ∃ (j : Nat) (A1 : Option Addr) (c1 : Nat), j ≤ m ∧ i = .int .i64 (j : Int) ∧ l = .slice A1 j c1 ∧ Ch.Gp wr w.heap.size A1 j c1 (ly.take j) ∧ Ch.AllMay (ly.take j) ∧ RowKit.Below w.heap.size w wr) (fun l i _ => (m - (match i with | .int _ z => z.toNat | _ => 0)))
  case atStart => exact ⟨0, none, 0, by omega, rfl, rfl, Ch.Gp.nil _ _, (by intro s hs; simp at hs), Below.refl _ _⟩
  case round =>
    obtain ⟨j, A1, c1, hjm, rfl, rfl, hG, hAM, hBl⟩ := hrel
    have HG := Lib.hid hG
    have HAM := Lib.hid hAM
    have HBl := Lib.hid hBl
    clear hG hAM hBl
    have hlb := HB.out.1
    by_cases e4 : (j : Int) < (m : Int)
    · obtain ⟨s, hs⟩ : ∃ z, ly[j]? = some z := ⟨_, List.getElem?_eq_getElem (by omega)⟩
      obtain ⟨g, off, rfl, hg, hc⟩ := HB.out.cells (by omega)
      obtain ⟨k0, k1, k2⟩ := hc wr HBl.out j s hs
      have HS := Lib.hid hs
      clear hc hs
      by_cases b1 : s.mid < s.lo
      · go_wp2_with fail
        refine (alive_any _).mono ?_
        rintro e w2 ⟨rfl, h5⟩
        have H5 := Lib.hid h5
        clear h5
        go_wp2_with fail
        go_ret
        exact ⟨rfl, bthen HBl.out (bthen (((Below.refl _ _).alloc (Nat.le_refl _) _)) (H5.out.mono (Nat.le_refl _)) (Nat.le_refl _)) (Nat.le_refl _)⟩
      · by_cases b2 : s.hi < s.mid
        · have b1' : (s.mid < s.lo) = False := by simp only [b1]
          go_wp2_with fail
          refine (alive_any _).mono ?_
          rintro e w2 ⟨rfl, h5⟩
          have H5 := Lib.hid h5
          clear h5
          go_wp2_with fail
          go_ret
          exact ⟨rfl, bthen HBl.out (bthen (((Below.refl _ _).alloc (Nat.le_refl _) _)) (H5.out.mono (Nat.le_refl _)) (Nat.le_refl _)) (Nat.le_refl _)⟩
        · have b1' : (s.mid < s.lo) = False := by simp only [b1]
          have b2' : (s.hi < s.mid) = False := by simp only [b2]
          have HMY := Lib.hid (show s.may from ⟨by omega, by omega⟩)
          have es : (wr.alloc (.cells #[.int .i64 s.lo, .int .i64 s.mid, .int .i64 s.hi] 28)).heap.size = wr.heap.size + 1 := by show (wr.heap.push _).size = _; simp
          have HG3 := Lib.hid (show Ch.Gp ((wr.alloc (.cells #[.int .i64 s.lo, .int .i64 s.mid, .int .i64 s.hi] 28)).alloc (.cells #[.int .i64 s.lo, .int .i64 s.mid, .int .i64 s.hi] 28)) w.heap.size A1 j c1 (ly.take j) from (HG.out.kept (World.grownBy_alloc _ _ none) (by cases Ch.blk A1 <;> simp)).kept (World.grownBy_alloc _ _ none) (by cases Ch.blk A1 <;> simp))
          have HB3 := Lib.hid (show RowKit.Below w.heap.size w ((wr.alloc (.cells #[.int .i64 s.lo, .int .i64 s.mid, .int .i64 s.hi] 28)).alloc (.cells #[.int .i64 s.lo, .int .i64 s.mid, .int .i64 s.hi] 28)) from (HBl.out.alloc HBl.out.size _).alloc (HBl.out.alloc HBl.out.size _).size _)
          have HR3 := Lib.hid (show Ch.Rs ((wr.alloc (.cells #[.int .i64 s.lo, .int .i64 s.mid, .int .i64 s.hi] 28)).alloc (.cells #[.int .i64 s.lo, .int .i64 s.mid, .int .i64 s.hi] 28)) ((wr.alloc (.cells #[.int .i64 s.lo, .int .i64 s.mid, .int .i64 s.hi] 28)).alloc (.cells #[.int .i64 s.lo, .int .i64 s.mid, .int .i64 s.hi] 28)).heap.size (some ⟨wr.heap.size + 1, 0, none⟩) 1 [s] by rw [← es]; exact one_span _ s)
          clear es
          go_wp2_with (at_builtin; go_loud (refine Ch.wpList_app_r _ rfl (.tmp 59) (.tmp 61) rfl rfl HG3.out rfl HR3.out (by omega) HB3.out.size ?_; intro Ax cx w4 hg1 hk1 hat1))
          have e9 : ly.take (j + 1) = ly.take j ++ [s] := by rw [List.take_add_one, HS.out]; rfl
          refine ⟨⟨j + 1, Ax, cx, by omega, rfl, rfl, by rw [e9]; exact hg1, ?_, HB3.out.grown hk1 HB3.out.size fun k hk => (HG3.out.lt k hk).1⟩, by show m - ((j : Int) + 1).toNat < m - (j : Int).toNat; omega⟩
          rw [e9]
          intro z hz
          rcases List.mem_append.1 hz with r | r
          · exact HAM.out z r
          · rw [List.mem_singleton] at r; rw [r]; exact HMY.out
    · have e4' : ((j : Int) < (m : Int)) = False := by simp only [e4]
      have hj : j = m := by omega
      subst hj
      have hg := HG.out
      have ham := HAM.out
      rw [List.take_of_length_le (by omega)] at hg ham
      have HG0 := Lib.hid hg
      have HAM0 := Lib.hid ham
      clear hg ham HG HAM hlb e4 e4' hjm HB
      go_wp2_with fail
      go_loopw [9, 12] (fun l i wq => ∃ (q : Nat) (A1 : Option Addr) (c1 : Nat) (L : List Ch.Sp), q ≤ n ∧ i = .int .i64 (q : Int) ∧ l = .slice A1 (j + q) c1 ∧ L.length = q ∧ Ch.Gp wq w.heap.size A1 (j + q) c1 (ly ++ L) ∧ (∀ z ∈ L, z.may ∧ z.has O) ∧ RowKit.Below w.heap.size w wq) (fun l i _ => (n - (match i with | .int _ z => z.toNat | _ => 0)))
      case atStart => exact ⟨0, A1, c1, [], by omega, rfl, rfl, rfl, by rw [List.append_nil]; exact HG0.out, (by intro z hz; simp at hz), HBl.out⟩
      case round =>
        obtain ⟨q, A3, c3, L, hqn, rfl, rfl, hLl, hG, hGL, hBl⟩ := hrel
        have HG := Lib.hid hG
        have HGL := Lib.hid hGL
        have HBq := Lib.hid hBl
        have HLl := Lib.hid hLl
        clear hG hGL hBl hLl
        by_cases e4 : (q : Int) < (n : Int)
        · go_wp2_with fail
          refine (Fi.new_any _).mono ?_
          rintro e w1 ⟨rfl, hF, hw1⟩
          obtain ⟨g, hg⟩ : ∃ g, g = wr.heap.size := ⟨_, rfl⟩
          have hB1 : RowKit.Below w.heap.size w w1 := by rw [hw1]; exact HBq.out.alloc HBq.out.size _
          have hG1 : Ch.Gp w1 w.heap.size A3 (j + q) c3 (ly ++ L) := by rw [hw1]; exact HG.out.kept (World.grownBy_alloc _ _ none) (by cases Ch.blk A3 <;> simp)
          have hne : Ch.blk A3 = none ∨ Ch.blk A3 ≠ some g := by
            cases hb : Ch.blk A3 with
            | none => exact .inl rfl
            | some k => right; intro r; cases r; have := (HG.out.lt _ hb).2; omega
          have hgb : w.heap.size ≤ g := by rw [hg]; exact HBq.out.size
          rw [← hg] at hF ⊢
          have HF1 := Lib.hid hF
          have HB1 := Lib.hid hB1
          have HG1 := Lib.hid hG1
          have HNE := Lib.hid hne
          have HGB := Lib.hid hgb
          clear hg hw1 hF hB1 hG1 hne hgb HG HBq
          go_wp2_with fail
          go_loopw [14] (fun k wi => ∃ (p : Nat) (Lf : List Fi.S4), p ≤ q + 1 ∧ p ≤ 3 ∧ k = .int .i64 (p : Int) ∧ Fi.Flt wi g Lf ∧ (∀ z ∈ Lf, good O z) ∧ (0 < p → Lf ≠ []) ∧ Ch.Gp wi w.heap.size A3 (j + q) c3 (ly ++ L) ∧ RowKit.Below w.heap.size w wi) (fun k _ => (3 - (match k with | .int _ z => z.toNat | _ => 0)))
          case atStart => exact ⟨0, [], by omega, by omega, rfl, HF1.out, (by intro z hz; simp at hz), fun h => by omega, HG1.out, HB1.out⟩
          case round =>
            obtain ⟨p, Lf, hp1, hp3, rfl, hF, hGo, hNe, hG, hBl⟩ := hrel
            have HF := Lib.hid hF
            have HGo := Lib.hid hGo
            have HNe := Lib.hid hNe
            have HG := Lib.hid hG
            have HBi := Lib.hid hBl
            clear hF hGo hNe hG hBl
            by_cases e5 : (p : Int) ≤ (q : Int)
            · by_cases e6 : (p : Int) < 3
              · obtain ⟨s, hs⟩ : ∃ z, wy[q - p]? = some z := ⟨_, List.getElem?_eq_getElem (by have := HA.out.1; omega)⟩
                obtain ⟨ga, off, rfl, hga, hc⟩ := HA.out.cells (by omega)
                obtain ⟨k0, k1, k2⟩ := hc wr HBi.out (q - p) s hs
                have u1 : wrap64 ((q : Int) - (p : Int)) = ((q - p : Nat) : Int) := by unfold wrap64; omega
                have i1 : ((q - p : Nat) : Int) < (n : Int) := by omega
                have i0 : (0 : Int) ≤ ((q - p : Nat) : Int) := by omega
                clear hs hc
                obtain ⟨S, hS⟩ : ∃ S : Fi.S4, S = ⟨(2 * O + s.lo % 68719476736 - s.hi % 68719476736) / 2, s.lo % 68719476736 + s.hi % 68719476736, 0, 0⟩ := ⟨_, rfl⟩
                have hgd : good O S := by rw [hS]; exact good_ex O s.lo s.hi (by have := HO.out; omega) (by have := HO.out; omega)
                have HGD := Lib.hid hgd
                have HSM := Lib.hid (show ∀ w, Calls Try.prog 10 #[.int .u64 t, .int .i64 O, .agg #[.int .i64 s.lo, .int .i64 s.mid, .int .i64 s.hi]] w fun e w' => e = .returned (.agg #[.int .i64 S.o, .int .i64 S.d, .int .i64 S.p, .int .i64 S.a]) ∧ RowKit.Below w.heap.size w w' by
                  intro w; rw [hS]; exact sample_any t O s.lo s.mid s.hi (by have := HO.out; omega) (by have := HO.out; omega) w)
                clear hS hgd
                go_wp2_with fail
                refine (HSM.out _).mono ?_
                rintro e w2 ⟨rfl, b2⟩
                have HF2 := Lib.hid (show Fi.Flt w2 g Lf from HF.out.below b2 HF.out.lt)
                have HG2 := Lib.hid (HG.out.below b2)
                have HB2 := Lib.hid (bthen HBi.out b2 (Nat.le_refl _))
                have HAD := Fi.add_any HGD.out.may HF2.out
                unfold Fi.S4.val at HAD
                have HAD2 := Lib.hid HAD
                clear b2 HAD HF HG HBi HSM k0 k1 k2
                go_wp2_with fail
                refine HAD2.out.mono ?_
                rintro e w3 ⟨rfl, hF3, hk3⟩
                have HF3 := Lib.hid hF3
                have HG3 := Lib.hid (HG2.out.kept hk3 HNE.out)
                have HB3 := Lib.hid (HB2.out.grown hk3 HB2.out.size fun k hk => by cases hk; exact HGB.out)
                clear hF3 hk3 HAD2 HF2 HG2 HB2
                go_wp2_with fail
                exact ⟨⟨p + 1, Fi.push S Lf, by omega, by omega, rfl, HF3.out, good_push HGD.out HGo.out, fun _ => push_ne _ _, HG3.out, HB3.out⟩, by show 3 - ((p : Int) + 1).toNat < 3 - (p : Int).toNat; omega⟩
              · have e6' : ((p : Int) < 3) = False := by simp only [e6]
                have HL := Lib.hid (HNe.out (by omega))
                have HBE := Fi.best_any (w := wr) (p := some ⟨g, 0, none⟩) (L := Lf) 0 (.inr ⟨g, rfl, HF.out⟩)
                rw [if_neg HL.out] at HBE
                have hgd := good_head HL.out HGo.out
                obtain ⟨S, hS⟩ : ∃ S, S = Fi.headS (Fi.sorted 0 Lf) := ⟨_, rfl⟩
                rw [← hS] at HBE hgd
                unfold Fi.S4.val at HBE
                have HBE2 := Lib.hid HBE
                have HGD := Lib.hid hgd
                have a1 : wrap64 (S.o - S.d) = S.o - S.d := by have := HGD.out; unfold good at this; unfold wrap64; omega
                have a2 : wrap64 (S.o - S.d - 1) = S.o - S.d - 1 := by have := HGD.out; unfold good at this; unfold wrap64; omega
                have a3 : wrap64 (S.o + S.d) = S.o + S.d := by have := HGD.out; unfold good at this; unfold wrap64; omega
                have a4 : wrap64 (S.o + S.d + 1) = S.o + S.d + 1 := by have := HGD.out; unfold good at this; unfold wrap64; omega
                clear HBE hgd hS HNe HGo
                go_wp2_with fail
                refine HBE2.out.mono ?_
                rintro e w2 ⟨rfl, b2⟩
                have HG2 := Lib.hid (HG.out.below b2)
                have HB2 := Lib.hid (bthen HBi.out b2 (Nat.le_refl _))
                clear b2 HBE2 HG HBi HF
                have es : (w2.alloc (.cells #[.int .i64 S.o, .int .i64 S.d, .int .i64 S.p, .int .i64 S.a] 34)).heap.size = w2.heap.size + 1 := by show (w2.heap.push _).size = _; simp
                have HG3 := Lib.hid (show Ch.Gp ((w2.alloc (.cells #[.int .i64 S.o, .int .i64 S.d, .int .i64 S.p, .int .i64 S.a] 34)).alloc (.cells #[.int .i64 (S.o - S.d - 1), .int .i64 S.o, .int .i64 (S.o + S.d + 1)] 28)) w.heap.size A3 (j + q) c3 (ly ++ L) from (HG2.out.kept (World.grownBy_alloc _ _ none) (by cases Ch.blk A3 <;> simp)).kept (World.grownBy_alloc _ _ none) (by cases Ch.blk A3 <;> simp))
                have HB3 := Lib.hid (show RowKit.Below w.heap.size w ((w2.alloc (.cells #[.int .i64 S.o, .int .i64 S.d, .int .i64 S.p, .int .i64 S.a] 34)).alloc (.cells #[.int .i64 (S.o - S.d - 1), .int .i64 S.o, .int .i64 (S.o + S.d + 1)] 28)) from (HB2.out.alloc HB2.out.size _).alloc (HB2.out.alloc HB2.out.size _).size _)
                have HR3 := Lib.hid (show Ch.Rs ((w2.alloc (.cells #[.int .i64 S.o, .int .i64 S.d, .int .i64 S.p, .int .i64 S.a] 34)).alloc (.cells #[.int .i64 (S.o - S.d - 1), .int .i64 S.o, .int .i64 (S.o + S.d + 1)] 28)) ((w2.alloc (.cells #[.int .i64 S.o, .int .i64 S.d, .int .i64 S.p, .int .i64 S.a] 34)).alloc (.cells #[.int .i64 (S.o - S.d - 1), .int .i64 S.o, .int .i64 (S.o + S.d + 1)] 28)).heap.size (some ⟨w2.heap.size + 1, 0, none⟩) 1 [⟨S.o - S.d - 1, S.o, S.o + S.d + 1⟩] by rw [← es]; exact one_span _ ⟨S.o - S.d - 1, S.o, S.o + S.d + 1⟩)
                clear es
                go_wp2_with (at_builtin; go_loud (refine Ch.wpList_app_r _ rfl (.tmp 98) (.tmp 114) rfl rfl HG3.out rfl HR3.out (by omega) HB3.out.size ?_; intro Ax cx w4 hg1 hk1 hat1))
                refine ⟨⟨q + 1, Ax, cx, L ++ [⟨S.o - S.d - 1, S.o, S.o + S.d + 1⟩], by omega, rfl, rfl, by rw [List.length_append, HLl.out]; rfl, by rw [← List.append_assoc]; exact hg1, ?_, HB3.out.grown hk1 HB3.out.size fun k hk => (HG3.out.lt k hk).1⟩, by show n - ((q : Int) + 1).toNat < n - (q : Int).toNat; omega⟩
                intro z hz
                rcases List.mem_append.1 hz with r | r
                · exact HGL.out z r
                · rw [List.mem_singleton] at r
                  rw [r]
                  have := HGD.out
                  unfold good at this
                  unfold Ch.Sp.may Ch.Sp.has
                  dsimp only
                  omega
            · have e5' : ((p : Int) ≤ (q : Int)) = False := by simp only [e5]
              have HL := Lib.hid (HNe.out (by omega))
              have HBE := Fi.best_any (w := wr) (p := some ⟨g, 0, none⟩) (L := Lf) 0 (.inr ⟨g, rfl, HF.out⟩)
              rw [if_neg HL.out] at HBE
              have hgd := good_head HL.out HGo.out
              obtain ⟨S, hS⟩ : ∃ S, S = Fi.headS (Fi.sorted 0 Lf) := ⟨_, rfl⟩
              rw [← hS] at HBE hgd
              unfold Fi.S4.val at HBE
              have HBE2 := Lib.hid HBE
              have HGD := Lib.hid hgd
              have a1 : wrap64 (S.o - S.d) = S.o - S.d := by have := HGD.out; unfold good at this; unfold wrap64; omega
              have a2 : wrap64 (S.o - S.d - 1) = S.o - S.d - 1 := by have := HGD.out; unfold good at this; unfold wrap64; omega
              have a3 : wrap64 (S.o + S.d) = S.o + S.d := by have := HGD.out; unfold good at this; unfold wrap64; omega
              have a4 : wrap64 (S.o + S.d + 1) = S.o + S.d + 1 := by have := HGD.out; unfold good at this; unfold wrap64; omega
              clear HBE hgd hS HNe HGo
              go_wp2_with fail
              refine HBE2.out.mono ?_
              rintro e w2 ⟨rfl, b2⟩
              have HG2 := Lib.hid (HG.out.below b2)
              have HB2 := Lib.hid (bthen HBi.out b2 (Nat.le_refl _))
              clear b2 HBE2 HG HBi HF
              have es : (w2.alloc (.cells #[.int .i64 S.o, .int .i64 S.d, .int .i64 S.p, .int .i64 S.a] 34)).heap.size = w2.heap.size + 1 := by show (w2.heap.push _).size = _; simp
              have HG3 := Lib.hid (show Ch.Gp ((w2.alloc (.cells #[.int .i64 S.o, .int .i64 S.d, .int .i64 S.p, .int .i64 S.a] 34)).alloc (.cells #[.int .i64 (S.o - S.d - 1), .int .i64 S.o, .int .i64 (S.o + S.d + 1)] 28)) w.heap.size A3 (j + q) c3 (ly ++ L) from (HG2.out.kept (World.grownBy_alloc _ _ none) (by cases Ch.blk A3 <;> simp)).kept (World.grownBy_alloc _ _ none) (by cases Ch.blk A3 <;> simp))
              have HB3 := Lib.hid (show RowKit.Below w.heap.size w ((w2.alloc (.cells #[.int .i64 S.o, .int .i64 S.d, .int .i64 S.p, .int .i64 S.a] 34)).alloc (.cells #[.int .i64 (S.o - S.d - 1), .int .i64 S.o, .int .i64 (S.o + S.d + 1)] 28)) from (HB2.out.alloc HB2.out.size _).alloc (HB2.out.alloc HB2.out.size _).size _)
              have HR3 := Lib.hid (show Ch.Rs ((w2.alloc (.cells #[.int .i64 S.o, .int .i64 S.d, .int .i64 S.p, .int .i64 S.a] 34)).alloc (.cells #[.int .i64 (S.o - S.d - 1), .int .i64 S.o, .int .i64 (S.o + S.d + 1)] 28)) ((w2.alloc (.cells #[.int .i64 S.o, .int .i64 S.d, .int .i64 S.p, .int .i64 S.a] 34)).alloc (.cells #[.int .i64 (S.o - S.d - 1), .int .i64 S.o, .int .i64 (S.o + S.d + 1)] 28)).heap.size (some ⟨w2.heap.size + 1, 0, none⟩) 1 [⟨S.o - S.d - 1, S.o, S.o + S.d + 1⟩] by rw [← es]; exact one_span _ ⟨S.o - S.d - 1, S.o, S.o + S.d + 1⟩)
              clear es
              go_wp2_with (at_builtin; go_loud (refine Ch.wpList_app_r _ rfl (.tmp 98) (.tmp 114) rfl rfl HG3.out rfl HR3.out (by omega) HB3.out.size ?_; intro Ax cx w4 hg1 hk1 hat1))
              refine ⟨⟨q + 1, Ax, cx, L ++ [⟨S.o - S.d - 1, S.o, S.o + S.d + 1⟩], by omega, rfl, rfl, by rw [List.length_append, HLl.out]; rfl, by rw [← List.append_assoc]; exact hg1, ?_, HB3.out.grown hk1 HB3.out.size fun k hk => (HG3.out.lt k hk).1⟩, by show n - ((q : Int) + 1).toNat < n - (q : Int).toNat; omega⟩
              intro z hz
              rcases List.mem_append.1 hz with r | r
              · exact HGL.out z r
              · rw [List.mem_singleton] at r
                rw [r]
                have := HGD.out
                unfold good at this
                unfold Ch.Sp.may Ch.Sp.has
                dsimp only
                omega
        · have e4' : ((q : Int) < (n : Int)) = False := by simp only [e4]
          have hq : q = n := by omega
          subst hq
          have hxl : (ly ++ L).length = j + q := by rw [List.length_append, HLl.out, HG0.out.1]
          have HRG := Lib.hid (Ch.region_any (c := c3) HG.out.rs (Nat.le_refl _) (by omega))
          have HXL := Lib.hid hxl
          have HMA := Lib.hid (maj_ways (M := ly) (fun z hz => (HGL.out z hz).2) (by rw [HG0.out.1, HLl.out]; omega))
          have HAL := Lib.hid (show Ch.AllMay (ly ++ L) from fun z hz => by
            rcases List.mem_append.1 hz with r | r
            · exact HAM0.out z r
            · exact (HGL.out z r).1)
          clear hxl HG HGL HLl HG0 HAM0
          go_wp2_with fail
          refine HRG.out.mono ?_
          rintro e w2 ⟨⟨lo, hi, er, rfl, hrr⟩, b2⟩
          obtain ⟨rfl, r1, r2⟩ := reg_ways hrr (by rw [HXL.out]; omega) HAL.out HMA.out
          have HB2 := Lib.hid (bthen HBq.out b2 (Nat.le_refl _))
          clear hrr b2 HRG HBq HXL HMA HAL
          go_wp2_with fail
          refine (alive_any _).mono ?_
          rintro e w4 ⟨rfl, h5⟩
          have H5 := Lib.hid (bthen HB2.out h5 (Nat.le_refl _))
          clear h5 HB2
          go_wp2_with fail
          go_ret
          exact ⟨rfl, H5.out⟩
end Go.Proofs.Ytbkcoijcoacbaaa
