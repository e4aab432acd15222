/- audit: does a request that was answered ask for another's cookie? -/
import Derived.Test.YtompggkdjbkjjaaB4
import Derived.Test.YtompggkdjbkjjaaA12
namespace Go.Proofs.Ytompggkdjbkjjaa
open Go.RowKit Go.Maps Go.MapKept Go.ChangeMaps
set_option linter.unusedVariables false
set_option maxRecDepth 100000
theorem Nb.of {w : World} {B : Nat} {A : Option Addr} {n c : Nat} {xs : List Nat} (h : Wi.Nb w B A n c xs) : Nb w B A n c xs := ⟨h.len, h.cap, h.room, h.lim, h.cell⟩
theorem Nb.to {w : World} {B : Nat} {A : Option Addr} {n c : Nat} {xs : List Nat} (h : Nb w B A n c xs) : Wi.Nb w B A n c xs := ⟨h.len, h.cap, h.room, h.lim, h.cell⟩
theorem equal_any {w : World} {B B2 n c m d : Nat} {A A2 : Option Addr} {xs ys : List Nat} (h : Nb w B A n c xs) (k : Nb w B2 A2 m d ys) :
    Calls Try.prog 35 #[.slice A n c, .slice A2 m d] w fun e w' => e = .returned (.bool (decide (xs = ys))) ∧ w' = w := by
  have hcx : (convert 52 9 (.slice A n c)).run Try.prog w = .ok (.string (bstr xs)) w := conv_any h
  have hcy : (convert 52 9 (.slice A2 m d)).run Try.prog w = .ok (.string (bstr ys)) w := conv_any k
  have H5 := (show ((bstr xs).toList == (bstr ys).toList) = decide (xs = ys) by
    rw [Bool.eq_iff_iff]
    simp only [beq_iff_eq, decide_eq_true_eq]
    exact ⟨bstr_list_inj h.lim k.lim, fun e => by rw [e]⟩)
  generalize decide (xs = ys) = q at *
  clear h k
  go_enter Try.func35, Try.ntmps35
  go_wp2_with fail
  go_ret
  exact ⟨rfl, rfl⟩
/-- what a packet's fields are, wherever they lie -/
theorem rd_exts {lo : Nat} {xs : List Nat} {w : World} {p : Wi.Pk} {en a k : Nat} (h : Wi.Rd lo xs w p en a k) :
    ∃ els : List Wi.El, els.map Wi.toEx = exts xs ∧ (∀ x ∈ els, 1 ≤ x.op) ∧ p.n ≤ 1099511627776 ∧ ∀ w' : World, w.heap.size ≤ w'.heap.size → (∀ q, lo ≤ q → q < w.heap.size → w'.heap[q]? = w.heap[q]?) → Wi.Es w' w'.heap.size p.A p.n els := by
  unfold Wi.Rd at h
  unfold exts
  split at h
  · rename_i e
    rw [e]
    obtain ⟨rfl, _⟩ := h
    exact ⟨[], rfl, (fun x hx => by cases hx), by decide, fun w' _ _ => ⟨rfl, (fun x hx => by cases hx), .inl rfl⟩⟩
  · rename_i e
    rw [e]
    obtain ⟨h1, h2, h3, h4, h5, h5', els, ms, h6, h7, h8, h9, h10, h11, h12⟩ := h
    refine ⟨els, h6, fun x hx => (h10 x hx).lims.1, ?_, fun w' s k => (h7 w' s k).1⟩
    unfold Wi.rightB at h9
    simp only [Bool.and_eq_true, decide_eq_true_eq] at h9
    omega
set_option maxHeartbeats 4000000 in
theorem asks_any {w : World} (x : Ev) (hx : Nb w w.heap.size x.A x.n x.c x.xs) (hok : x.ok) (hn : x.n ≤ 1073741824) {b N : Nat} {L : List Fc} (hm : Mp Try.prog 51 z73 w b N (mapF L) (mapG L)) (hL : ∀ y ∈ L, Nb w w.heap.size y.A y.n y.c y.xs) :
    Calls Try.prog 32 #[evV x, .map (some b)] w fun e w' => e = .returned (.bool (asksB (L.map Fc.m) x.m)) ∧ RowKit.Below w.heap.size w w' := by
  obtain ⟨W1, hW1⟩ : ∃ W1, W1 = w.alloc (.cells #[.int .i64 x.k, .int .u32 (x.h : Int), .int .u32 (x.p : Int), .int .i64 x.at_, .slice x.A x.n x.c] 58) := ⟨_, rfl⟩
  have b1 : RowKit.Below w.heap.size w W1 := by rw [hW1]; exact (Below.refl _ _).alloc (Nat.le_refl _) _
  have x1 : EBox W1 w.heap.size 58 x := by rw [hW1]; exact EBox.new w 58 x
  obtain ⟨kl, hkl⟩ := key51 hok.2.2.1
  have hlook0 := (hm.keep (w' := W1) (b1.block _ hm.lt)).look_okK keyed51 Try.underlying91 (zero73 _) hkl
  obtain ⟨y, hy1, hy2, hy3⟩ : ∃ y : Fc, mapF L (k32 x.p) = fcV y ∧ Nb w w.heap.size y.A y.n y.c y.xs ∧ knownF (L.map Fc.m) x.p = if mapG L (k32 x.p) = true then some y.xs else none := by
    rw [← fcF_known]
    unfold mapF mapG
    cases h : fcF L (k32 x.p) with
    | none => exact ⟨⟨0, none, 0, 0, []⟩, rfl, Nb.nil _ _ 0 (by omega) none, rfl⟩
    | some y => exact ⟨y, rfl, hL y (fcF_mem h).1, rfl⟩
  rw [hy1] at hlook0
  have hlook : (Instr.lookup 91 (.map (some b)) (.int .u32 (x.p : Int)) true).run Try.prog W1 = .ok (.tuple #[.agg #[.int .u32 (y.a : Int), .slice y.A y.n y.c], .bool (mapG L (k32 x.p))]) W1 := hlook0
  have HO := Lib.hid (fun e : Wi.Ex => (show otherB (L.map Fc.m) x.p e = (decide (e.op = 4) && (if mapG L (k32 x.p) = true then !decide (e.xs = y.xs) else true)) by unfold otherB; rw [hy3]; cases mapG L (k32 x.p) <;> rfl))
  have HAs := Lib.hid (show asksB (L.map Fc.m) x.m = (exts x.xs).any (otherB (L.map Fc.m) x.p) from rfl)
  generalize asksB (L.map Fc.m) x.m = r at *
  generalize otherB (L.map Fc.m) x.p = ob at *
  generalize mapG L (k32 x.p) = g at *
  obtain ⟨W2, hW2⟩ : ∃ W2, W2 = W1.alloc (.cells #[.int .u32 (y.a : Int), .slice y.A y.n y.c] 73) := ⟨_, rfl⟩
  have b2 : RowKit.Below W1.heap.size W1 W2 := by rw [hW2]; exact (Below.refl _ _).alloc (Nat.le_refl _) _
  have b12 := bthen b1 b2 (Nat.le_refl _)
  have x2 : EBox W2 w.heap.size 58 x := x1.below b2
  have hbx : W2.heap[W1.heap.size]? = some (.cells #[.int .u32 (y.a : Int), .slice y.A y.n y.c] 73 (0, 0)) := by rw [hW2]; exact heap_alloc_new W1 _
  have HR := Lib.hid (Wi.read_any (w := W2) (((hx.below b12).more b12.size).to) hn)
  have HW1 := Lib.hid hW1
  have HW2 := Lib.hid hW2
  have HB := Lib.hid b12
  have HBx := Lib.hid hbx
  have HY := Lib.hid (hy2.below b12)
  obtain ⟨_, _, c2', _, _⟩ := x1.cells
  obtain ⟨_, _, _, _, c4⟩ := x2.cells
  clear hW1 hW2 b1 b2 x1 x2 hbx hx hok hm hL hkl hlook0 hy1 hy2 hy3 b12
  go_enter Try.func32, Try.ntmps32
  go_upto_region 1 with fail
  rw [← HW1.out]
  go_upto_region 2 with fail
  rw [← HW2.out]
  clear hlook c2'
  go_upto_region 3 with (first
    | (go_at_call 34; refine HR.out.mono ?_
       rintro e w3 ⟨hb3, p, en, a, k, rfl, hrd⟩
       have HRd := Lib.hid (rd_exts hrd)
       have HB3 := Lib.hid hb3
       clear hrd hb3
       obtain ⟨V1, hV1⟩ : ∃ V, V = w3.alloc (.cells #[.int .i64 0, .int .i64 0, .int .i64 0, .int .i64 0, .int .i64 0, .int .i64 0, .int .u32 0, .int .u32 0, .int .u32 0, .int .u64 0, .int .u64 0, .int .u64 0, .int .u64 0, .slice none 0 0, .bool false, .int .u32 0, .slice none 0 0] 79) := ⟨_, rfl⟩
       obtain ⟨V2, hV2⟩ : ∃ V, V = V1.alloc (.cells #[.int .i64 0, .int .i64 0] 81) := ⟨_, rfl⟩
       have vs1 : V1.heap.size = w3.heap.size + 1 := by rw [hV1]; simp
       have vx1 : V1.heap[w3.heap.size]? = some (.cells (Wi.pkC Wi.pk0) 79 (0, 0)) := by rw [hV1]; exact heap_alloc_new w3 _
       have VX := Lib.hid (show V2.heap[w3.heap.size]? = some (.cells (Wi.pkC Wi.pk0) 79 (0, 0)) by rw [hV2]; exact (Below.heap_alloc _ _ _ (by omega)).trans vx1)
       have VY := Lib.hid (show V2.heap[w3.heap.size + 1]? = some (.cells (Wi.flC 0 0) 81 (0, 0)) by rw [hV2, ← vs1]; exact heap_alloc_new V1 _)
       have VB := Lib.hid (show RowKit.Below w3.heap.size w3 V2 by rw [hV2, hV1]; exact ((Below.refl _ _).alloc (Nat.le_refl _) _).alloc (by simp) _)
       have HV := Lib.hid (hV1 ▸ hV2)
       clear hV1 hV2 vs1 vx1)
    | (refine wpList_store_row rfl 79 (.tmp 7) (.tmp 22) rfl w3.heap.size (Wi.pkC p) rfl rfl 79 _ VX.out Wi.s29 rfl (Wi.pk_all _) ?_)
    | (refine wpList_store_row rfl 81 (.tmp 8) (.tmp 23) rfl (w3.heap.size + 1) (Wi.flC a k) rfl rfl 81 _ ((setRow_other V2 w3.heap.size (w3.heap.size + 1) (Wi.pkC p) (by omega)).trans VY.out) Wi.s39 rfl (Wi.fl_all _ _) ?_)
    | (rw [← HV.out]))
  obtain ⟨D, hD⟩ : ∃ D, D = (V2.setRow w3.heap.size (Wi.pkC p)).setRow (w3.heap.size + 1) (Wi.flC a k) := ⟨_, rfl⟩
  have bD : RowKit.Below w3.heap.size w3 D := by rw [hD]; exact below_setRow (below_setRow VB.out (Nat.le_refl _) _) (by omega) _
  have x4 : D.heap[w3.heap.size]? = some (.cells (Wi.pkC p) 79 (0, 0)) := by
    rw [hD]
    exact (setRow_other _ _ _ _ (by omega)).trans (setRow_heap _ _ _ _ _ _ VX.out)
  have p13 : D.cell? ⟨w3.heap.size, 13, none⟩ = some (.slice p.A p.n p.c) := by simp [World.cell?, x4]
  obtain ⟨els, hel1, hel2, hel3, hel4⟩ := HRd.out
  have hes : Wi.Es D D.heap.size p.A p.n els := hel4 D bD.size fun q _ hq => bD.block q hq
  have HEs := Lib.hid hes
  have HE1 := Lib.hid hel1
  have HE2 := Lib.hid hel2
  have HE3 := Lib.hid hel3
  have HLn := Lib.hid hes.1
  have HB4 := Lib.hid (bthen HB3.out bD (Nat.le_refl _))
  have HB5 := Lib.hid (bthen HB.out HB4.out (Nat.le_refl _))
  have HYD := Lib.hid (HY.out.below (HB4.out.mono HB.out.size))
  have HBxD := Lib.hid ((HB4.out.block _ (Array.getElem?_eq_some_iff.1 HBx.out).1).trans HBx.out)
  have HYL := Lib.hid (show W1.heap.size < D.heap.size from (Array.getElem?_eq_some_iff.1 ((HB4.out.block _ (Array.getElem?_eq_some_iff.1 HBx.out).1).trans HBx.out)).1)
  rw [← hD]
  clear hD bD x4 VX VY VB HV HRd hel1 hel2 hel3 hel4 hes HBx HY HR c4 HB3
  go_wp2_with fail
  go_loopw [27] (fun i wr => ∃ j, j ≤ p.n ∧ i = .int .i64 ((j : Nat) : Int) ∧ (∀ e ∈ els.take j, ob (Wi.toEx e) = false) ∧ RowKit.Below D.heap.size D wr) (fun i _ => (p.n - (match i with | .int _ z => z.toNat | _ => 0)))
  case atStart => exact ⟨0, by omega, rfl, by simp, Below.refl _ _⟩
  case round =>
    obtain ⟨j, hjn, rfl, ho, hb⟩ := hrel
    have HOb := Lib.hid ho
    have HBr := Lib.hid hb
    clear ho hb
    by_cases hj : j < p.n
    · have e1 : (j : Int) < (p.n : Int) := by omega
      have h3 := HE3.out
      obtain ⟨e, he⟩ : ∃ e, els[j]? = some e := ⟨_, List.getElem?_eq_getElem (by have := HLn.out; omega)⟩
      have hlg := HEs.out.below HBr.out (Nat.le_refl _)
      rcases hlg.2.2 with he3 | ⟨gb, off, hA, hg, hcl⟩
      · omega
      obtain ⟨d0, d1, d2, d3, d4, d5, d6, d7⟩ := hcl j e he
      have hmem := List.mem_of_getElem? he
      have hop := HE2.out e hmem
      have hnb := Nb.of (hlg.2.1 e hmem).1
      obtain ⟨wa, hwa⟩ : ∃ wa, wa = wr.alloc (.cells #[.int .i64 e.op, .bool e.resp, .bool e.bad, .int .i64 e.as_, .int .u32 (e.ts : Int), .int .u32 (e.fs : Int), .slice e.A e.n e.c, .slice e.B e.m e.e] 85) := ⟨_, rfl⟩
      have hbx : RowKit.Below wr.heap.size wr wa := by rw [hwa]; exact (Below.refl _ _).alloc (Nat.le_refl _) _
      have hbox : wa.heap[wr.heap.size]? = some (.cells #[.int .i64 e.op, .bool e.resp, .bool e.bad, .int .i64 e.as_, .int .u32 (e.ts : Int), .int .u32 (e.fs : Int), .slice e.A e.n e.c, .slice e.B e.m e.e] 85 (0, 0)) := by rw [hwa]; exact heap_alloc_new wr _
      have q0 : wa.cell? ⟨wr.heap.size, 0, none⟩ = some (.int .i64 e.op) := by simp [World.cell?, hbox]
      have q6 : wa.cell? ⟨wr.heap.size, 6, none⟩ = some (.slice e.A e.n e.c) := by simp [World.cell?, hbox]
      have hba := bthen HBr.out hbx (Nat.le_refl _)
      have hfb := (hba.block _ HYL.out).trans HBxD.out
      have q1 : wa.cell? ⟨W1.heap.size, 1, none⟩ = some (.slice y.A y.n y.c) := by simp [World.cell?, hfb]
      have HEq := Lib.hid (equal_any (w := wa) (hnb.below (hbx.mono HBr.out.size)) (HYD.out.below (hba.mono (Nat.le_trans HB.out.size HB4.out.size))))
      have HTk := Lib.hid (show els.take (j + 1) = els.take j ++ [e] by rw [List.take_add_one, he]; rfl)
      have HGo := Lib.hid (fun (h : ob (Wi.toEx e) = false) => (show ∀ e' ∈ els.take (j + 1), ob (Wi.toEx e') = false by
        rw [HTk.out]; intro e' h'
        rcases List.mem_append.1 h' with h' | h'
        · exact HOb.out e' h'
        · simp at h'; subst h'; exact h))
      have HYes := Lib.hid (fun (h : ob (Wi.toEx e) = true) => (show r = true by
        rw [HAs.out, ← HE1.out]
        exact List.any_eq_true.2 ⟨_, List.mem_map_of_mem hmem, h⟩))
      have HOe := Lib.hid (show ob (Wi.toEx e) = (decide (e.op = 4) && (if g = true then !decide (e.xs = y.xs) else true)) by
        rw [HO.out]
        congr 1
        rw [decide_eq_decide]
        show e.op.toNat = 4 ↔ e.op = 4
        omega)
      have HBa := Lib.hid hba
      have HWa := Lib.hid hwa
      have HJ := Lib.hid hj
      have s0 : wrap64 ((j : Int) + 1) = ((j + 1 : Nat) : Int) := by unfold wrap64; omega
      rw [hA]
      clear hcl he hlg hg hmem hnb hwa hbx hbox hba hfb hj hop h3
      generalize decide (e.xs = y.xs) = q at *
      by_cases h4 : e.op = 4
      · have k1 : (e.op == 4) = true := by simpa using h4
        cases g with
        | false =>
          have HO2 := Lib.hid (HYes.out (by rw [HOe.out, decide_eq_true h4]; rfl))
          clear h4 HYes HOe
          go_upto_region 6 with fail
          rw [← HWa.out]
          go_wp2_with fail
          go_ret
          exact ⟨by rw [HO2.out]; rfl, bthen HB5.out HBa.out (Nat.le_refl _)⟩
        | true =>
          cases q with
          | true =>
            have HO2 := Lib.hid (HGo.out (by rw [HOe.out]; simp))
            clear h4 HYes HOe HGo
            go_upto_region 6 with fail
            rw [← HWa.out]
            go_wp2_with (go_at_call 35; refine HEq.out.mono ?_; rintro e5 w5 ⟨rfl, hw5⟩; subst hw5)
            exact ⟨⟨j + 1, HJ.out, by go_num, HO2.out, HBa.out⟩, by rw [s0]; show p.n - ((j + 1 : Nat) : Int).toNat < p.n - (j : Int).toNat; have := HJ.out; omega⟩
          | false =>
            have HO2 := Lib.hid (HYes.out (by rw [HOe.out, decide_eq_true h4]; rfl))
            clear h4 HYes HOe HGo
            go_upto_region 6 with fail
            rw [← HWa.out]
            go_wp2_with (go_at_call 35; refine HEq.out.mono ?_; rintro e5 w5 ⟨rfl, hw5⟩; subst hw5)
            go_ret
            exact ⟨by rw [HO2.out]; rfl, bthen HB5.out HBa.out (Nat.le_refl _)⟩
      · have k1 : (e.op == 4) = false := by simpa using h4
        have HO2 := Lib.hid (HGo.out (by rw [HOe.out, decide_eq_false h4]; rfl))
        clear h4 HYes HOe HGo
        go_upto_region 6 with fail
        rw [← HWa.out]
        go_wp2_with fail
        exact ⟨⟨j + 1, HJ.out, by go_num, HO2.out, HBa.out⟩, by rw [s0]; show p.n - ((j + 1 : Nat) : Int).toNat < p.n - (j : Int).toNat; have := HJ.out; omega⟩
    · have e1' : ((j : Int) < (p.n : Int)) = False := by simp only [eq_iff_iff, iff_false]; omega
      have HTk := Lib.hid (show r = false by
        rw [HAs.out, ← HE1.out, List.any_eq_false]
        intro z hz
        obtain ⟨e, he, rfl⟩ := List.mem_map.1 hz
        have := HOb.out e (by rw [List.take_of_length_le (by have := HLn.out; omega)]; exact he)
        simp [this])
      go_wp2_with fail
      go_ret
      exact ⟨by rw [HTk.out]; rfl, bthen HB5.out HBr.out (Nat.le_refl _)⟩
end Go.Proofs.Ytompggkdjbkjjaa
