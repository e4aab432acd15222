/- audit: the first thefts, by who answered whom. -/
import Derived.Test.YtompggkdjbkjjaaB6
import Derived.RangeFuncLeaves
import Derived.RangeFuncBox
import Derived.RangeFuncCalls
namespace Go.Proofs.Ytompggkdjbkjjaa
open Go.RowKit Go.Maps Go.MapKept Go.ChangeMaps Go.Shelf
set_option linter.unusedVariables false
set_option maxRecDepth 100000
attribute [local go_sem] Oper.semAt_some
/-- what the k-th yield is handed -/
def tv (T : List (Nat × Value)) (k : Nat) : Array Value := #[.int .i64 ((T.getD k (0, ke 0 0)).1 : Int), (T.getD k (0, ke 0 0)).2]
theorem thefts_yields (Bf Bl b : Nat) {n c m d : Nat} {A Af : Option Addr} {E : List Ev} {L : List Fc} (hn : n ≤ 1000) (hm : m ≤ 1000) (hok : ∀ x ∈ E, x.ok) (hl : ∀ x ∈ E, x.n ≤ 1073741824) (hLa : ∀ x ∈ L, x.a < 4294967296)
    (T : List (Nat × Value)) (hT : T = tfu (L.map Fc.m) (E.map Ev.m) n)
    (w : World) (hb : b < w.heap.size) (hf : w.cell? ⟨Bf, 0, none⟩ = some (.slice Af m d)) (hc : w.cell? ⟨Bl, 0, none⟩ = some (.slice A n c)) (hE : Lg w w.heap.size A n E) (hL : Lf w w.heap.size Af m L) :
    Wi.Yields Fence.wide 8 Try.prog 30 #[.pointer (some ⟨Bf, 0, none⟩), .pointer (some ⟨Bl, 0, none⟩)] w.heap.size T.length (tv T) (KpB b) w := by
  intro l J Jx W hbW hJ hY h0
  have h1 := World.block_lt_of_cell? w _ hf
  have h2 := World.block_lt_of_cell? w _ hc
  refine thefts_in l Bf Bl b hn hm hok hl hLa T hT J Jx (fun k t W1 hj ht => ?_) hJ W (Nat.lt_of_lt_of_le hb hbW.size) ((hbW.cell (p := ⟨Bf, 0, none⟩) h1).trans hf) ((hbW.cell (p := ⟨Bl, 0, none⟩) h2).trans hc)
    ((hE.below hbW (Nat.le_refl _)).more hbW.size) ((hL.below hbW (Nat.le_refl _)).more hbW.size) h0
  have hk := (List.getElem?_eq_some_iff.1 ht).1
  have := hY k W1 hj hk
  unfold tv at this
  simp only [List.getD_eq_getElem?_getD, ht, Option.getD_some] at this
  exact this
set_option maxHeartbeats 4000000 in
theorem first_any {w : World} {n c m d : Nat} {A Af : Option Addr} {E : List Ev} {L : List Fc} (h : Lg w w.heap.size A n E) (hL : Lf w w.heap.size Af m L) (hn : n ≤ 1000) (hm : m ≤ 1000) (hok : ∀ x ∈ E, x.ok) (hl : ∀ x ∈ E, x.n ≤ 1073741824) (hLa : ∀ x ∈ L, x.a < 4294967296) :
    Calls Try.prog 29 #[.slice A n c, .slice Af m d] w fun e w' => ∃ b, e = .returned (.map (some b)) ∧ Mp Try.prog 61 (.int .i64 0) w' b n (heldT (stf (tfu (L.map Fc.m) (E.map Ev.m) n))) (stf (tfu (L.map Fc.m) (E.map Ev.m) n)).2 ∧ RowKit.Below w.heap.size w w' := by
  have hmm := @run_makeMap Try.prog
  obtain ⟨W, hW⟩ : ∃ W, W = (w.alloc (.map #[] 0)).alloc (.cells #[.map (some w.heap.size)] 87) := ⟨_, rfl⟩
  have hb : RowKit.Below w.heap.size w W := by rw [hW]; exact ((Below.refl _ _).alloc (Nat.le_refl _) _).alloc (by simp) _
  have hsz : W.heap.size = w.heap.size + 2 := by rw [hW]; simp
  have hbox : W.cell? ⟨w.heap.size + 1, 0, none⟩ = some (.map (some w.heap.size)) := by rw [hW]; simp
  have hmp : Mp Try.prog 61 (.int .i64 0) W w.heap.size 0 (fun _ => .int .i64 0) (fun _ => false) :=
    (Mp.made Try.prog 61 (.int .i64 0) w).keep (by rw [hW]; exact ((Below.refl _ (w.alloc (.map #[] 0))).alloc (Nat.le_refl _) _).block _ (by simp))
  obtain ⟨T, hT⟩ : ∃ T, T = tfu (L.map Fc.m) (E.map Ev.m) n := ⟨_, rfl⟩
  have HTn := Lib.hid (show T.length ≤ n by rw [hT]; exact tfu_len _ _ _)
  have HTk := Lib.hid (fun t (ht : t ∈ T) => (show ∃ a b : Nat, t.2 = ke a b ∧ a < 4294967296 ∧ b < 4294967296 by
    rw [hT] at ht
    obtain ⟨i, _, hi⟩ := List.mem_flatMap.1 ht
    unfold oneT at hi
    split at hi
    · rename_i x hx
      rw [List.getElem?_map, Option.map_eq_some_iff] at hx
      obtain ⟨y, hy, rfl⟩ := hx
      split at hi
      · simp at hi
        subst hi
        have := hok y (List.mem_of_getElem? hy)
        exact ⟨y.h, y.p, rfl, this.2.1, this.2.2.1⟩
      · cases hi
    · cases hi))
  rw [← hT]
  have HT := Lib.hid hT
  have HW := Lib.hid hW
  have HMp := Lib.hid hmp
  have HE := Lib.hid h
  have HL := Lib.hid hL
  have HOk := Lib.hid hok
  have HLn := Lib.hid hl
  have HLa := Lib.hid hLa
  have HB := Lib.hid hb
  have HS := Lib.hid hsz
  have HBx := Lib.hid hbox
  clear hW hmp h hL hok hl hLa hb hsz hbox hT
  refine (callsIn_wide (n := 9)).1 ?_
  refine callsIn_of_wp_marks Try.func29 rfl trivial ?_ rfl
  simp only [Try.ntmps29, List.size_toArray, List.length_cons, List.length_nil, Nat.reduceAdd, Nat.reduceSub, Array.replicate_succ, Array.replicate_zero, List.push_toArray, List.append_toArray, List.nil_append, List.cons_append]
  gi_wp2_with fail
  clear hmm
  refine ⟨trivial, ?_⟩
  change CallsIn _ _ _ _ _ ((w.alloc (.map #[] 0)).alloc (.cells #[.map (some w.heap.size)] 87)) _
  rw [← HW.out]
  refine (callsIn_wide.2 (thefts_any A Af n c m d W)).mono ?_
  rintro e w3 ⟨rfl, hw3⟩
  have hb3 : RowKit.Below W.heap.size W w3 := by rw [hw3]; exact ((Below.refl _ _).alloc (Nat.le_refl _) _).alloc (by simp) _
  have hc1 : w3.cell? ⟨W.heap.size, 0, none⟩ = some (.slice A n c) := by
    rw [hw3]
    have h1 := cell_box W (.slice A n c) 28
    exact (((Below.refl (W.heap.size + 1) (W.alloc (.cells #[.slice A n c] 28))).alloc (by simp) _).cell (p := ⟨W.heap.size, 0, none⟩) (Nat.lt_succ_self _)).trans h1
  have hc2 : w3.cell? ⟨W.heap.size + 1, 0, none⟩ = some (.slice Af m d) := by
    rw [hw3]
    have h1 := cell_box (W.alloc (.cells #[.slice A n c] 28)) (.slice Af m d) 37
    rwa [World.size_alloc] at h1
  have hb03 := bthen HB.out hb3 (Nat.le_refl _)
  have HM3 := Lib.hid (HMp.out.keep (w' := w3) (hb3.block _ HMp.out.lt))
  have HYl := Lib.hid (thefts_yields (W.heap.size + 1) W.heap.size w.heap.size hn hm HOk.out HLn.out HLa.out T HT.out w3 (Nat.lt_of_lt_of_le HMp.out.lt hb3.size) hc2 hc1 ((HE.out.below hb03 (Nat.le_refl _)).more hb03.size) ((HL.out.below hb03 (Nat.le_refl _)).more hb03.size))
  have HB3 := Lib.hid hb03
  have HBW := Lib.hid hb3
  have HC1 := Lib.hid hc1
  have HC2 := Lib.hid hc2
  have HBx3 := Lib.hid ((hb3.cell (p := ⟨w.heap.size + 1, 0, none⟩) (World.block_lt_of_cell? W _ HBx.out)).trans HBx.out)
  have HS3 := Lib.hid (show w.heap.size + 2 ≤ w3.heap.size by have := HS.out; have := hb3.size; omega)
  clear hw3 hb3 hc1 hc2 hb03
  gi_wp2_with fail
  have HTa := Lib.hid (fun k => (show ∃ (at_ a b : Nat), T.getD k (0, ke 0 0) = (at_, ke a b) by
    rcases Nat.lt_or_ge k T.length with hk | hk
    · have hg : T[k]? = some (T.getD k (0, ke 0 0)) := by rw [List.getD_eq_getElem?_getD, List.getElem?_eq_getElem hk]; rfl
      generalize T.getD k (0, ke 0 0) = t at *
      obtain ⟨a, b, e, ha, hb⟩ := HTk.out t (List.mem_of_getElem? hg)
      obtain ⟨at_, q⟩ := t
      dsimp only at e
      subst e
      exact ⟨at_, a, b, rfl⟩
    · exact ⟨0, 0, 0, by rw [List.getD_eq_getElem?_getD, List.getElem?_eq_none hk]; rfl⟩))
  have HTg := Lib.hid (fun k (hk : k < T.length) => (show ∃ (at_ a b : Nat), T.getD k (0, ke 0 0) = (at_, ke a b) ∧ a < 4294967296 ∧ b < 4294967296 ∧ T.take (k + 1) = T.take k ++ [(at_, ke a b)] by
    have hg : T[k]? = some (T.getD k (0, ke 0 0)) := by rw [List.getD_eq_getElem?_getD, List.getElem?_eq_getElem hk]; rfl
    generalize T.getD k (0, ke 0 0) = t at *
    obtain ⟨a, b, e, ha, hb⟩ := HTk.out t (List.mem_of_getElem? hg)
    obtain ⟨at_, q⟩ := t
    dsimp only at e
    subst e
    exact ⟨at_, a, b, rfl, ha, hb, by rw [List.take_add_one, hg]; rfl⟩))
  refine range_boxed2 (N := T.length) (fun k => .int .i64 ((T.getD k (0, ke 0 0)).1 : Int)) (fun k => (T.getD k (0, ke 0 0)).2) (Kp := KpB w.heap.size) rfl (by omega) rfl trivial (fun args w => by kernel_rfl) HYl.out (fun A B C h k => h.trans k) (fun A l r r' _ h => KpB.put h)
    (fun k W' => Mp Try.prog 61 (.int .i64 0) W' w.heap.size k (heldT (stf (T.take k))) (stf (T.take k)).2 ∧ W'.cell? ⟨w.heap.size + 1, 0, none⟩ = some (.map (some w.heap.size)) ∧ RowKit.Below w.heap.size w W' ∧ w3.heap.size ≤ W'.heap.size)
    (fun k W' => False) ?hJ ?hJx ?h0 (fun k => .cells (T.getD k (0, ke 0 0)).2.cells 61) (fun A q => KpB.of_below ((Below.refl _ _).alloc (Nat.le_refl _) _))
    (fun k s => { tmps := #[Value.slice A n c, Value.slice Af m d, undef, undef, Value.map none, Value.pointer (some ⟨w.heap.size + 1, 0, none⟩), .int .i64 ((T.getD k (0, ke 0 0)).1 : Int), .pointer (some ⟨s, 0, none⟩), undef, undef, Value.map (some w.heap.size), Value.slice A n c, Value.slice Af m d,
      Value.func (Fn.func 30) #[] #[Value.pointer (some ⟨W.heap.size + 1, 0, none⟩), Value.pointer (some ⟨W.heap.size, 0, none⟩)], .int .i64 ((T.getD k (0, ke 0 0)).1 : Int), (T.getD k (0, ke 0 0)).2, undef, undef, undef, undef, undef, undef, undef, undef, undef, undef, undef, undef], defers := [] })
    ?hassign ?hbody ?hdone ?hstop
  case hJ =>
    rintro k A B row ⟨h1, h2, h3, h4⟩ hg hr
    have hlt := HS3.out
    have hrow : ∀ q, q < w3.heap.size → some q ≠ row := fun q hq e => by have := (hr q e.symm).1; omega
    have hA := h4
    refine ⟨h1.keep (hg.block _ h1.lt (hrow _ (by omega))), (World.cell?_of_block (a := ⟨w.heap.size + 1, 0, none⟩) (hg.block _ (World.block_lt_of_cell? A _ h2) (hrow _ (by dsimp only; omega)))).trans h2,
      h3.grown hg h3.size (fun q e => by have := (hr q e).1; omega), Nat.le_trans h4 hg.size⟩
  case hJx => exact fun _ _ _ _ h _ _ => h
  case h0 => exact ⟨HM3.out, HBx3.out, HB3.out, Nat.le_refl _⟩
  case hassign =>
    intro l k W' K hK
    obtain ⟨at_, p, q, ht⟩ := HTa.out k
    rw [ht] at hK ⊢
    change K _ (W'.alloc (.cells #[.int .u32 (p : Int), .int .u32 (q : Int)] 61)) at hK
    change Code.wpIn _ _ _ _ _ { tmps := #[Value.slice A n c, Value.slice Af m d, undef, undef, Value.map none, Value.pointer (some ⟨w.heap.size + 1, 0, none⟩), undef, undef, undef, undef, Value.map (some w.heap.size), Value.slice A n c, Value.slice Af m d,
      Value.func (Fn.func 30) #[] #[Value.pointer (some ⟨W.heap.size + 1, 0, none⟩), Value.pointer (some ⟨W.heap.size, 0, none⟩)], .int .i64 (at_ : Int), .agg #[.int .u32 (p : Int), .int .u32 (q : Int)], undef, undef, undef, undef, undef, undef, undef, undef, undef, undef, undef, undef], defers := [] } _
    gi_wp2
    exact hK
  case hbody =>
    rintro l k s W' ⟨h1, h2, h3, h4⟩ hk hs ho
    obtain ⟨at_, p, q, ht, hp, hq, htk⟩ := HTg.out k hk
    rw [ht] at ho ⊢
    have ho' : W'.heap[s]? = some (.cells #[.int .u32 (p : Int), .int .u32 (q : Int)] 61 (0, 0)) := ho
    have c0 : W'.cell? ⟨s, 0, none⟩ = some (.int .u32 (p : Int)) := by simp [World.cell?, ho']
    have c1 : W'.cell? ⟨s, 1, none⟩ = some (.int .u32 (q : Int)) := by simp [World.cell?, ho']
    obtain ⟨kl, hkl⟩ := key61 hp hq
    have hlook := h1.look_ok law61 Try.underlying87 (zero3 _) hkl
    have hput := h1.put law61 Try.underlying87 (by have := HTn.out; unfold maxLen; omega) hkl (.int .i64 (at_ : Int))
    have HSt := Lib.hid (show stf (T.take (k + 1)) = stp (stf (T.take k)) (at_, ke p q) by rw [htk, stf_snoc])
    rw [HSt.out]
    have HM1 := Lib.hid h1
    have HB1 := Lib.hid h3
    have H4 := Lib.hid h4
    have HBx1 := Lib.hid h2
    clear ho ho' h1 h3 h4 HSt htk hkl
    generalize stf (T.take k) = st at *
    cases hg : st.2 (ke p q) with
    | true =>
      rw [stp_same hg]
      rw [hg] at hlook
      have hl2 : (Instr.lookup 87 (.map (some w.heap.size)) (.agg #[.int .u32 (p : Int), .int .u32 (q : Int)]) true).run Try.prog W' = .ok (.tuple #[.int .i64 (st.1 (ke p q)), .bool true]) W' := hlook
      clear hlook hput hg
      generalize st.1 (ke p q) = z at *
      have e1 : ((at_, ke p q).fst : Int) = (at_ : Int) := rfl
      gi_wp2_with fail
      exact ⟨KeepsBook.refl _, KpB.refl _ _, HM1.out.mono (Nat.le_succ k), HB1.out, H4.out⟩
    | false =>
      have HSp := Lib.hid (heldT_stp (s := st) (t := (at_, ke p q)) (by rw [hg]; simp))
      rw [hg] at hlook
      have hl2 : (Instr.lookup 87 (.map (some w.heap.size)) (.agg #[.int .u32 (p : Int), .int .u32 (q : Int)]) true).run Try.prog W' = .ok (.tuple #[.int .i64 (st.1 (ke p q)), .bool false]) W' := hlook
      obtain ⟨wd, hrun, hmd, hgd⟩ := hput
      have hr2 : (Instr.mapUpdate 87 (.map (some w.heap.size)) (.agg #[.int .u32 (p : Int), .int .u32 (q : Int)]) (.int .i64 (at_ : Int))).run Try.prog W' = .ok () wd := hrun
      have HMd := Lib.hid hmd
      have HGd := Lib.hid hgd
      clear hlook hg hrun hmd hgd
      generalize st.1 (ke p q) = z at *
      gi_wp2_with fail
      refine ⟨KeepsBook.of_grownBy HGd.out fun j o e h => ?_, KpB.of_grown HGd.out HM1.out.is_map HMd.out.is_map, ?_, ?_, HB1.out.grown HGd.out HB1.out.size (fun k e => by cases e; exact Nat.le_refl _), Nat.le_trans H4.out HGd.out.size⟩
      · cases e
        obtain ⟨es, cl, h1⟩ := HM1.out.is_map
        rw [h1] at h
        cases h
        rfl
      · rw [HSp.out.1, HSp.out.2]; exact HMd.out
      · exact (World.cell?_of_block (a := ⟨w.heap.size + 1, 0, none⟩) (HGd.out.block _ (World.block_lt_of_cell? W' _ HBx1.out) (by simp))).trans HBx1.out
  case hdone =>
    intro D W' hD ⟨h1, h2, h3, h4⟩ hd
    rw [List.take_of_length_le (Nat.le_refl _)] at h1
    have HM1 := Lib.hid h1
    have HB1 := Lib.hid h3
    have HD := Lib.hid hd
    have HDl := Lib.hid hD
    clear hd hD h1 h3
    gi_wp2_with fail
    refine ⟨by simp, .inl ⟨_, _, rfl, run_takeDeferred HD.out, ?_⟩⟩
    have hD := HDl.out
    have hs := HS3.out
    refine ⟨.map (some w.heap.size), by simp [results, Try.results29, go_sem], w.heap.size, rfl, (HM1.out.mono HTn.out).keep (World.putObj_heap_other (by omega)), ?_⟩
    exact HB1.out.grown (grownBy_putObj' W' _ _) HB1.out.size (fun k e => by cases e; omega)
  case hstop => exact fun _ _ _ _ _ h _ => h.elim
end Go.Proofs.Ytompggkdjbkjjaa
