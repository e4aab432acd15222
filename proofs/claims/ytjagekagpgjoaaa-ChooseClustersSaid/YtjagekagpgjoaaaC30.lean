/- choose: the document's own Cluster. -/
import Derived.Test.YtjagekagpgjoaaaC28
import Derived.Test.YtjagekagpgjoaaaC29
namespace Go.Proofs.Ytjagekagpgjoaaa
open Go.RowKit
set_option linter.unusedVariables false
set_option linter.unusedSimpArgs false
set_option maxRecDepth 100000
/-- several ints more -/
theorem wpList_app_is (w : World) {ops : Array Oper} {rest : List Oper} {o : Oper} {a : Act} {Q : Exit → Act → World → Prop} (hgd : o.guard = none) (s x : Operand)
    (ho : o.op = .call { callee := .builtin .append, args := #[s, x], argTypes := #[27, 27] }) {base n c m c2 : Nat} {ad : Addr} {A : Option Addr} {zs ys : List Int} {w0 : World}
    (hs : a.eval s = .slice A n c) (hown : Gi 3 w base A n c zs) (hx : a.eval x = .slice (some ad) m c2) (hm : ys.length = m) (hc : ∀ j z, ys[j]? = some z → w.cell? (ad.add j) = some (.int .i64 z))
    (hn : n + m ≤ 1099511627776) (hb : Below base w0 w) (hbase : base ≤ w.heap.size)
    (h : ∀ A' c' w', Gi 3 w' base A' (n + m) c' (zs ++ ys) → Below base w0 w' → w.grownBy w' (Value.ownBlock (.slice A n c)) → wpList Try.prog ops Q rest (a.put o.dst (.slice A' (n + m) c')) w') : wpList Try.prog ops Q (o :: rest) a w := by
  obtain ⟨i0, hi, hz0, hz1, hz2⟩ := info_parts Try.info3
  refine wpList_append_own w hgd s x 27 ho base 3 i0 (.int .i64 0) 1 8 Try.underlying27 hi hz0 hz1 hz2 rfl (by decide) _ n (ic zs) hs hown.2 ad m c2 (ic ys) hx (by simp [ic, hm]) ?_ (ic_one _) (by unfold maxLen; omega) (by omega) hbase ?_
  · intro j u hj
    unfold ic at hj
    rw [List.getElem?_map, Option.map_eq_some_iff] at hj
    obtain ⟨z, hz, rfl⟩ := hj
    exact hc j z hz
  · intro v' w' hown' hgrow _
    obtain ⟨A', c', rfl⟩ := own_shape hown'
    exact h A' c' w' ⟨by rw [List.length_append, hown.1, hm], by simpa [ic] using hown'⟩ (hb.grown hgrow hbase fun k hk => (hown.2.lt k hk).1) hgrow
theorem rclus_bad {w : World} {A1 A2 : Option Addr} {n1 c1 n2 c2 : Nat} {os ds : List Int} (h1 : Ri w w.heap.size A1 n1 os) (h2 : Ri w w.heap.size A2 n2 ds) (least : Int) (hb : ¬ (Fit os ds ∧ 1 ≤ least)) :
    Calls Try.prog 19 #[.slice A1 n1 c1, .slice A2 n2 c2, .int .i64 least] w fun e w' => e = .returned (.tuple #[.slice none 0 0, .int .i64 1]) ∧ w' = w := by
  have HM := Lib.hid (rfit_any (c1 := c1) (c2 := c2) h1 h2)
  clear h1 h2
  by_cases hF : Fit os ds
  · rw [decide_eq_true hF] at HM
    have hl : (least < 1) = True := by
      simp only [eq_iff_iff, iff_true]
      exact Int.not_le.1 fun h => hb ⟨hF, h⟩
    go_enter Try.func19, Try.ntmps19
    go_wp2_with fail
    refine HM.out.mono ?_
    rintro e w2 ⟨rfl, e3⟩
    subst w2
    go_wp2_with fail
    go_ret2
    exact ⟨rfl, rfl⟩
  · rw [decide_eq_false hF] at HM
    go_enter Try.func19, Try.ntmps19
    go_wp2_with fail
    refine HM.out.mono ?_
    rintro e w2 ⟨rfl, e3⟩
    subst w2
    go_wp2_with fail
    go_ret2
    exact ⟨rfl, rfl⟩
theorem addr_add (b o x : Nat) : Addr.add ⟨b, o, none⟩ x = ⟨b, o + x, none⟩ := by
  unfold Addr.add
  split
  · rename_i h
    have : x = 0 := by simpa using h
    rw [this]
    rfl
  · rfl
theorem cut_from (g off i c t : Nat) (h1 : t + 1 ≤ i) (h2 : i ≤ c) (W : World) : (Instr.sliceAt 27 (.slice (some ⟨g, off, none⟩) i c) (some (.int .i64 ((t : Int) + 1))) none none).run Try.prog W =
    .ok (.slice (some (if c = t + 1 then ⟨g, off, none⟩ else ⟨g, off + (t + 1), none⟩)) (i - (t + 1)) (c - (t + 1))) W := by
  have e0 : (0 : Int) ≤ (t : Int) + 1 := by omega
  have e1 : (t : Int) + 1 ≤ (i : Int) := by omega
  have e2 : ((t : Int) + 1).toNat = t + 1 := by omega
  have hz : (Go.sizeOf 3).run Try.prog W = .ok 1 W := by kernel_rfl
  simp [Instr.sliceAt, Instr.slice, run_underlying Try.underlying27, Instr.sliceBounds, Instr.sliceBound, asIntOf, e0, e1, e2, hz, addr_add]
  split <;> simp_all
theorem ints_take {L : List Nat} {t x : Nat} {z : Int} (h : (ints (L.take t))[x]? = some z) : (ints L)[x]? = some z := by
  unfold ints at h ⊢
  rw [List.getElem?_map, Option.map_eq_some_iff] at h ⊢
  obtain ⟨q, hq, e⟩ := h
  refine ⟨q, ?_, e⟩
  rw [List.getElem?_take] at hq
  split at hq
  · exact hq
  · cases hq
theorem ints_drop {L : List Nat} {t x : Nat} {z : Int} (h : (ints (L.drop t))[x]? = some z) : (ints L)[t + x]? = some z := by
  unfold ints at h ⊢
  rw [List.getElem?_map, Option.map_eq_some_iff] at h ⊢
  obtain ⟨q, hq, e⟩ := h
  exact ⟨q, by rw [List.getElem?_drop] at hq; exact hq, e⟩
theorem Gi.cap {t : TypeId} {w : World} {base n c : Nat} {A : Option Addr} {zs : List Int} (h : Gi t w base A n c zs) : n ≤ c := by
  obtain ⟨hl, hx, h⟩ := h
  rcases h with ⟨_, h0⟩ | ⟨g, cap, cur, hv, hb, hg, hnc, hcm, hcs, htk⟩
  · rw [h0]; exact Nat.zero_le _
  · cases hv
    exact hnc
theorem rng_take (j : Nat) : ints (List.range (j + 1)) = ints (List.range j) ++ [(j : Int)] := by rw [List.range_succ]; simp [ints]
theorem near_lt {ds : List Int} {L : List Nat} {j q : Nat} (hq : L[j]? = some q) (hj : 0 < j) : (ds.getD q 0 < ds.getD (nrt ds (L.take j)) 0 → ds.getD (nrt ds (L.take (j + 1))) 0 = ds.getD q 0) ∧ (¬ ds.getD q 0 < ds.getD (nrt ds (L.take j)) 0 → ds.getD (nrt ds (L.take (j + 1))) 0 = ds.getD (nrt ds (L.take j)) 0) := by
  unfold nrt
  rw [grt_take hq, if_neg (by omega)]
  refine ⟨fun h => ?_, fun h => ?_⟩
  · rw [if_pos (by omega)]
  · split
    · omega
    · rfl
theorem split_at {L : List Nat} {t s : Nat} (h : L[t]? = some s) : L = L.take t ++ s :: L.drop (t + 1) := by
  obtain ⟨ht, e⟩ := List.getElem?_eq_some_iff.1 h
  have h2 : L.drop t = s :: L.drop (t + 1) := by rw [List.drop_eq_getElem_cons ht, e]
  rw [← h2, List.take_append_drop]
theorem rstr_drew {w : World} {A1 A2 : Option Addr} {B n c1 m c2 t i : Nat} {os : List Int} {L : List Nat} (h1 : Ri w B A1 n os) (h2 : Ri w B A2 m (ints L)) (hO : okO os) (hL : ∀ j ∈ L, j < n) (ht : L[t]? = some i) (hm : m ≤ 64) (k : Nat) :
    Calls Try.prog 33 #[.slice A1 n c1, .slice A2 m c2, .int .i64 (t : Int)] (w.drewN k) fun e w' => e = .returned (.int .i64 (str os L i)) ∧ ∃ k', w' = w.drewN k' :=
  (rstr_any (h1.drewN k) (h2.drewN k) hO hL ht hm).mono fun e w' h => by
    obtain ⟨h1, k', h2⟩ := h
    exact ⟨h1, k + k', by rw [h2]; exact World.drewN_drewN ..⟩
set_option maxHeartbeats 4000000 in
theorem rclus_ok {w : World} {A1 A2 : Option Addr} {n c1 c2 : Nat} {os ds : List Int} (h1 : Ri w w.heap.size A1 n os) (h2 : Ri w w.heap.size A2 n ds) (hF : Fit os ds) (least : Int) (hl : 1 ≤ least) (hl2 : least ≤ 9223372036854775807) :
    Calls Try.prog 19 #[.slice A1 n c1, .slice A2 n c2, .int .i64 least] w fun e w' => (∃ A c, e = .returned (.tuple #[.slice A (clus os ds least).length c, .int .i64 0]) ∧ Ri w' w'.heap.size A (clus os ds least).length (ints (clus os ds least))) ∧ RowKit.Below w.heap.size w w' := by
  have hn : n ≤ 64 := by have := hF.2.1; rw [h1.1] at this; exact this
  have HM := Lib.hid (rfit_any (c1 := c1) (c2 := c2) h1 h2)
  rw [decide_eq_true hF] at HM
  have HR1 := Lib.hid h1
  have HR2 := Lib.hid h2
  have HO := Lib.hid hF.2.2.1
  have HD := Lib.hid hF.2.2.2
  have HLo := Lib.hid h1.1
  have hl1 : (least < 1) = False := by simp only [eq_iff_iff, iff_false]; omega
  clear h1 h2 hF
  go_enter Try.func19, Try.ntmps19
  go_wp2_with fail
  refine HM.out.mono ?_
  rintro e w2 ⟨rfl, e3⟩
  subst w2
  go_wp2_with fail
  go_loopw [8, 9] (fun lv iv wr => ∃ j : Nat, ∃ A c, j ≤ n ∧ iv = .int .i64 (j : Int) ∧ lv = .slice A j c ∧ Gi 3 wr w.heap.size A j c (ints (List.range j)) ∧ RowKit.Below w.heap.size w wr) (fun _ iv _ => (n - (match iv with | .int _ z => z.toNat | _ => 0)))
  case atStart => exact ⟨0, none, 0, by omega, rfl, rfl, Gi.nil _ _ _, Below.refl _ _⟩
  case round =>
    obtain ⟨j, A, c, hj, rfl, rfl, hg, hb⟩ := hrel
    have HG := Lib.hid hg
    have HBr := Lib.hid hb
    clear hg hb
    by_cases hjn : j < n
    · have e1 : ((j : Int) < (n : Int)) = True := by simp only [eq_iff_iff, iff_true]; omega
      have e1' : (j : Int) < (n : Int) := by omega
      have k4 : RowKit.Below wr.heap.size wr (wr.alloc (.cells #[.int .i64 (j : Int)] 3)) := (Below.refl _ _).alloc (Nat.le_refl _) _
      have HB4 := Lib.hid (HBr.out.alloc HBr.out.size (.cells #[.int .i64 (j : Int)] 3))
      have HG4 := Lib.hid (HG.out.below k4)
      clear k4
      go_wp2_with (at_builtin; refine wpList_app_i (y := (j : Int)) _ rfl (.tmp 28) (.tmp 30) rfl rfl HG4.out rfl (World.alloc_heap_new wr _) (by omega) HB4.out HB4.out.size ?_; intro A5 c5 w5 hg5 hb5)
      have HG5 := Lib.hid hg5
      have HB5 := Lib.hid hb5
      clear hg5 hb5
      go_wp2_with fail
      refine ⟨⟨j + 1, A5, c5, by omega, rfl, rfl, ?_, HB5.out⟩, by show n - ((j : Int) + 1).toNat < n - (j : Int).toNat; omega⟩
      rw [rng_take]
      exact HG5.out
    · have e1' : ((j : Int) < (n : Int)) = False := by simp only [eq_iff_iff, iff_false]; omega
      obtain rfl : j = n := by omega
      go_wp2_with fail
      go_loopw [8] (fun lv wr => ∃ L : List Nat, ∃ m : Nat, ∃ A c, m ≤ j ∧ lv = .slice A m c ∧ Hid L.Nodup ∧ Hid (∀ i ∈ L, i < j) ∧ Hid (clN os ds least m L = clus os ds least) ∧ Hid (Gi 3 wr w.heap.size A m c (ints L)) ∧ Hid (RowKit.Below w.heap.size w wr)) (fun lv _ => match lv with | .slice _ m _ => m | _ => 0)
      case atStart =>
        exact ⟨List.range j, j, A, c, Nat.le_refl _, rfl, List.nodup_range, fun i hi => List.mem_range.1 hi, by show clN os ds least j (List.range j) = clN os ds least os.length (List.range os.length); rw [HLo.out], HG.out, HBr.out⟩
      case round =>
        obtain ⟨L, m, A, c, hmn, rfl, hnd, hlt, hR, hg, hb⟩ := hrel
        have hlm : L.length = m := by have := hg.out.1; rwa [ints_len] at this
        have HLm := Lib.hid hlm
        have HRi := Lib.hid hg.out.ri
        clear hlm
        by_cases hml : (m : Int) ≤ least
        · have e2 : (least < (m : Int)) = False := by simp only [eq_iff_iff, iff_false]; omega
          have hfin : L = clus os ds least := by
            rw [← hR.out]
            cases m with
            | zero => rfl
            | succ m => unfold clN; rw [if_pos (by rw [HLm.out]; exact hml)]
          have HF := Lib.hid hfin
          clear hfin
          go_wp2_with fail
          go_ret2
          refine ⟨⟨A, c, by rw [← HF.out, HLm.out]; rfl, by rw [← HF.out, HLm.out]; exact HRi.out⟩, hb.out⟩
        · have e2 : (least < (m : Int)) = True := by simp only [eq_iff_iff, iff_true]; omega
          have e2' : least < (m : Int) := by omega
          have h0 : 0 < m := by omega
          obtain ⟨x0, hx0⟩ : ∃ x0, L[0]? = some x0 := ⟨_, List.getElem?_eq_getElem (by rw [HLm.out]; exact h0)⟩
          have hx0n : x0 < j := hlt.out x0 (List.mem_of_getElem? hx0)
          obtain ⟨g1, off1, rfl, hg1, hc1⟩ := HRi.out.cells h0
          obtain ⟨g2, off2, rfl, hg2, hc2⟩ := HR2.out.cells (by omega)
          have y1 := hc1 wr (Below.refl _ _) 0 _ (ints_get hx0)
          have hds : ∀ i, i < j → ds[i]? = some (ds.getD i 0) := fun i hi => by
            rw [List.getD_eq_getElem?_getD, List.getElem?_eq_getElem (by rw [HR2.out.1]; exact hi)]
            rfl
          have y2 := hc2 wr hb.out x0 _ (hds x0 hx0n)
          have HDS := Lib.hid hds
          have HC1 := Lib.hid (hc1 wr (Below.refl _ _))
          have HC2 := Lib.hid (hc2 wr hb.out)
          obtain ⟨d0, hd0⟩ : ∃ d0, d0 = ds.getD x0 0 := ⟨_, rfl⟩
          rw [← hd0] at y2
          have HD0 := Lib.hid hd0
          have HX0 := Lib.hid hx0
          rw [Nat.add_zero] at y1
          have hmi : (0 : Int) < (m : Int) := by omega
          clear hds hc1 hc2 hd0 hx0 hml
          have HStr := Lib.hid (fun k t i ht => rstr_drew (c1 := c1) (c2 := c) (t := t) (i := i) ((HR1.out.below hb.out (Nat.le_refl _)).le hb.out.size) HRi.out HO.out hlt.out ht (Nat.le_trans hmn hn) k)
          go_wp2_with fail
          go_quiet (fail)
          go_wp2_with fail
          go_loopw [10, 11, 12] (fun av nv iv w9 => ∃ i t s : Nat, ∃ d : Int, 1 ≤ i ∧ i ≤ m ∧ iv = .int .i64 (i : Int) ∧ av = .int .i64 (t : Int) ∧ nv = .int .i64 d ∧ Hid (L[t]? = some s) ∧ Hid (s = grt (str os L) (L.take i)) ∧ Hid (d = ds.getD (nrt ds (L.take i)) 0) ∧ ∃ k, w9 = wr.drewN k) (fun _ _ iv _ => (m - (match iv with | .int _ z => z.toNat | _ => 0)))
          case atStart =>
            have e : grt (str os L) (L.take (0 + 1)) = x0 := by rw [grt_take HX0.out, if_pos rfl]
            have e' : nrt ds (L.take (0 + 1)) = x0 := by unfold nrt; rw [grt_take HX0.out, if_pos rfl]
            exact ⟨1, 0, x0, d0, Nat.le_refl _, h0, rfl, rfl, rfl, HX0.out, e.symm, by show d0 = _; rw [HD0.out, e'], nq, rfl⟩
          case round =>
            obtain ⟨i, t, s, d, hi1, him, rfl, rfl, rfl, hts, hsg, hdn, k0, rfl⟩ := hrel
            by_cases hjm : i < m
            · have e1 : ((i : Int) < (m : Int)) = True := by simp only [eq_iff_iff, iff_true]; omega
              have e1' : (i : Int) < (m : Int) := by omega
              obtain ⟨q, hq⟩ : ∃ q, L[i]? = some q := ⟨_, List.getElem?_eq_getElem (by rw [HLm.out]; exact hjm)⟩
              have hqn : q < j := hlt.out q (List.mem_of_getElem? hq)
              have y3 := HC1.out i _ (ints_get hq)
              have y4 := HC2.out q _ (HDS.out q hqn)
              obtain ⟨dq, hdq⟩ : ∃ dq, dq = ds.getD q 0 := ⟨_, rfl⟩
              have HNl := Lib.hid (near_lt (ds := ds) hq (by omega))
              rw [← hdq] at y4 HNl
              rw [← hdn.out] at HNl
              have HGt := Lib.hid (grt_take (f := str os L) hq)
              rw [if_neg (by omega)] at HGt
              obtain ⟨X, hX⟩ : ∃ X, X = str os L q := ⟨_, rfl⟩
              obtain ⟨Y, hY⟩ : ∃ Y, Y = str os L s := ⟨_, rfl⟩
              have HS1 := Lib.hid (HStr.out k0 i q hq)
              have HS2 := Lib.hid (fun k => HStr.out k t s hts.out)
              rw [← hX] at HS1
              rw [← hY] at HS2
              rw [← hsg.out, ← hX, ← hY] at HGt
              have HDQ := Lib.hid hdq
              have HQ := Lib.hid hq
              clear hq hdq hX hY
              go_wp2_with fail
              refine HS1.out.mono ?_
              rintro e w5 ⟨rfl, k5, rfl⟩
              go_wp2_with fail
              refine (HS2.out k5).mono ?_
              rintro e w5 ⟨rfl, k6, rfl⟩
              by_cases hxy : Y ≤ X
              · have HG1 := Lib.hid (show q = grt (str os L) (L.take (i + 1)) by rw [HGt.out, if_pos hxy])
                by_cases hdd : dq < d
                · have HN1 := Lib.hid (HNl.out.1 hdd).symm
                  go_wp2_with fail
                  exact ⟨⟨i + 1, i, q, dq, by omega, by omega, rfl, rfl, rfl, HQ.out, HG1.out, HN1.out, k6, rfl⟩, by show m - ((i : Int) + 1).toNat < m - (i : Int).toNat; omega⟩
                · have hdd' : (dq < d) = False := by simp only [hdd]
                  have HN1 := Lib.hid (HNl.out.2 (by omega)).symm
                  go_wp2_with fail
                  exact ⟨⟨i + 1, i, q, d, by omega, by omega, rfl, rfl, rfl, HQ.out, HG1.out, HN1.out, k6, rfl⟩, by show m - ((i : Int) + 1).toNat < m - (i : Int).toNat; omega⟩
              · have hxy' : (Y ≤ X) = False := by simp only [hxy]
                have HG1 := Lib.hid (show s = grt (str os L) (L.take (i + 1)) by rw [HGt.out, if_neg hxy])
                by_cases hdd : dq < d
                · have HN1 := Lib.hid (HNl.out.1 hdd).symm
                  go_wp2_with fail
                  exact ⟨⟨i + 1, t, s, dq, by omega, by omega, rfl, rfl, rfl, hts.out, HG1.out, HN1.out, k6, rfl⟩, by show m - ((i : Int) + 1).toNat < m - (i : Int).toNat; omega⟩
                · have hdd' : (dq < d) = False := by simp only [hdd]
                  have HN1 := Lib.hid (HNl.out.2 (by omega)).symm
                  go_wp2_with fail
                  exact ⟨⟨i + 1, t, s, d, by omega, by omega, rfl, rfl, rfl, hts.out, HG1.out, HN1.out, k6, rfl⟩, by show m - ((i : Int) + 1).toNat < m - (i : Int).toNat; omega⟩
            · have e1' : ((i : Int) < (m : Int)) = False := by simp only [eq_iff_iff, iff_false]; omega
              obtain rfl : i = m := by omega
              have hT : L.take i = L := List.take_of_length_le (by rw [HLm.out]; exact Nat.le_refl _)
              have HSe := Lib.hid (show s = sgt os L by rw [hsg.out, hT]; rfl)
              have hdr : d = ds.getD (nrt ds L) 0 := by rw [hdn.out, hT]
              have HDe := Lib.hid hdr
              have hne : L ≠ [] := fun e => by have := HLm.out; rw [e] at this; simp at this; omega
              have hdl : 0 ≤ d ∧ d ≤ 1099511627776 := by
                rw [hdr]
                have hr : nrt ds L < j := hlt.out _ (nrt_mem hne)
                exact HD.out _ (List.mem_of_getElem? (HDS.out _ hr))
              have hmu : 0 ≤ d * ((i : Int) - 1) ∧ d * ((i : Int) - 1) ≤ 70368744177664 := by
                have h63 : (i : Int) - 1 ≤ 63 := by omega
                have h0 : 0 ≤ (i : Int) - 1 := by omega
                refine ⟨Int.mul_nonneg hdl.1 h0, Int.le_trans (Int.mul_le_mul hdl.2 h63 h0 (by omega)) (by decide)⟩
              obtain ⟨S, hS⟩ : ∃ S, S = str os L s := ⟨_, rfl⟩
              have HS2 := Lib.hid (HStr.out k0 t s hts.out)
              rw [← hS] at HS2
              have HSS := Lib.hid hS
              have htm : t < i := by have := (List.getElem?_eq_some_iff.1 hts.out).1; rw [HLm.out] at this; exact this
              clear hT hdr hne hS
              obtain ⟨X, hX⟩ : ∃ X, X = d * ((i : Int) - 1) := ⟨_, rfl⟩
              by_cases hSX : S ≤ X
              · rw [hX] at hSX
                clear hX
                have hfin : L = clus os ds least := cl_stop hR.out HLm.out e2' hl HSe.out (by rw [← HSS.out, ← HDe.out]; exact hSX)
                have HF := Lib.hid hfin
                clear hfin
                go_wp2_with fail
                refine HS2.out.mono ?_
                rintro e w5 ⟨rfl, k5, rfl⟩
                go_wp2_with fail
                go_ret2
                refine ⟨⟨some ⟨g1, off1, none⟩, c, by rw [← HF.out, HLm.out]; rfl, by rw [← HF.out, HLm.out]; exact HRi.out.drewN k5⟩, below_drewN hb.out _⟩
              · have hSX' : (S ≤ d * ((i : Int) - 1)) = False := by
                  simp only [eq_iff_iff, iff_false]
                  rw [← hX]
                  exact hSX
                have HNx := Lib.hid (show ¬ str os L s ≤ ds.getD (nrt ds L) 0 * ((i : Int) - 1) by
                  rw [← HSS.out, ← HDe.out, ← hX]
                  exact hSX)
                clear hX hSX
                have hLL := split_at hts.out
                have hno := hnd.out
                rw [hLL] at hno
                have h1 : s ∉ L.take t := fun h => by
                  have := (List.nodup_append.1 hno).2.2 s h s (List.mem_cons_self ..)
                  exact this rfl
                have HR2' := Lib.hid (cl_step hR.out HLm.out e2' hl HSe.out hLL h1 HNx.out)
                have HL2 := Lib.hid (show (L.take t ++ L.drop (t + 1)).Nodup by
                  have e : L.take t ++ L.drop (t + 1) = (L.take t ++ s :: L.drop (t + 1)).erase s := by rw [List.erase_append_right _ h1, List.erase_cons_head]
                  rw [e]
                  exact hno.erase s)
                have HLt2 := Lib.hid (show ∀ x ∈ L.take t ++ L.drop (t + 1), x < j from fun x hx => hlt.out x (by
                  rcases List.mem_append.1 hx with h | h
                  · exact List.mem_of_mem_take h
                  · exact List.mem_of_mem_drop h))
                clear hno h1 hLL
                have htm1 : (t : Int) ≤ (i : Int) := by omega
                have htm2 : (t : Int) + 1 ≤ (i : Int) := by omega
                go_wp2_with fail
                refine HS2.out.mono ?_
                rintro e w5 ⟨rfl, k5, rfl⟩
                have HG9 := Lib.hid (show Gi 3 (wr.drewN k5) w.heap.size (some ⟨g1, off1, none⟩) i c (ints L) from hg.out)
                have HB9 := Lib.hid (below_drewN hb.out k5)
                have hcap : (i : Int) ≤ (c : Int) := by have := hg.out.cap; omega
                have htc : (t : Int) ≤ (c : Int) := by omega
                have HC9 := Lib.hid (show ∀ x z, (ints (L.take t))[x]? = some z → (wr.drewN k5).cell? ⟨g1, off1 + x, none⟩ = some (.int .i64 z) from fun x z hx => HC1.out x z (ints_take hx))
                go_upto_region 20 with fail
                obtain ⟨w9, e9⟩ : ∃ w9, w9 = wr.drewN k5 := ⟨_, rfl⟩
                rw [← e9] at HG9 HB9 HC9 ⊢
                clear e9
                have T1 := Lib.hid (show (ints (L.take t)).length = t by rw [ints_len, List.length_take, HLm.out]; omega)
                have T2 := Lib.hid (show ∀ x z, (ints (L.take t))[x]? = some z → w9.cell? (Addr.add ⟨g1, off1, none⟩ x) = some (.int .i64 z) from fun x z h => by rw [addr_add]; exact HC9.out x z h)
                have T3 : 0 + t ≤ 1099511627776 := by omega
                go_upto_region 21 with (at_builtin; refine wpList_app_is (m := t) (ad := ⟨g1, off1, none⟩) (ys := ints (L.take t)) (w0 := w) _ rfl (.tmp 85) (.tmp 88) rfl rfl (Gi.nil 3 w9 w.heap.size) rfl T1.out T2.out T3 HB9.out HB9.out.size ?_; intro A5 c5 w10 hg10 hb10 hk10)
                have HG10 := Lib.hid hg10
                have HB10 := Lib.hid hb10
                have hl10 := HG9.out.kept hk10 (.inr (by intro h; cases h))
                have HC10 := Lib.hid (show ∀ x z, (ints (L.drop (t + 1)))[x]? = some z → w10.cell? ⟨g1, off1 + (t + 1) + x, none⟩ = some (.int .i64 z) from fun x z hx => by
                  obtain ⟨g', off', e', _, hc'⟩ := hl10.ri.cells h0
                  cases e'
                  have := hc' w10 (Below.refl _ _) (t + 1 + x) z (ints_drop hx)
                  rw [Nat.add_assoc]
                  exact this)
                have T4 := Lib.hid (show (ints (L.drop (t + 1))).length = i - (t + 1) by rw [ints_len, List.length_drop, HLm.out])
                have T5 : 0 + t + (i - (t + 1)) ≤ 1099511627776 := by omega
                have HT6 := Lib.hid (show ints (L.take t) ++ ints (L.drop (t + 1)) = ints (L.take t ++ L.drop (t + 1)) by simp [ints])
                have htc3 : (t : Int) + 1 ≤ (c : Int) := by omega
                have hic : (i : Int) ≤ (c : Int) := hcap
                have HIm := Lib.hid (show t + (i - (t + 1)) = i - 1 by omega)
                clear hg10 hb10 hk10 hl10
                rw [List.nil_append, Nat.zero_add] at HG10
                rw [Nat.zero_add] at T5
                have HT5 := Lib.hid T5
                clear T5
                obtain ⟨ad, had⟩ : ∃ ad : Addr, ad = if c = t + 1 then (⟨g1, off1, none⟩ : Addr) else ⟨g1, off1 + (t + 1), none⟩ := ⟨_, rfl⟩
                have hsl := cut_from g1 off1 i c t (by omega) (by omega)
                rw [← had] at hsl
                have HX := Lib.hid (show ∀ x z, (ints (L.drop (t + 1)))[x]? = some z → w10.cell? (Addr.add ad x) = some (.int .i64 z) from fun x z h => by
                  by_cases hct : c = t + 1
                  · have : x < (ints (L.drop (t + 1))).length := (List.getElem?_eq_some_iff.1 h).1
                    rw [T4.out] at this
                    omega
                  · rw [had, if_neg hct, addr_add]
                    exact HC10.out x z h)
                clear had
                go_wp2_with (first | (simp only [hsl]; done) | (simp only [hsl]) | (at_builtin; refine wpList_app_is (m := i - (t + 1)) (ad := ad) (ys := ints (L.drop (t + 1))) (w0 := w) _ rfl (.tmp 90) (.tmp 94) rfl rfl HG10.out rfl T4.out HX.out HT5.out HB10.out HB10.out.size ?_; intro A6 c6 w11 hg11 hb11 hk11))
                have HG11 := Lib.hid hg11
                have HB11 := Lib.hid hb11
                clear hg11 hb11 hk11
                go_wp2_with fail
                refine ⟨⟨L.take t ++ L.drop (t + 1), t + (i - (t + 1)), A6, c6, by omega, rfl, HL2.out, HLt2.out, by show clN os ds least _ _ = _; rw [HIm.out]; exact HR2'.out, ?_, HB11.out⟩, by show t + (i - (t + 1)) < i; omega⟩
                show Gi 3 _ _ A6 _ c6 (ints (L.take t ++ L.drop (t + 1)))
                rw [← HT6.out]
                exact HG11.out
end Go.Proofs.Ytjagekagpgjoaaa
