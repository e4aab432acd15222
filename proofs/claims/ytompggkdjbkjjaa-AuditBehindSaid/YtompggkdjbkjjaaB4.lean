/- audit: the faces by their addresses: of several of one address the first. -/
import Derived.Test.YtompggkdjbkjjaaB3
import Derived.Test.YtompggkdjbkjjaaB1
namespace Go.Proofs.Ytompggkdjbkjjaa
open Go.RowKit Go.Maps Go.MapKept Go.ChangeMaps
open Go.WideMaps (KeyLaw)
set_option linter.unusedVariables false
set_option maxRecDepth 100000
theorem keyed51 : Keyed Try.prog 51 := int_keyed Try.underlying51
theorem zero73 (u : World) : (zeroValue 73).run Try.prog u = .ok (.agg #[.int .u32 0, .slice none 0 0]) u := by kernel_rfl
def k32 (a : Nat) : Value := .int .u32 (a : Int)
theorem key51 {a : Nat} (ha : a < 4294967296) : ∃ kl, keyOf Try.prog 51 (k32 a) = some kl := by
  have h := u32_wf ha
  simp [keyOf, mapKey, Try.underlying51, k32, h]
section
variable {P : Program} {k : TypeId} {z : Value} {w : World} {b n : Nat} {f : Value → Value} {g : Value → Bool}
theorem Mp.look_okK {t e : TypeId} (h : Mp P k z w b n f g) (K : Keyed P k) (ht : P.underlying t = some (.map k e)) (hz : (zeroValue e).run P w = .ok z w) {key : Value} {kl : Lit} (hkey : keyOf P k key = some kl) :
    (Instr.lookup t (.map (some b)) key true).run P w = .ok (.tuple #[f key, .bool (g key)]) w := by
  obtain ⟨D, hD, hr⟩ := h
  obtain ⟨v, ps, hrun, hv⟩ := hD.look_ok K ht hz (zd := .held z) (zp := []) rfl hkey
  have e1 := (hr key kl hkey).1
  simp only [heldR, Option.some.injEq, Prod.mk.injEq] at hv
  rw [← hv.1] at e1
  simp only [DataW.held.injEq] at e1
  rw [hrun, e1, (hr key kl hkey).2]
theorem put_readsK (K : Keyed P k) {D : DataW Value} (hm : Maps.IsMap D) {key val : Value} {kl : Lit} (hkey : keyOf P k key = some kl)
    (hr : ∀ q ql, keyOf P k q = some ql → D.atKey ql (.held z) = .held (f q) ∧ Maps.has D ql = g q) :
    ∀ q ql, keyOf P k q = some ql → (D.put kl (.held val)).atKey ql (.held z) = .held (upd f key val q) ∧ Maps.has (D.put kl (.held val)) ql = upd g key true q := by
  intro q ql hq
  have hk : WideAt.IsKeyLit kl := K.key hkey
  by_cases e : q = key
  · subst e
    rw [hkey] at hq
    cases hq
    rw [upd_same, upd_same, atKey_put_same hm hk, has_put_same hm hk]
    exact ⟨rfl, rfl⟩
  · have hne : ql ≠ kl := fun e2 => e (K.inj (e2 ▸ hq) hkey)
    rw [upd_other _ _ e, upd_other _ _ e, atKey_put_other hne, has_put_other hne]
    exact hr q ql hq
theorem Mp.putK {t e : TypeId} (h : Mp P k z w b n f g) (K : Keyed P k) (ht : P.underlying t = some (.map k e)) (hn : n < maxLen) {key : Value} {kl : Lit} (hkey : keyOf P k key = some kl) (val : Value) :
    ∃ w', (Instr.mapUpdate t (.map (some b)) key val).run P w = .ok () w' ∧ Mp P k z w' b (n + 1) (upd f key val) (upd g key true) ∧ w.grownBy w' (some b) := by
  obtain ⟨D, hD, hr⟩ := h
  obtain ⟨w', hrun, h1, h2⟩ := hD.update K ht hn hkey (val := val) (d := .held val) (ps := []) rfl
  exact ⟨w', hrun, ⟨_, h1, put_readsK K hD.isMap hkey hr⟩, h2⟩
end
/-- the first face of an address -/
noncomputable def fcF (L : List Fc) (q : Value) : Option Fc := L.find? fun x => @decide (k32 x.a = q) (Classical.propDecidable _)
open Classical in
theorem fcF_snoc (L : List Fc) (x : Fc) (q : Value) : fcF (L ++ [x]) q = match fcF L q with | some y => some y | none => if k32 x.a = q then some x else none := by
  unfold fcF
  rw [List.find?_append]
  generalize L.find? _ = r
  cases r with
  | some y => simp
  | none =>
    simp only [Option.none_or, List.find?_cons, List.find?_nil]
    by_cases e : k32 x.a = q
    · rw [if_pos e]; simp [e]
    · rw [if_neg e]; simp [e]
def z73 : Value := .agg #[.int .u32 0, .slice none 0 0]
noncomputable def mapF (L : List Fc) (q : Value) : Value := match fcF L q with | some y => fcV y | none => z73
noncomputable def mapG (L : List Fc) (q : Value) : Bool := (fcF L q).isSome
theorem map_there {L : List Fc} {x : Fc} (h : mapG L (k32 x.a) = true) : mapF (L ++ [x]) = mapF L ∧ mapG (L ++ [x]) = mapG L := by
  have key : ∀ q, fcF (L ++ [x]) q = fcF L q := fun q => by
    rw [fcF_snoc]
    cases hq : fcF L q with
    | some y => rfl
    | none =>
      dsimp only
      refine if_neg fun e => ?_
      unfold mapG at h
      rw [e, hq] at h
      cases h
  exact ⟨funext fun q => by unfold mapF; rw [key], funext fun q => by unfold mapG; rw [key]⟩
theorem map_new {L : List Fc} {x : Fc} (h : mapG L (k32 x.a) = false) : mapF (L ++ [x]) = upd (mapF L) (k32 x.a) (fcV x) ∧ mapG (L ++ [x]) = upd (mapG L) (k32 x.a) true := by
  have hn : fcF L (k32 x.a) = none := by unfold mapG at h; exact Option.isSome_eq_false_iff.1 h |> Option.isNone_iff_eq_none.1
  refine ⟨funext fun q => ?_, funext fun q => ?_⟩
  · by_cases e : q = k32 x.a
    · subst e; rw [upd_same]; unfold mapF; rw [fcF_snoc, hn]; simp
    · rw [upd_other _ _ e]; unfold mapF; rw [fcF_snoc, if_neg (Ne.symm e)]; cases fcF L q <;> rfl
  · by_cases e : q = k32 x.a
    · subst e; rw [upd_same]; unfold mapG; rw [fcF_snoc, hn]; simp
    · rw [upd_other _ _ e]; unfold mapG; rw [fcF_snoc, if_neg (Ne.symm e)]; cases fcF L q <;> rfl
theorem fcF_known (L : List Fc) (a : Nat) : (fcF L (k32 a)).map Fc.xs = knownF (L.map Fc.m) a := by
  unfold fcF knownF
  rw [List.find?_map]
  have : ((fun f : Fm => f.1 == a) ∘ Fc.m) = fun x : Fc => @decide (k32 x.a = k32 a) (Classical.propDecidable _) := by
    funext x
    by_cases e : x.a = a
    · simp [Fc.m, e]
    · have : k32 x.a ≠ k32 a := by unfold k32; intro h; injection h with _ h; exact e (by omega)
      simp [Fc.m, e, this]
  rw [this]
  generalize List.find? _ L = r
  cases r <;> rfl
theorem fcF_mem {L : List Fc} {q : Value} {x : Fc} (h : fcF L q = some x) : x ∈ L ∧ k32 x.a = q := by
  unfold fcF at h
  exact ⟨List.mem_of_find?_eq_some h, by simpa using List.find?_some h⟩
set_option maxHeartbeats 2000000 in
theorem ffaces_any {w : World} {n c : Nat} {A : Option Addr} {L : List Fc} (h : Lf w w.heap.size A n L) (hn : n ≤ 1000) (ha : ∀ x ∈ L, x.a < 4294967296) :
    Calls Try.prog 31 #[.slice A n c] w fun e w' => e = .returned (.map (some w.heap.size)) ∧ Mp Try.prog 51 z73 w' w.heap.size n (mapF L) (mapG L) ∧ RowKit.Below w.heap.size w w' := by
  have hmm := @run_makeMap Try.prog
  obtain ⟨W, hW⟩ : ∃ W, W = w.alloc (.map #[] 0) := ⟨_, rfl⟩
  have hb : RowKit.Below w.heap.size w W := by rw [hW]; exact (Below.refl _ _).alloc (Nat.le_refl _) _
  have hmp : Mp Try.prog 51 z73 W w.heap.size 0 (mapF []) (mapG []) := by rw [hW]; exact Mp.made Try.prog 51 z73 w
  have HW := Lib.hid hW
  have HMp := Lib.hid hmp
  have HB := Lib.hid hb
  have HL := Lib.hid h
  have HA := Lib.hid ha
  have HN := Lib.hid h.1
  clear hW hmp hb h ha
  go_enter Try.func31, Try.ntmps31
  go_upto_region 2 with fail
  rw [← HW.out]
  clear hmm
  go_wp2_with fail
  go_loopw [11] (fun i wr => ∃ j, j ≤ n ∧ i = .int .i64 ((j : Nat) : Int) ∧ Mp Try.prog 51 z73 wr w.heap.size j (mapF (L.take j)) (mapG (L.take j)) ∧ RowKit.Below w.heap.size w wr) (fun i _ => (n - (match i with | .int _ z => z.toNat | _ => 0)))
  case atStart => exact ⟨0, by omega, rfl, HMp.out, HB.out⟩
  case round =>
    obtain ⟨j, hjn, rfl, hm, hb⟩ := hrel
    have HM := Lib.hid hm
    have HBr := Lib.hid hb
    clear hm hb
    by_cases hj : j < n
    · have e1 : (j : Int) < (n : Int) := by omega
      obtain ⟨x, hx⟩ : ∃ x, L[j]? = some x := ⟨_, List.getElem?_eq_getElem (by have := HN.out; omega)⟩
      have hlg := HL.out.below HBr.out (Nat.le_refl _)
      rcases hlg.2.2 with he3 | ⟨g, off, hAA, hg, hcl⟩
      · omega
      obtain ⟨d0, d1⟩ := hcl j x hx
      have hxa := HA.out x (List.mem_of_getElem? hx)
      obtain ⟨kl, hkl⟩ := key51 hxa
      rw [hAA]
      obtain ⟨wa, hwa⟩ : ∃ wa, wa = wr.alloc (.cells #[.int .u32 (x.a : Int), .slice x.A x.n x.c] 73) := ⟨_, rfl⟩
      have hbx : RowKit.Below wr.heap.size wr wa := by rw [hwa]; exact (Below.refl _ _).alloc (Nat.le_refl _) _
      have hbox : wa.heap[wr.heap.size]? = some (.cells #[.int .u32 (x.a : Int), .slice x.A x.n x.c] 73 (0, 0)) := by rw [hwa]; exact heap_alloc_new wr _
      have b0 : wa.cell? ⟨wr.heap.size, 0, none⟩ = some (.int .u32 (x.a : Int)) := by simp [World.cell?, hbox]
      have b1 : wa.cell? ⟨wr.heap.size, 1, none⟩ = some (.slice x.A x.n x.c) := by simp [World.cell?, hbox]
      have HMa := Lib.hid (HM.out.keep (w' := wa) (hbx.block _ HM.out.lt))
      have HBa := Lib.hid (bthen HBr.out hbx (Nat.le_refl _))
      have HTk := Lib.hid (show L.take (j + 1) = L.take j ++ [x] by rw [List.take_add_one, hx]; rfl)
      have HWa := Lib.hid hwa
      have HKl := Lib.hid hkl
      have HJ := Lib.hid hj
      have HBox := Lib.hid hbox
      have s0 : wrap64 ((j : Int) + 1) = ((j + 1 : Nat) : Int) := by unfold wrap64; omega
      have hsz : wa.heap.size = wr.heap.size + 1 := by rw [hwa]; simp
      clear hcl hx hlg hg hxa hwa hbx hkl hj
      cases hgx : mapG (L.take j) (k32 x.a) with
      | true =>
        have HMn := Lib.hid (map_there hgx)
        have hlook : (Instr.lookup 91 (.map (some w.heap.size)) (.int .u32 (x.a : Int)) true).run Try.prog wa = .ok (.tuple #[mapF (L.take j) (k32 x.a), .bool true]) wa := by
          have := HMa.out.look_okK keyed51 Try.underlying91 (zero73 _) HKl.out
          rw [hgx] at this
          exact this
        obtain ⟨y, hy⟩ : ∃ y : Fc, mapF (L.take j) (k32 x.a) = .agg #[.int .u32 (y.a : Int), .slice y.A y.n y.c] := by
          unfold mapG at hgx
          obtain ⟨y, hy⟩ := Option.isSome_iff_exists.1 hgx
          exact ⟨y, by unfold mapF; rw [hy]⟩
        rw [hy] at hlook
        have HY := Lib.hid hy
        clear hgx hy
        go_upto_region 5 with fail
        rw [← HWa.out]
        go_wp2_with fail
        refine ⟨⟨j + 1, HJ.out, by go_num, ?_, ?_⟩, by show n - ((j : Int) + 1).toNat < n - (j : Int).toNat; have := HJ.out; omega⟩
        · rw [HTk.out, HMn.out.1, HMn.out.2]
          exact (HMa.out.keep ((Below.refl wa.heap.size wa).alloc (Nat.le_refl _) _ |>.block _ HMa.out.lt)).mono (Nat.le_succ j)
        · exact HBa.out.alloc HBa.out.size _
      | false =>
        have HMn := Lib.hid (map_new hgx)
        have hlook : (Instr.lookup 91 (.map (some w.heap.size)) (.int .u32 (x.a : Int)) true).run Try.prog wa = .ok (.tuple #[.agg #[.int .u32 0, .slice none 0 0], .bool false]) wa := by
          have := HMa.out.look_okK keyed51 Try.underlying91 (zero73 _) HKl.out
          rw [hgx, show mapF (L.take j) (k32 x.a) = z73 by unfold mapG at hgx; unfold mapF; rw [Option.isNone_iff_eq_none.1 (Option.isSome_eq_false_iff.1 hgx)]] at this
          exact this
        clear hgx
        obtain ⟨wc, hwc⟩ : ∃ wc, wc = wa.alloc (.cells #[.int .u32 0, .slice none 0 0] 73) := ⟨_, rfl⟩
        have hbc : RowKit.Below wa.heap.size wa wc := by rw [hwc]; exact (Below.refl _ _).alloc (Nat.le_refl _) _
        have HMc := Lib.hid (HMa.out.keep (w' := wc) (hbc.block _ HMa.out.lt))
        have f0 : wc.cell? ⟨wr.heap.size, 0, none⟩ = some (.int .u32 (x.a : Int)) := (hbc.cell (p := ⟨wr.heap.size, 0, none⟩) (by rw [hsz]; exact Nat.lt_succ_self _)).trans b0
        have f1 : wc.cell? ⟨wr.heap.size, 1, none⟩ = some (.slice x.A x.n x.c) := (hbc.cell (p := ⟨wr.heap.size, 1, none⟩) (by rw [hsz]; exact Nat.lt_succ_self _)).trans b1
        obtain ⟨wd, hrun, hmd, hgd⟩ := HMc.out.putK keyed51 Try.underlying91 (by unfold maxLen; omega) HKl.out (fcV x)
        have hrun' : (Instr.mapUpdate 91 (.map (some w.heap.size)) (.int .u32 (x.a : Int)) (.agg #[.int .u32 (x.a : Int), .slice x.A x.n x.c])).run Try.prog wc = .ok () wd := hrun
        have HWc := Lib.hid hwc
        have HMd := Lib.hid hmd
        have HBd := Lib.hid (show RowKit.Below w.heap.size w wd from (bthen HBa.out hbc (Nat.le_refl _)).grown hgd (Nat.le_trans HBa.out.size hbc.size) fun k e => by cases e; exact Nat.le_refl _)
        clear hwc hbc hmd hgd hrun
        go_upto_region 5 with fail
        rw [← HWa.out]
        go_upto_region 7 with fail
        rw [← HWc.out]
        go_wp2_with fail
        refine ⟨⟨j + 1, HJ.out, by go_num, ?_, HBd.out⟩, by show n - ((j : Int) + 1).toNat < n - (j : Int).toNat; have := HJ.out; omega⟩
        rw [HTk.out, HMn.out.1, HMn.out.2]
        exact HMd.out
    · have e1' : ((j : Int) < (n : Int)) = False := by simp only [eq_iff_iff, iff_false]; omega
      have hjn2 : j = n := by omega
      subst hjn2
      have HTk := Lib.hid (show L.take j = L from List.take_of_length_le (by have := HN.out; omega))
      go_wp2_with fail
      go_ret
      exact ⟨rfl, by have := HM.out; rw [HTk.out] at this; exact this, HBr.out⟩
end Go.Proofs.Ytompggkdjbkjjaa
