/- audit: what is matched. -/
import Derived.Test.YtompggkdjbkjjaaA9
namespace Go.Proofs.Ytompggkdjbkjjaa
open Go.RowKit Go.Maps Go.MapKept Go.ChangeMaps
set_option linter.unusedVariables false
set_option maxRecDepth 100000
/-- what waits under each key, and what was given so far -/
structure Ms where
  L : Value → List Nat
  out : List (Nat × Int)
/-- the event number j -/
noncomputable def mstep (s : Ms) (j : Nat) (x : Em) : Ms :=
  if x.k = 1 then ⟨upd s.L (kv x.h x.p x.xs) (s.L (kv x.h x.p x.xs) ++ [j]), s.out⟩
  else if x.k = 3 then ⟨upd s.L (kv x.p x.h x.xs) (s.L (kv x.p x.h x.xs)).tail, s.out ++ [(j, headI (s.L (kv x.p x.h x.xs)))]⟩
  else s
noncomputable def mrun (E : List Em) : Ms := E.zipIdx.foldl (fun s p => mstep s p.2 p.1) ⟨fun _ => [], []⟩
theorem mrun_snoc (E : List Em) (x : Em) : mrun (E ++ [x]) = mstep (mrun E) E.length x := by
  unfold mrun
  rw [List.zipIdx_append, List.foldl_append]
  simp
theorem mrun_take {E : List Ev} {j : Nat} {x : Ev} (h : E[j]? = some x) : mrun ((E.take (j + 1)).map Ev.m) = mstep (mrun ((E.take j).map Ev.m)) j x.m := by
  have hlt : j < E.length := (List.getElem?_eq_some_iff.1 h).1
  rw [List.take_add_one, h, List.map_append]
  show mrun (_ ++ [x.m]) = _
  rw [mrun_snoc]
  simp
  congr 1
  omega
theorem mrun_ind {mo : List Em → Ms → Prop} (h0 : mo [] ⟨fun _ => [], []⟩) (hs : ∀ E x, mo E (mrun E) → mo (E ++ [x]) (mstep (mrun E) E.length x)) : ∀ E, mo E (mrun E) := by
  have key : ∀ n (E : List Em), E.length = n → mo E (mrun E) := by
    intro n
    induction n with
    | zero => intro E hE; rw [List.eq_nil_of_length_eq_zero hE]; exact h0
    | succ n ih =>
      intro E hE
      rcases List.eq_nil_or_concat E with rfl | ⟨E', x, rfl⟩
      · cases hE
      · rw [List.concat_eq_append, mrun_snoc]
        simp at hE
        exact hs E' x (ih E' (by omega))
  exact fun E => key _ E rfl
theorem mrun_lens (E : List Em) : (mrun E).out.length ≤ E.length ∧ ∀ q, ((mrun E).L q).length ≤ E.length := by
  refine mrun_ind (mo := fun E s => s.out.length ≤ E.length ∧ ∀ q, (s.L q).length ≤ E.length) ⟨Nat.le_refl _, fun q => Nat.le_refl _⟩ (fun E x ih => ?_) E
  unfold mstep
  split
  · refine ⟨by simp; omega, fun q => ?_⟩
    dsimp only
    by_cases e : q = kv x.h x.p x.xs
    · rw [e, upd_same]; have := ih.2 (kv x.h x.p x.xs); simp; omega
    · rw [upd_other _ _ e]; have := ih.2 q; simp; omega
  · split
    · refine ⟨by simp; omega, fun q => ?_⟩
      dsimp only
      by_cases e : q = kv x.p x.h x.xs
      · rw [e, upd_same]; have := ih.2 (kv x.p x.h x.xs); simp; omega
      · rw [upd_other _ _ e]; have := ih.2 q; simp; omega
    · exact ⟨by simp; omega, fun q => by have := ih.2 q; simp; omega⟩
def ps (out : List (Nat × Int)) : List Value := out.flatMap fun p => [.int .i64 (p.1 : Int), .int .i64 p.2]
theorem ps_len (out : List (Nat × Int)) : (ps out).length = out.length * 2 := by
  induction out with
  | nil => rfl
  | cons x o ih => simp only [ps, List.flatMap_cons, List.length_append, List.length_cons] at ih ⊢; rw [ih]; simp; omega
theorem ps_get {out : List (Nat × Int)} {i : Nat} {p : Nat × Int} (h : out[i]? = some p) : (ps out)[i * 2]? = some (.int .i64 (p.1 : Int)) ∧ (ps out)[i * 2 + 1]? = some (.int .i64 p.2) := by
  induction out generalizing i with
  | nil => cases h
  | cons y o ih =>
    cases i with
    | zero => cases h; exact ⟨rfl, rfl⟩
    | succ i =>
      have := ih (i := i) h
      rw [show (i + 1) * 2 = i * 2 + 1 + 1 by omega]
      exact this
theorem i33 : (Try.prog.info? 33).map (fun i => (i.zero, i.size, i.bytes)) = some (some (.agg #[.int .i64 0, .int .i64 0]), 2, 16) := by kernel_rfl
theorem wpList_app_run {w : World} {ops : Array Oper} {rest : List Oper} {o : Oper} {a : Act} {Q : Exit → Act → World → Prop} (hgd : o.guard = none) (s x : Operand) (t tn : TypeId)
    (ho : o.op = .call { callee := .builtin .append, args := #[s, x], argTypes := #[t, tn] }) {vs vx v' : Value} {w' : World} (hs : a.eval s = vs) (hx : a.eval x = vx)
    (hr : (Builtin.append_ #[t, tn] o.type #[vs, vx]).run Try.prog w = .ok v' w') (h : wpList Try.prog ops Q rest (a.put o.dst v') w') : wpList Try.prog ops Q (o :: rest) a w := by
  refine wpList_plain hgd fun K hK => ?_
  unfold Oper.wp execOp
  simp only [ho, resolve, invoke, builtin, Sem.run_bind, Sem.run_pure, Result.andThen_ok, List.map_toArray, List.map_cons, List.map_nil, hs, hx, hr]
  exact hK _ _ h
set_option maxHeartbeats 4000000 in
theorem match_any {w : World} {B n c : Nat} {A : Option Addr} {E : List Ev} (h : Lg w B A n E) (hB : B ≤ w.heap.size) (hn : n ≤ 1000) (hl : ∀ x ∈ E, x.n ≤ 1073741824) (hok : ∀ x ∈ E, x.ok) :
    Calls Try.prog 11 #[.slice A n c] w fun e w' => ∃ A' c', e = .returned (.slice A' (mrun (E.map Ev.m)).out.length c') ∧ Gw w' w.heap.size 33 2 A' (mrun (E.map Ev.m)).out.length c' (ps (mrun (E.map Ev.m)).out) ∧ RowKit.Below w.heap.size w w' := by
  have HE := Lib.hid h
  have HL := Lib.hid hl
  have HK := Lib.hid hok
  have HN := Lib.hid h.1
  have HBw := Lib.hid hB
  clear h hl hB hok
  have hmm := @run_makeMap Try.prog
  go_enter Try.func11, Try.ntmps11
  go_wp2_with fail
  clear hmm
  go_loopw [3, 11] (fun v i wr => ∃ j A' c' F, j ≤ n ∧ i = .int .i64 ((j : Nat) : Int) ∧ v = .slice A' (mrun ((E.take j).map Ev.m)).out.length c' ∧ Gw wr (w.heap.size + 1) 33 2 A' (mrun ((E.take j).map Ev.m)).out.length c' (ps (mrun ((E.take j).map Ev.m)).out) ∧
      Pd wr (w.heap.size + 1) w.heap.size j (blk A') (mrun ((E.take j).map Ev.m)).L F ∧ RowKit.Below w.heap.size w wr) (fun _ i _ => (n - (match i with | .int _ z => z.toNat | _ => 0)))
  case atStart => exact ⟨0, none, 0, _, by omega, rfl, rfl, Gw.nil _ _ _ _, Pd.made w, (Below.refl _ _).alloc (Nat.le_refl _) _⟩
  case round =>
    obtain ⟨j, A1, c1, F, hjn, rfl, rfl, hg, hp, hb⟩ := hrel
    have HG := Lib.hid hg
    have HP := Lib.hid hp
    have HBe := Lib.hid hb
    clear hg hp hb
    by_cases hj : j < n
    · have e1 : (j : Int) < (n : Int) := by omega
      obtain ⟨x, hx⟩ : ∃ x, E[j]? = some x := ⟨_, List.getElem?_eq_getElem (by have := HN.out; omega)⟩
      have hlg := HE.out.below HBe.out HBw.out
      have hxt := (hlg.2.1 x (List.mem_of_getElem? hx))
      rcases hlg.2.2 with he3 | ⟨g, off, hA, hg, hcl⟩
      · omega
      obtain ⟨d0, d1, d2, d3, d4⟩ := hcl j x hx
      have hxl := HL.out x (List.mem_of_getElem? hx)
      have hxk := HK.out x (List.mem_of_getElem? hx)
      have HST := Lib.hid (mrun_take hx)
      have HXl := Lib.hid hxl
      have HXk := Lib.hid hxk
      rw [hA]
      have s0 : wrap64 ((j : Int) + 1) = ((j + 1 : Nat) : Int) := by unfold wrap64; omega
      have HJ := Lib.hid hj
      obtain ⟨wa, hwa⟩ : ∃ wa, wa = wr.alloc (.cells #[.int .i64 x.k, .int .u32 (x.h : Int), .int .u32 (x.p : Int), .int .i64 x.at_, .slice x.A x.n x.c] 58) := ⟨_, rfl⟩
      have hbx : RowKit.Below wr.heap.size wr wa := by rw [hwa]; exact (Below.refl _ _).alloc (Nat.le_refl _) _
      have HAl := Lib.hid (show EBox wa wr.heap.size 58 x by rw [hwa]; exact EBox.new wr 58 x)
      have HBx := Lib.hid hbx
      have HBa := Lib.hid (bthen HBe.out hbx (Nat.le_refl _))
      have HXt := Lib.hid (hxt.below (hbx.mono (Nat.le_trans HBw.out HBe.out.size)))
      have HGa := Lib.hid (HG.out.below hbx)
      have HPa := Lib.hid (HP.out.below hbx)
      have HWa := Lib.hid hwa
      have hlen := mrun_lens ((E.take j).map Ev.m)
      have HLen := Lib.hid (show (mrun ((E.take j).map Ev.m)).out.length ≤ j ∧ ∀ q, ((mrun ((E.take j).map Ev.m)).L q).length ≤ j from by simpa [Nat.min_eq_left (Nat.le_trans hjn (Nat.le_of_eq HN.out.symm))] using hlen)
      clear hcl hx hxl hxk hxt hlg hg hj hbx hwa hlen
      generalize hM : mrun ((E.take j).map Ev.m) = M at *
      clear hM
      obtain ⟨b0, b1, b2, b3, b4⟩ := HAl.out.cells
      go_upto_region 6 with fail
      rw [← HWa.out]
      by_cases h1 : x.k = 1
      · obtain ⟨W2, hW2⟩ : ∃ W2, W2 = wa.alloc (.cells #[.int .u32 (x.h : Int), .int .u32 (x.p : Int), .string (bstr x.xs)] 63) := ⟨_, rfl⟩
        have hb2 : RowKit.Below wa.heap.size wa W2 := by rw [hW2]; exact (Below.refl _ _).alloc (Nat.le_refl _) _
        have hbox2 : W2.heap[wa.heap.size]? = some (.cells #[.int .u32 (x.h : Int), .int .u32 (x.p : Int), .string (bstr x.xs)] 63 (0, 0)) := by rw [hW2]; exact heap_alloc_new wa _
        obtain ⟨W3, hW3⟩ : ∃ W3, W3 = W2.alloc (.cells #[.int .i64 (j : Int)] 3) := ⟨_, rfl⟩
        have hb3 : RowKit.Below W2.heap.size W2 W3 := by rw [hW3]; exact (Below.refl _ _).alloc (Nat.le_refl _) _
        have hbox3 : W3.heap[W2.heap.size]? = some (.cells #[.int .i64 (j : Int)] 3 (0, 0)) := by rw [hW3]; exact heap_alloc_new W2 _
        obtain ⟨kl, hkl⟩ := key63 HXk.out.2.1 HXk.out.2.2.1 (xs := x.xs) (by have := HXt.out.len; have := HXl.out; unfold maxLen; omega)
        have hP3 := (HPa.out.below hb2).below hb3
        obtain ⟨gm, hM3⟩ := hP3.map
        obtain ⟨st, W4, hme, hg4, hst⟩ := hM3.entry law63 Try.underlying59 zero30 (by unfold maxLen; omega) hkl
        have hb0 : w.heap.size < W2.heap.size := by have := hP3.b_lt; have h2 := (HPa.out.below hb2).b_lt; exact h2
        have hbox4 : W4.heap[W2.heap.size]? = some (.cells #[.int .i64 (j : Int)] 3 (0, 0)) := (hg4.block _ ((Array.getElem?_eq_some_iff.1 hbox3).1) (by simp; omega)).trans hbox3
        have hsv4 : Sv W4 (w.heap.size + 1) (F (kv x.h x.p x.xs)) (M.L (kv x.h x.p x.xs)) := (hP3.rows _).keep hg4.size fun k hk hlt => hg4.block k hlt (by have := ((hP3.rows (kv x.h x.p x.xs)).blk_lt k hk).1; simp; omega)
        obtain ⟨v', W5, happ, hsv5, hg5, hloc⟩ := hsv4.push (by have h1 := hP3.b_lt; have := hg4.size; omega) (by have := HLen.out.2 (kv x.h x.p x.xs); omega) 30 hbox4
        obtain ⟨W6, hes, hM6, hg6⟩ := hst W5 v' (hg5.block _ (Nat.lt_of_lt_of_le hP3.b_lt hg4.size) fun e => by have := ((hP3.rows (kv x.h x.p x.xs)).blk_lt _ e.symm).1; omega)
        have hP6 := hP3.store hg4 hg5 hsv5 (hloc.imp id fun ⟨k, e, hk⟩ => .inr ⟨k, e, Nat.le_trans hg4.size hk⟩) hg6 (fun k hk => Nat.lt_of_lt_of_le (HGa.out.blk_lt k hk).2 (Nat.le_trans hb2.size hb3.size)) ⟨_, hM6⟩
        have hconv : (convert 52 9 (.slice x.A x.n x.c)).run Try.prog wa = .ok (.string (bstr x.xs)) wa := conv_any HXt.out
        have hown := HPa.out.off (kv x.h x.p x.xs)
        have hrowlt := (hP3.rows (kv x.h x.p x.xs)).blk_lt
        have HG6 := Lib.hid (show Gw W6 (w.heap.size + 1) 33 2 A1 M.out.length c1 (ps M.out) from HGa.out.keep fun k hk => by
          have hk2 := HGa.out.blk_lt k hk
          have hkb : k ≠ w.heap.size := by omega
          refine (hg6.block k (Nat.lt_of_lt_of_le hk2.2 (Nat.le_trans hb2.size (Nat.le_trans hb3.size (Nat.le_trans hg4.size hg5.size)))) (by simpa using hkb)).trans
            ((hg5.block k (Nat.lt_of_lt_of_le hk2.2 (Nat.le_trans hb2.size (Nat.le_trans hb3.size hg4.size))) fun e => ?_).trans
            ((hg4.block k (Nat.lt_of_lt_of_le hk2.2 (Nat.le_trans hb2.size hb3.size)) (by simpa using hkb)).trans ((hb3.block k (Nat.lt_of_lt_of_le hk2.2 hb2.size)).trans (hb2.block k hk2.2))))
          rcases hown with e2 | e2
          · rw [e2] at e; cases e
          · exact e2 (e.symm.trans hk.symm))
        have HB6 := Lib.hid (show RowKit.Below w.heap.size w W6 from by
          have b3 := (bthen (bthen HBa.out hb2 (Nat.le_refl _)) hb3 (Nat.le_refl _))
          have b4 := b3.grown hg4 b3.size (fun k hk => by cases hk; exact Nat.le_refl _)
          have b5 := b4.grown hg5 b4.size (fun k hk => by have := (hrowlt k hk).1; omega)
          exact b5.grown hg6 b5.size (fun k hk => by cases hk; exact Nat.le_refl _))
        have HApp := Lib.hid happ
        have HP6 := Lib.hid hP6
        have HW2 := Lib.hid hW2
        have HW3 := Lib.hid hW3
        have HMs := Lib.hid (show mrun ((E.take (j + 1)).map Ev.m) = ⟨upd M.L (kv x.h x.p x.xs) (M.L (kv x.h x.p x.xs) ++ [j]), M.out⟩ by rw [HST.out]; unfold mstep; exact if_pos h1)
        obtain ⟨f1, f2, f3⟩ : W2.cell? ⟨wa.heap.size, 0, none⟩ = some (.int .u32 (x.h : Int)) ∧ W2.cell? ⟨wa.heap.size, 1, none⟩ = some (.int .u32 (x.p : Int)) ∧ W2.cell? ⟨wa.heap.size, 2, none⟩ = some (.string (bstr x.xs)) := by
          refine ⟨?_, ?_, ?_⟩ <;> simp [World.cell?, hbox2]
        rw [hW3] at hme
        unfold kv at hme
        generalize hv0 : F (Value.agg #[.int .u32 (x.h : Int), .int .u32 (x.p : Int), .string (bstr x.xs)]) = v0 at *
        rw [show F (kv x.h x.p x.xs) = v0 from hv0] at HApp
        clear hP6 hown hrowlt hM6 hg6 hloc hg5 hsv5 happ hsv4 hbox4 hb0 hst hg4 hM3 hP3 hkl hbox3 hb3 hW3 hbox2 hb2 hW2 hv0
        have hes' : (Instr.entryStore 59 (.map (some w.heap.size)) (.int .i64 st) v').run Try.prog W5 = .ok () W6 := hes
        clear hes
        go_upto_region 9 with fail
        rw [← HW2.out]
        go_wp2_with (at_builtin; refine wpList_app_run rfl (.tmp 31) (.tmp 33) 30 30 rfl rfl rfl HApp.out ?_)
        exact ⟨⟨j + 1, A1, c1, _, HJ.out, by go_num, by rw [HMs.out], by rw [HMs.out]; exact HG6.out, by rw [HMs.out]; exact HP6.out, HB6.out⟩, by show n - ((j : Int) + 1).toNat < n - (j : Int).toNat; have := HJ.out; omega⟩
      · by_cases h3 : x.k = 3
        · obtain ⟨kl, hkl⟩ := key63 HXk.out.2.2.1 HXk.out.2.1 (xs := x.xs) (by have := HXt.out.len; have := HXl.out; unfold maxLen; omega)
          have hbw : w.heap.size < wr.heap.size := HP.out.b_lt
          have hcv : ∀ W', RowKit.Below w.heap.size w W' → Nb W' B x.A x.n x.c x.xs → (convert 52 9 (.slice x.A x.n x.c)).run Try.prog W' = .ok (.string (bstr x.xs)) W' := fun W' _ h => conv_any h
          have HCv := Lib.hid hcv
          have HT := Lib.hid (fun (W' : World) (F' : Value → Value) (hP : Pd W' (w.heap.size + 1) w.heap.size j (blk A1) M.L F') (hO : ∀ k, blk A1 = some k → k < W'.heap.size) =>
            (take_any hP hO (by omega) HXk.out.2.2.1 HXk.out.2.1 (xs := x.xs) (by have := HXt.out.len; have := HXl.out; unfold maxLen; omega) : Calls Try.prog 22 #[.map (some w.heap.size), .agg #[.int .u32 (x.p : Int), .int .u32 (x.h : Int), .string (bstr x.xs)]] W' _))
          have HMs := Lib.hid (show mrun ((E.take (j + 1)).map Ev.m) = ⟨upd M.L (kv x.p x.h x.xs) (M.L (kv x.p x.h x.xs)).tail, M.out ++ [(j, headI (M.L (kv x.p x.h x.xs)))]⟩ by rw [HST.out]; unfold mstep; exact (if_neg h1).trans (if_pos h3))
          have h1' : (x.k == 1) = false := by simpa using h1
          have HNb := Lib.hid (fun (W' : World) (hb : RowKit.Below w.heap.size wa W') => HXt.out.below (hb.mono HBw.out))
          have hc0 := HCv.out wa HBa.out HXt.out
          have hc1 : (convert 52 9 (.slice x.A x.n x.c)).run Try.prog wa.drew = .ok (.string (bstr x.xs)) wa.drew := conv_any (HXt.out.keep fun _ _ => rfl)
          have HC1 := Lib.hid (And.intro hc0 hc1)
          have HHd := Lib.hid (show headI (M.L (kv x.p x.h x.xs)) = headI (M.L (kv x.p x.h x.xs)) from rfl)
          obtain ⟨hd, hhd⟩ : ∃ hd, hd = headI (M.L (kv x.p x.h x.xs)) := ⟨_, rfl⟩
          rw [← hhd] at HMs
          rw [← hhd] at HT
          have HBt := Lib.hid hbw
          clear hcv hc0 hc1 hkl HHd hhd hbw
          go_upto_region 11 with fail
          clear h1 h3 h1'
          go_region_held3 (fun w' => (w'.cell? ⟨wr.heap.size, 0, none⟩ = some (.int .i64 x.k) ∧ w'.cell? ⟨wr.heap.size, 1, none⟩ = some (.int .u32 (x.h : Int)) ∧ w'.cell? ⟨wr.heap.size, 2, none⟩ = some (.int .u32 (x.p : Int)) ∧ w'.cell? ⟨wr.heap.size, 3, none⟩ = some (.int .i64 x.at_) ∧ w'.cell? ⟨wr.heap.size, 4, none⟩ = some (.slice x.A x.n x.c)) ∧ (convert 52 9 (.slice x.A x.n x.c)).run Try.prog w' = .ok (.string (bstr x.xs)) w')
            (first | exact ⟨⟨b0, b1, b2, b3, b4⟩, HC1.out.1⟩ | exact ⟨⟨b0, b1, b2, b3, b4⟩, HC1.out.2⟩ | exact HS2.out | exact HS3.out | exact HS3a.out | exact HS4.out)
            (first
              | (go_at_call 23; refine (teller_any x _).mono ?_
                 rintro e w2 ⟨rfl, hb2⟩
                 have HB2 := Lib.hid (((Below.refl wa.heap.size wa).drew).trans hb2)
                 have HBw2 := Lib.hid (bthen HBa.out HB2.out (Nat.le_refl _))
                 have HP2 := Lib.hid (HPa.out.below HB2.out)
                 have HG2 := Lib.hid (HGa.out.below HB2.out)
                 have HS2 := Lib.hid (And.intro (HAl.out.below HB2.out).cells (HCv.out w2 HBw2.out (HNb.out w2 (HB2.out.mono HBa.out.size))))
                 clear hb2)
              | (go_at_call 22; refine (HT.out _ _ HP2.out (fun k hk => (HG2.out.blk_lt k hk).2)).mono ?_
                 rintro e w3 ⟨rfl, hp3, hg3⟩
                 have HP3 := Lib.hid hp3
                 have HBw3 := Lib.hid (HBw2.out.grown hg3 HBw2.out.size (fun k hk => by cases hk; exact Nat.le_refl _))
                 have HG3 := Lib.hid (HG2.out.keep (w' := w3) fun k hk => hg3.block k (HG2.out.blk_lt k hk).2 (by have := (HG2.out.blk_lt k hk).1; simp; omega))
                 have HX3 := Lib.hid (show EBox w3 wr.heap.size 58 x from (hg3.block _ (HAl.out.below HB2.out).lt (by have := HBt.out; simp; omega)).trans (HAl.out.below HB2.out))
                 have HN3 := Lib.hid (show Nb w3 B x.A x.n x.c x.xs from (HXt.out.below ((HB2.out.mono HBa.out.size).mono HBw.out)).keep fun p hp => World.cell?_of_block (hg3.block p.block (by have := HBw.out; have := HBw2.out.size; omega) (by have := HBw.out; simp; omega)))
                 have HS3 := Lib.hid (And.intro HX3.out.cells (HCv.out w3 HBw3.out HN3.out))
                 have HA3 := Lib.hid ((Below.refl w3.heap.size w3).alloc (Nat.le_refl _) (.cells #[.int .i64 (j : Int), .int .i64 hd] 33))
                 have HG3a := Lib.hid (HG3.out.below HA3.out)
                 have HX3a := Lib.hid (HX3.out.below HA3.out)
                 have HN3a := Lib.hid (HN3.out.below (HA3.out.mono (Nat.le_trans HBw.out HBw3.out.size)))
                 have HBw3a := Lib.hid (bthen HBw3.out HA3.out (Nat.le_refl _))
                 have HS3a := Lib.hid (And.intro HX3a.out.cells (HCv.out _ HBw3a.out HN3a.out))
                 clear hp3 hg3)
              | (refine wp_push _ (.tmp 39) (.tmp 50) 26 rfl Try.underlying26 i33 rfl (by decide) (by decide) [.int .i64 (j : Int), .int .i64 hd] rfl HG3a.out rfl rfl (heap_alloc_new _ _) (by intro u hu; simp at hu; rcases hu with rfl | rfl <;> rfl) (by have := HLen.out.1; omega) (Nat.le_trans (Nat.succ_le_of_lt HBt.out) (Nat.le_trans (Nat.le_of_lt HX3.out.lt) HA3.out.size)) ?_
                 intro A4 c4 w4 hg4 hr4
                 have HG4 := Lib.hid hg4
                 have hbA : blk A1 ≠ some w.heap.size := fun e => by have := (HG3a.out.blk_lt _ e).1; omega
                 have HP4 := Lib.hid (show ∃ F', Pd w4 (w.heap.size + 1) w.heap.size (j + 1) (blk A4) (upd M.L (kv x.p x.h x.xs) (M.L (kv x.p x.h x.xs)).tail) F' from by
                   obtain ⟨F3, hp3⟩ := HP3.out
                   exact ⟨F3, (hp3.below HA3.out).keep hr4.1 hbA hr4.2⟩)
                 have HB4 := Lib.hid (HBw3a.out.grown hr4.1 HBw3a.out.size (fun k hk => by have := (HG3a.out.blk_lt k hk).1; omega))
                 have HX4 := Lib.hid (show EBox w4 wr.heap.size 58 x from (hr4.1.block _ HX3a.out.lt (fun e => Nat.lt_irrefl _ (HG.out.blk_lt _ e.symm).2)).trans HX3a.out)
                 have HN4 := Lib.hid (show Nb w4 B x.A x.n x.c x.xs from HN3a.out.keep fun p hp => World.cell?_of_block (hr4.1.block p.block (by have := HBw.out; have := HBw3a.out.size; omega) (fun e => by have := (HG3a.out.blk_lt _ e.symm).1; have := HBw.out; omega)))
                 have HS4 := Lib.hid (And.intro HX4.out.cells (HCv.out w4 HB4.out HN4.out))
                 clear hg4 hr4 hbA))
          go_wp2_with fail
          obtain ⟨F4, HP4⟩ := HP4.out
          exact ⟨⟨j + 1, A4, c4, F4, HJ.out, by go_num, by rw [HMs.out]; simp, by rw [HMs.out]; simpa [ps] using HG4.out, by rw [HMs.out]; exact HP4, HB4.out⟩, by show n - ((j : Int) + 1).toNat < n - (j : Int).toNat; have := HJ.out; omega⟩
        · have h1' : (x.k == 1) = false := by simpa using h1
          have h3' : (x.k == 3) = false := by simpa using h3
          have HMs := Lib.hid (show mrun ((E.take (j + 1)).map Ev.m) = M by rw [HST.out]; unfold mstep; exact (if_neg h1).trans (if_neg h3))
          go_wp2_with fail
          exact ⟨⟨j + 1, A1, c1, _, HJ.out, by go_num, by rw [HMs.out], by rw [HMs.out]; exact HGa.out, by rw [HMs.out]; exact HPa.out.mono (Nat.le_succ j), HBa.out⟩, by show n - ((j : Int) + 1).toNat < n - (j : Int).toNat; have := HJ.out; omega⟩
    · have e1' : ((j : Int) < (n : Int)) = False := by simp only [eq_iff_iff, iff_false]; omega
      have hjn2 : j = n := by omega
      subst hjn2
      have HM4 := Lib.hid (show E.take j = E from List.take_of_length_le (by have := HN.out; omega))
      have HF := Lib.hid (show Gw wr w.heap.size 33 2 A1 _ c1 _ from ⟨HG.out.1, HG.out.2.imp id fun ⟨g, cap, cur, a1, a2, a3⟩ => ⟨g, cap, cur, a1, by omega, a3⟩⟩)
      rw [HM4.out] at HF ⊢
      go_wp2_with fail
      go_ret
      exact ⟨A1, c1, rfl, HF.out, HBe.out⟩
end Go.Proofs.Ytompggkdjbkjjaa
