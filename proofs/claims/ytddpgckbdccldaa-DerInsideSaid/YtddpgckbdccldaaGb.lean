/- reader.kids. reader.value. reader.value: the walk. -/
import Derived.Test.YtddpgckbdccldaaGa
import Derived.Sort.CutIn
namespace Go.Proofs.Ytddpgckbdccldaa
open Go.RowKit
set_option linter.unusedVariables false
set_option linter.unusedSimpArgs false
set_option maxRecDepth 100000
/-- what value hands back -/
def ValP (bs : List Nat) (L a h around : Nat) (g : Nat) (A : Option Addr) (n c : Nat) (w : World) (e : Ending) (w' : World) : Prop :=
  (∃ (p q : Nat) (hd : Hd), valM bs L a h around = .error (p, q) ∧ q ≠ 0 ∧ e = .returned (.tuple #[hd.val, .agg #[.int .i64 (p : Int), .int .i64 (q : Int)]]) ∧ Kp g w w' ∧ ∃ a' h', Rb w' g A n c a' h') ∨
  (∃ (t : T) (a' h' : Nat) (hd : Hd), valM bs L a h around = .ok (t, a', h') ∧ e = .returned (.tuple #[hd.val, .agg #[.int .i64 0, .int .i64 0]]) ∧ Kp g w w' ∧ Rb w' g A n c a' h' ∧ Tr (msk w' fun b => decide (w.heap.size ≤ b)) w'.heap.size (L + 1) hd t)
def ValC (L : Nat) : Prop := ∀ {w : World} {g : Nat} {A : Option Addr} {n c : Nat} {bs : List Nat} {a h around : Nat}, Rb w g A n c a h → Nb w g A n c bs → a ≤ n → around ≤ n → n ≤ 65535 → h ≤ 4096 →
  Calls Try.prog 45 #[.pointer (some ⟨g, 0, none⟩), .int .i64 (around : Int), .int .i64 (L : Int)] w (ValP bs L a h around g A n c w)
/-- what kids hands back -/
def KidP (bs : List Nat) (L : Nat) (t : Int) (to a h : Nat) (g : Nat) (A : Option Addr) (n c : Nat) (w : World) (e : Ending) (w' : World) : Prop :=
  (∃ (p q : Nat), kidsM (valM bs L) to (to - a) a h [] [] = .error (p, q) ∧ q ≠ 0 ∧ e = .returned (.tuple #[.slice none 0 0, .bool false, .agg #[.int .i64 (p : Int), .int .i64 (q : Int)]]) ∧ Kp g w w' ∧ ∃ a' h', Rb w' g A n c a' h') ∨
  (∃ (ts : List T) (ps : List (Nat × Nat)) (a' h' : Nat) (AL : Option Addr) (nl cl : Nat), kidsM (valM bs L) to (to - a) a h [] [] = .ok (ts, ps, a', h') ∧ e = .returned (.tuple #[.slice AL nl cl, .bool (decide (t ≠ 49) || risesP bs ps), .agg #[.int .i64 0, .int .i64 0]]) ∧ Kp g w w' ∧ Rb w' g A n c a' h' ∧ Ks (msk w' fun b => decide (w.heap.size ≤ b)) w'.heap.size (L + 1) AL nl cl ts)
/-- a number in memory -/
def rdN (w : World) (a : Addr) : Nat := match w.cell? a with
  | some (.int _ z) => z.toNat
  | _ => 0
theorem rdN_is {w : World} {a : Addr} {k : IntKind} {z : Int} (h : w.cell? a = some (.int k z)) : rdN w a = z.toNat := by unfold rdN; rw [h]
theorem KS.grow {w W W' : World} {g k s f : Nat} {A : Option Addr} {n c a h : Nat} {AL : Option Addr} {nl cl : Nat} {AP : Option Addr} {np cp : Nat} {hs : List Hd} {ts : List T} {ps : List (Nat × Nat)}
    (H : KS w W g k s f A n c a h AL nl cl AP np cp hs ts ps) (b : Below W.heap.size W W') : KS w W' g k s f A n c a h AL nl cl AP np cp hs ts ps := H.go (Kp.of b) (Bx.keep H.rb b H.rb.lt)
theorem box_cell {w : World} {k : Nat} {v : Value} {t : TypeId} (h : w.heap[k]? = some (.cells #[v] t (0, 0))) : w.cell? ⟨k, 0, none⟩ = some v := by
  rw [cell_of_row w k 0 _ t (0, 0) h]; rfl
theorem results_ttc {fn : Func} {p u v : Tmp} {ty : TypeId} (h : fn.results = #[.tmp u, .tmp v, .cell p ty]) (tmps : Array Value) (P : Program) (w : World) :
    (results fn tmps).run P w =
      ((asAddr (tmps.getD p undef)).run P w).andThen fun a w₁ => ((loadVar ty a).run P w₁).andThen fun x w₂ => .ok (.tuple #[tmps.getD u undef, tmps.getD v undef, x]) w₂ := by
  simp only [results, h]
  simp [Sem.run_bind, Result.andThen]
theorem res_three {fn : Func} {p u v : Tmp} (h : fn.results = #[.tmp u, .tmp v, .cell p 47]) {w : World} {tm : Array Value} {x y z z' : Value} {b : Nat} (h5 : tm.getD p undef = .pointer (some ⟨b, 0, none⟩)) (h4 : tm.getD u undef = x) (h3 : tm.getD v undef = y) (hb : B2 w b 47 z z') :
    (results fn tm).run Try.prog w = .ok (.tuple #[x, y, .agg #[z, z']]) w := by
  have e : (asAddr (.pointer (some ⟨b, 0, none⟩))).run Try.prog w = .ok ⟨b, 0, none⟩ w := by simp [asAddr]
  rw [results_ttc h, h5, h4, h3, e]
  simp only [Result.andThen]
  rw [run_loadVar_row _ b 47 47 _ (0, 0) _ hb Try.underlying47 rfl (by kernel_rfl)]
theorem KS.fin {w W : World} {g k s f : Nat} {A : Option Addr} {n c a h : Nat} {AL : Option Addr} {nl cl : Nat} {AP : Option Addr} {np cp : Nat} {hs : List Hd} {ts : List T} {ps : List (Nat × Nat)}
    (H : KS w W g k s f A n c a h AL nl cl AP np cp hs ts ps) (p q : Value) :
    Kp g w ((W.setCell ⟨s, 0, none⟩ p).setCell ⟨s, 1, none⟩ q) ∧ Rb ((W.setCell ⟨s, 0, none⟩ p).setCell ⟨s, 1, none⟩ q) g A n c a h ∧ B2 ((W.setCell ⟨s, 0, none⟩ p).setCell ⟨s, 1, none⟩ q) s 47 p q := by
  have hsg := H.sge
  have hgl := H.glt
  refine ⟨⟨H.kp.os, H.kp.tape, H.kp.output, by simpa [World.setCell] using H.kp.size, fun b hb hbg => ?_⟩, ?_, H.sb.set p q⟩
  · rw [← H.kp.block b hb hbg, Below.heap_setCell _ _ _ _ (by show b ≠ s; omega), Below.heap_setCell _ _ _ _ (by show b ≠ s; omega)]
  · have hne : s ≠ g := by omega
    have R := H.rb
    unfold Rb Bx at R ⊢
    simp [World.setCell, Array.getElem?_modify, R, hne]
theorem set_same {W : World} {s : Nat} {p q : Value} (X : B2 W s 47 p q) (b : Nat) : ((W.setCell ⟨s, 0, none⟩ p).setCell ⟨s, 1, none⟩ q).heap[b]? = W.heap[b]? := by
  by_cases hb : b = s
  · subst hb
    have := X.set p q
    unfold B2 at this X
    rw [this, X]
  · rw [Below.heap_setCell _ _ _ _ (by show b ≠ s; omega), Below.heap_setCell _ _ _ _ (by show b ≠ s; omega)]
theorem hcl_one (h : Hd) : ∀ v ∈ hcl h, v.oneCell' = true := by
  intro v hv
  simp [hcl] at hv
  rcases hv with rfl | rfl | rfl <;> rfl
theorem pcl_one (p : Nat × Nat) : ∀ v ∈ pcl p, v.oneCell' = true := by
  intro v hv
  simp [pcl] at hv
  rcases hv with rfl | rfl <;> rfl
theorem KS.done {w W : World} {g k s f : Nat} {A : Option Addr} {n c a h : Nat} {AL : Option Addr} {nl cl : Nat} {AP : Option Addr} {np cp : Nat} {hs : List Hd} {ts : List T} {ps : List (Nat × Nat)}
    (H : KS w W g k s f A n c a h AL nl cl AP np cp hs ts ps) (hn : nl ≤ 65535) :
    Ks (msk ((W.setCell ⟨s, 0, none⟩ (.int .i64 0)).setCell ⟨s, 1, none⟩ (.int .i64 0)) fun b => decide (w.heap.size ≤ b)) ((W.setCell ⟨s, 0, none⟩ (.int .i64 0)).setCell ⟨s, 1, none⟩ (.int .i64 0)).heap.size f AL nl cl ts :=
  (H.ks hn).keepS (by simp [World.setCell]) (msk_go (fun b _ hb => ⟨hb, set_same H.sb b⟩))
theorem kidsM_end (V : Nat → Nat → Nat → Except (Nat × Nat) (T × Nat × Nat)) (to : Nat) : ∀ (f h : Nat) (ks : List T) (ps : List (Nat × Nat)), kidsM V to f to h ks ps = .ok (ks, ps, to, h)
  | 0, h, ks, ps => rfl
  | f + 1, h, ks, ps => by rw [kidsM, if_neg (Nat.lt_irrefl _)]
set_option maxHeartbeats 8000000 in
theorem kids_any {L : Nat} (HV : ValC L) {w : World} {g : Nat} {A : Option Addr} {n c : Nat} {bs : List Nat} {a h to : Nat} (t : Int) (R : Rb w g A n c a h) (N : Nb w g A n c bs) (ha : a ≤ to) (hto : to ≤ n) (hn : n ≤ 65535) (hh : h ≤ 4096) :
    Calls Try.prog 64 #[.pointer (some ⟨g, 0, none⟩), .int .i64 t, .int .i64 (to : Int), .int .i64 (L : Int)] w (KidP bs L t to a h g A n c w) := by
  have hg := R.lt
  obtain ⟨w1, hw1⟩ : ∃ w1, w1 = (w.alloc (.cells #[.pointer (some ⟨g, 0, none⟩)] 83)).alloc (.cells #[.int .i64 0, .int .i64 0] 47) := ⟨_, rfl⟩
  have hb1 : Below w.heap.size w w1 := by rw [hw1]; exact ((Below.refl _ _).alloc (Nat.le_refl _) _).alloc (by simp) _
  have hk1 : w1.heap[w.heap.size]? = some (.cells #[.pointer (some ⟨g, 0, none⟩)] 83 (0, 0)) := by
    rw [hw1, heap_alloc_old _ _ (by simp)]; exact heap_alloc_new w _
  have hs1 : B2 w1 (w.heap.size + 1) 47 (.int .i64 0) (.int .i64 0) := by
    rw [hw1]
    have := B2.new (w.alloc (.cells #[.pointer (some ⟨g, 0, none⟩)] 83)) 47 (.int .i64 0) (.int .i64 0)
    simpa using this
  have HS1 : Hid (KS w w1 g w.heap.size (w.heap.size + 1) (L + 1) A n c a h none 0 0 none 0 0 [] [] []) :=
    ⟨Kp.of hb1, hg, Bx.keep R hb1 hg, hk1, Nat.le_refl _, hs1, by omega, Gw.nil _ _ _ _, Gw.nil _ _ _ _, (fun x e => by cases e), (fun x e => by cases e), rfl, rfl, rfl, (fun i hd t h1 _ => by simp at h1)⟩
  have HN := Lib.hid N
  have HLen := Lib.hid N.len
  have HLm := Lib.hid N.lim
  have HG := Lib.hid hg
  have HVC : Hid (ValC L) := @HV
  clear R N hb1 hk1 hs1 hg HV
  go_enter Try.func64, Try.ntmps64
  go_upto_region 1 with (fail)
  rw [← hw1]
  clear hw1
  go_wp2_with fail
  go_loopw [11, 12] (fun l p wr => ∃ (a' h' : Nat) (AL : Option Addr) (nl cl : Nat) (AP : Option Addr) (np cp : Nat) (hs : List Hd) (ts : List T) (ps : List (Nat × Nat)) (f : Nat), l = .slice AL nl cl ∧ p = .slice AP np cp ∧ a' ≤ to ∧ h' ≤ 4096 ∧ nl + h ≤ h' ∧ np + h ≤ h' ∧
      Hid (to - a' ≤ f) ∧ Hid (KS w wr g w.heap.size (w.heap.size + 1) (L + 1) A n c a' h' AL nl cl AP np cp hs ts ps) ∧ Hid (kidsM (valM bs L) to f a' h' ts ps = kidsM (valM bs L) to (to - a) a h [] []) ∧ Hid (∀ p, p ∈ ps → p.1 ≤ p.2 ∧ p.2 ≤ n)) (fun _ _ wr => to - rdN wr ⟨g, 1, none⟩)
  case atStart => exact ⟨a, h, none, 0, 0, none, 0, 0, [], [], [], to - a, rfl, rfl, ha, hh, by omega, by omega, Lib.hid (Nat.le_refl _), HS1, Lib.hid rfl, Lib.hid (fun p hp => by cases hp)⟩
  case round =>
    obtain ⟨a', h', AL, nl, cl, AP, np, cp, hs, ts, ps, f, rfl, rfl, ha', hh', hnl, hnp, hf, hS, hM, hP⟩ := hrel
    have kc := box_cell hS.out.kc
    obtain ⟨r0, r1, r2, g0, g1, g2⟩ := hS.out.rb.cells
    by_cases hlt : a' < to
    · have e1 : (a' : Int) < (to : Int) := by omega
      have hN2 := HN.out.keep (hS.out.kp.low (by have := HG.out; omega))
      have HC := Lib.hid (HVC.out hS.out.rb hN2 (by omega) hto hn hh')
      have HLT := Lib.hid hlt
      clear hN2 hlt
      go_wp2_with fail
      refine (HC.out).mono ?_
      rintro e w2 (⟨p, q, hd, hm, hq, rfl, k2, a2, h2, r2'⟩ | ⟨t', a2, h2, hd, hm, rfl, k2, r2', T2⟩)
      · have HF : Hid (kidsM (valM bs L) to (to - a) a h [] [] = .error (p, q)) := by
          rw [← hM.out]
          obtain ⟨f', e⟩ : ∃ f', f = f' + 1 := ⟨f - 1, by have := hf.out; have := HLT.out; omega⟩
          rw [e]
          show kidsM _ _ _ _ _ _ _ = _
          rw [kidsM, if_pos HLT.out, hm]
        have hb3 : Below w2.heap.size w2 ((w2.alloc (.cells hd.cells 25)).alloc (.cells #[.int .i64 (p : Int), .int .i64 (q : Int)] 47)) := ((Below.refl _ _).alloc (Nat.le_refl _) _).alloc (by simp) _
        have HS3 := Lib.hid ((hS.out.go k2 r2').grow hb3)
        have hx3 : B2 ((w2.alloc (.cells hd.cells 25)).alloc (.cells #[.int .i64 (p : Int), .int .i64 (q : Int)] 47)) (w2.heap.size + 1) 47 (.int .i64 (p : Int)) (.int .i64 (q : Int)) := by
          have := B2.new (w2.alloc (.cells hd.cells 25)) 47 (.int .i64 (p : Int)) (.int .i64 (q : Int))
          simpa using this
        obtain ⟨x0, x1, -, -⟩ := hx3.cells
        obtain ⟨s0, s1, s2, s3⟩ := HS3.out.sb.cells
        have hsl := HS3.out.sb
        have kq : ((q : Int) != 0) = true := by simp; omega
        have kq' : ((q : Int) = 0) = False := by simp; omega
        have HQ := Lib.hid hq
        have HLT2 := Lib.hid (show w.heap.size + 1 < w2.heap.size from (hS.out.go k2 r2').sb.lt)
        have hne3 : (w.heap.size + 1 = w2.heap.size + 1) = False := by have := HLT2.out; simp; omega
        have hne4 : (w2.heap.size + 1 = w.heap.size + 1) = False := by have := HLT2.out; simp; omega
        clear hm hq k2 r2' hb3 hx3 hsl
        obtain ⟨h0, h1, h2', h3, h4, h5, h6⟩ := hd
        unfold Hd.val Hd.cells at *
        dsimp only at *
        go_wp2_with fail
        go_region
        have HFn := Lib.hid (HS3.out.fin (.int .i64 (p : Int)) (.int .i64 (q : Int)))
        go_wp2_with fail
        refine bodyPost_ret (res_three rfl rfl rfl rfl HFn.out.2.2) rfl ?_
        exact .inl ⟨p, q, HF.out, HQ.out, rfl, HFn.out.1.drew, _, _, HFn.out.2.1⟩
      · obtain ⟨v1, v2, v3, v4⟩ := valM_adv L a' h' to hh' hm
        have HM2 : Hid (∃ f', f = f' + 1 ∧ kidsM (valM bs L) to f' a2 h2 (ts ++ [t']) (ps ++ [(a', a2)]) = kidsM (valM bs L) to (to - a) a h [] []) := by
          obtain ⟨f', e⟩ : ∃ f', f = f' + 1 := ⟨f - 1, by have := hf.out; have := HLT.out; omega⟩
          refine ⟨f', e, ?_⟩
          rw [← hM.out, e]
          show _ = kidsM _ _ _ _ _ _ _
          rw [kidsM, if_pos HLT.out, hm]
        have hb3 : Below w2.heap.size w2 ((w2.alloc (.cells hd.cells 25)).alloc (.cells #[.int .i64 0, .int .i64 0] 47)) := ((Below.refl _ _).alloc (Nat.le_refl _) _).alloc (by simp) _
        have hS2 := hS.out.go k2 r2'
        have HS3 := Lib.hid (hS2.grow hb3)
        have hx3 : B2 ((w2.alloc (.cells hd.cells 25)).alloc (.cells #[.int .i64 0, .int .i64 0] 47)) (w2.heap.size + 1) 47 (.int .i64 0) (.int .i64 0) := by
          have := B2.new (w2.alloc (.cells hd.cells 25)) 47 (.int .i64 0) (.int .i64 0)
          simpa using this
        have hy3 : Bx ((w2.alloc (.cells hd.cells 25)).alloc (.cells #[.int .i64 0, .int .i64 0] 47)) w2.heap.size 25 (.int .i64 hd.t) (.slice hd.A hd.n hd.c) (.slice hd.K hd.m hd.d) :=
          (Bx.new w2 25 _ _ _).keep (B := w2.heap.size + 1) ((Below.refl _ _).alloc (by simp) _) (by omega)
        have HT3 : Hid (Tr (msk ((w2.alloc (.cells hd.cells 25)).alloc (.cells #[.int .i64 0, .int .i64 0] 47)) (sel w.heap.size AL AP)) ((w2.alloc (.cells hd.cells 25)).alloc (.cells #[.int .i64 0, .int .i64 0] 47)).heap.size (L + 1) hd t') :=
          T2.move hb3.size (fun b hb hsb => by
            have hge : wr.heap.size ≤ b := by simpa using hsb
            refine ⟨sel_iff.2 ⟨Nat.le_trans hS.out.kp.size hge, fun e => ?_, fun e => ?_⟩, hb3.block b hb⟩
            · have := (hS.out.gl.blk_lt _ e).2; omega
            · have := (hS.out.gp.blk_lt _ e).2; omega)
        have HLT2 := Lib.hid (show w.heap.size + 1 < w2.heap.size from hS2.sb.lt)
        have HV3 := Lib.hid v3
        have HV1 := Lib.hid v1
        clear hm k2 r2' hb3 T2 hS2 v1 v3
        obtain ⟨w3, hw3⟩ : ∃ w3, w3 = (w2.alloc (.cells hd.cells 25)).alloc (.cells #[.int .i64 0, .int .i64 0] 47) := ⟨_, rfl⟩
        rw [← hw3] at HS3 hx3 hy3 HT3
        obtain ⟨x0, x1, -, -⟩ := hx3.cells
        obtain ⟨y0, y1, y2, -, -, -⟩ := hy3.cells
        have hb3b : Below w3.heap.size w3 (w3.alloc (.cells hd.cells 25)) := (Below.refl _ _).alloc (Nat.le_refl _) _
        have HS3b := Lib.hid (HS3.out.grow hb3b)
        have HT3b : Hid (Tr (msk (w3.alloc (.cells hd.cells 25)) (sel w.heap.size AL AP)) (w3.alloc (.cells hd.cells 25)).heap.size (L + 1) hd t') := HT3.out.move hb3b.size (fun b hb hsb => ⟨hsb, hb3b.block b hb⟩)
        have hbase3 : w.heap.size ≤ (w3.alloc (.cells hd.cells 25)).heap.size := Nat.le_trans HS3.out.kp.size hb3b.size
        have hnl2 : nl ≤ 1099511627775 := by omega
        have hnp2 : np ≤ 1099511627775 := by omega
        have HX3 := Lib.hid hx3
        have HY3 := Lib.hid hy3
        have HHD := Lib.hid (show hd.cells = (hcl hd).toArray from rfl)
        clear hb3b hx3 hy3
        have HNew : Hid ((w3.alloc (.cells hd.cells 25)).heap[w3.heap.size]? = some (.cells (hcl hd).toArray 25 (0, 0))) := heap_alloc_new w3 _
        have i25 : (Try.prog.info? 25).map (fun i => (i.zero, i.size, i.bytes)) = some (some (.agg #[.int .i64 0, .slice none 0 0, .slice none 0 0]), 3, 56) := by kernel_rfl
        have i97 : (Try.prog.info? 97).map (fun i => (i.zero, i.size, i.bytes)) = some (some (.agg #[.int .i64 0, .int .i64 0]), 2, 16) := by kernel_rfl
        have I25 := Lib.hid i25
        have I97 := Lib.hid i97
        clear i25 i97
        obtain ⟨hdl, hdle⟩ : ∃ l, Hid (hcl hd = l) := ⟨_, Lib.hid rfl⟩
        have HOne := Lib.hid (hcl_one hd)
        have hval : hd.val = .agg #[.int .i64 hd.t, .slice hd.A hd.n hd.c, .slice hd.K hd.m hd.d] := rfl
        have hcel : hd.cells = #[.int .i64 hd.t, .slice hd.A hd.n hd.c, .slice hd.K hd.m hd.d] := rfl
        rw [hval]
        rw [hcel] at hw3 hbase3
        have hcel2 := Lib.hid hcel
        clear hval hcel
        simp only [hcel2.out] at HS3b HT3b HNew
        go_upto_region 6 with (fail)
        rw [← hw3]
        clear hw3 hdle
        go_upto_region 8 with (fail)
        go_upto_region 9 with (at_builtin; refine wpList_push _ rfl (.tmp 38) (.tmp 40) 23 rfl Try.underlying23 I25.out rfl (by decide) (by decide) (hcl hd) rfl HS3b.out.gl rfl rfl HNew.out HOne.out hnl2 hbase3 ?_; intro AL' cl' w4 hg4 hr4)
        have HS4 := Lib.hid (HS3b.out.push hg4 hr4 HT3b.out)
        have hb4 : Below w4.heap.size w4 (w4.alloc (.cells #[.int .i64 (a' : Int), .int .i64 (a2 : Int)] 97)) := (Below.refl _ _).alloc (Nat.le_refl _) _
        have HS4b := Lib.hid (HS4.out.grow hb4)
        have HNew4 : Hid ((w4.alloc (.cells #[.int .i64 (a' : Int), .int .i64 (a2 : Int)] 97)).heap[w4.heap.size]? = some (.cells (pcl (a', a2)).toArray 97 (0, 0))) := heap_alloc_new w4 _
        have hbase4 : w.heap.size ≤ (w4.alloc (.cells #[.int .i64 (a' : Int), .int .i64 (a2 : Int)] 97)).heap.size := Nat.le_trans HS4.out.kp.size hb4.size
        have kc4 := box_cell HS4.out.kc
        obtain ⟨t0, t1, t2, -, -, -⟩ := HS4.out.rb.cells
        have HOneP := Lib.hid (pcl_one (a', a2))
        clear hg4 hr4 hb4 x0 x1 y0 y1 y2 kc r0 r1 r2 g0 g1 g2
        go_wp2_with (at_builtin; refine wpList_push _ rfl (.tmp 42) (.tmp 49) 95 rfl Try.underlying95 I97.out rfl (by decide) (by decide) (pcl (a', a2)) rfl HS4b.out.gp rfl rfl HNew4.out HOneP.out hnp2 hbase4 ?_; intro AP' cp' w5 hg5 hr5)
        have HS5 := Lib.hid (HS4b.out.place hg5 hr5)
        have HM3 := HM2.out
        obtain ⟨f', ef, em⟩ := HM3
        have HF' := Lib.hid (show to - a2 ≤ f' by have := hf.out; have := HLT.out; have := HV1.out; omega)
        have HP' : Hid (∀ p, p ∈ ps ++ [(a', a2)] → p.1 ≤ p.2 ∧ p.2 ≤ n) := fun p hp => by
          rcases List.mem_append.1 hp with hp | hp
          · exact hP.out p hp
          · simp at hp
            subst hp
            have := HV1.out
            exact ⟨by simp only; omega, by simp only; omega⟩
        have hv3 := HV3.out
        refine ⟨⟨a2, h2, AL', nl + 1, cl', AP', np + 1, cp', hs ++ [hd], ts ++ [t'], ps ++ [(a', a2)], f', rfl, rfl, v2, v4, by omega, by omega, HF', HS5, Lib.hid em, HP'⟩, ?_⟩
        have hr5' := rdN_is HS5.out.rb.cells.2.1
        have hrr := rdN_is hS.out.rb.cells.2.1
        rw [hr5', hrr]
        have := HV1.out
        have := HLT.out
        simp only [Int.toNat_natCast]
        omega
    · obtain rfl : a' = to := by omega
      have HM := Lib.hid (show kidsM (valM bs L) a' (a' - a) a h [] [] = .ok (ts, ps, a', h') by rw [← hM.out]; exact kidsM_end _ _ _ _ _ _)
      have e1' : ((a' : Int) < (a' : Int)) = False := by simp
      have hnl3 : nl ≤ 65535 := by omega
      obtain ⟨s0, s1, s2, s3⟩ := hS.out.sb.cells
      clear hM hlt
      by_cases h49 : t = 49
      · subst h49
        have hN2 := HN.out.keep (hS.out.kp.low (by have := HG.out; omega))
        have HC := Lib.hid (neighP_any hS.out.rb kc (cells_lt hS.out.kc) hN2 hS.out.pl hP.out (by omega))
        clear hN2
        go_wp2_with fail
        refine (HC.out).mono ?_
        rintro e w3 ⟨rfl, b3⟩
        have HS3 := Lib.hid (hS.out.grow b3)
        obtain ⟨q0, q1, q2, q3⟩ := HS3.out.sb.cells
        clear b3 s0 s1 s2 s3 kc r0 r1 r2 g0 g1 g2
        have HFn := Lib.hid (HS3.out.fin (.int .i64 0) (.int .i64 0))
        have HKn := Lib.hid (HS3.out.done hnl3)
        obtain ⟨rp, hrp⟩ : ∃ rp, Hid (risesP bs ps = rp) := ⟨_, Lib.hid rfl⟩
        rw [hrp.out]
        go_wp2_with fail
        refine bodyPost_ret (res_three rfl rfl rfl rfl HFn.out.2.2) rfl ?_
        exact .inr ⟨ts, ps, a', h', AL, nl, cl, HM.out, by rw [hrp.out]; rfl, HFn.out.1, HFn.out.2.1, HKn.out⟩
      · have k9 : (t != 49) = true := by simpa using h49
        have k9' : (t = 49) = False := by simpa using h49
        have HFn := Lib.hid (hS.out.fin (.int .i64 0) (.int .i64 0))
        have HKn := Lib.hid (hS.out.done hnl3)
        have HD := Lib.hid (show (decide (t ≠ 49) || risesP bs ps) = true by simp [h49])
        clear h49
        go_wp2_with fail
        refine bodyPost_ret (res_three rfl rfl rfl rfl HFn.out.2.2) rfl ?_
        exact .inr ⟨ts, ps, a', h', AL, nl, cl, HM.out, by rw [HD.out]; rfl, HFn.out.1, HFn.out.2.1, HKn.out⟩
end Go.Proofs.Ytddpgckbdccldaa
namespace Go.Proofs.Ytddpgckbdccldaa
open Go.RowKit
set_option linter.unusedVariables false
set_option linter.unusedSimpArgs false
set_option maxRecDepth 100000
theorem results_cc {fn : Func} {p u : Tmp} {ty ty' : TypeId} (h : fn.results = #[.cell p ty, .cell u ty']) (tmps : Array Value) (P : Program) (w : World) :
    (results fn tmps).run P w =
      ((asAddr (tmps.getD p undef)).run P w).andThen fun a w₁ => ((loadVar ty a).run P w₁).andThen fun x w₂ => ((asAddr (tmps.getD u undef)).run P w₂).andThen fun b w₃ => ((loadVar ty' b).run P w₃).andThen fun y w₄ => .ok (.tuple #[x, y]) w₄ := by
  simp only [results, h]
  simp [Sem.run_bind, Result.andThen]
theorem res_nf {fn : Func} {p u : Tmp} (h : fn.results = #[.cell p 25, .cell u 47]) {w : World} {tm : Array Value} {x y z x' y' : Value} {b b' : Nat} (h5 : tm.getD p undef = .pointer (some ⟨b, 0, none⟩)) (h4 : tm.getD u undef = .pointer (some ⟨b', 0, none⟩)) (hb : Bx w b 25 x y z) (hb' : B2 w b' 47 x' y') :
    (results fn tm).run Try.prog w = .ok (.tuple #[.agg #[x, y, z], .agg #[x', y']]) w := by
  have e : ∀ b, (asAddr (.pointer (some ⟨b, 0, none⟩))).run Try.prog w = .ok ⟨b, 0, none⟩ w := fun b => by simp [asAddr]
  rw [results_cc h, h5, h4, e]
  simp only [Result.andThen]
  rw [run_loadVar_row _ b 25 25 _ (0, 0) _ hb Try.underlying25 rfl (by kernel_rfl)]
  simp only [Result.andThen, e]
  rw [run_loadVar_row _ b' 47 47 _ (0, 0) _ hb' Try.underlying47 rfl (by kernel_rfl)]
/-- what value has at hand: the reader, and the boxes of its results -/
structure VS (w W : World) (g : Nat) (A : Option Addr) (n c a h : Nat) : Prop where
  kp : Kp g w W
  glt : g < w.heap.size
  rb : Rb W g A n c a h
  b6 : Bx W w.heap.size 25 (.int .i64 0) (.slice none 0 0) (.slice none 0 0)
  b7 : B2 W (w.heap.size + 1) 47 (.int .i64 0) (.int .i64 0)
theorem VS.go {w W W' : World} {g : Nat} {A : Option Addr} {n c a h a' h' : Nat} (H : VS w W g A n c a h) (K : Kp g W W') (R : Rb W' g A n c a' h') : VS w W' g A n c a' h' :=
  ⟨H.kp.trans K, H.glt, R, H.b6.kp K (by have := H.glt; omega), H.b7.kp K (by have := H.glt; omega)⟩
theorem VS.grow {w W W' : World} {g : Nat} {A : Option Addr} {n c a h : Nat} (H : VS w W g A n c a h) (b : Below W.heap.size W W') : VS w W' g A n c a h := H.go (Kp.of b) (Bx.keep H.rb b H.rb.lt)
/-- a store in a box of its own -/
theorem VS.set {w W : World} {g : Nat} {A : Option Addr} {n c a h : Nat} (H : VS w W g A n c a h) {b : Nat} (hb : w.heap.size + 2 ≤ b) (o : Nat) (v : Value) : VS w (W.setCell ⟨b, o, none⟩ v) g A n c a h := by
  have ne : ∀ q, q ≠ b → (W.setCell ⟨b, o, none⟩ v).heap[q]? = W.heap[q]? := fun q hq => Below.heap_setCell _ _ _ _ hq
  have hgl := H.glt
  refine ⟨⟨H.kp.os, H.kp.tape, H.kp.output, by simpa [World.setCell] using H.kp.size, fun q hq hqg => ?_⟩, H.glt, (ne g (by omega)).trans H.rb, (ne _ (by omega)).trans H.b6, (ne _ (by omega)).trans H.b7⟩
  exact (ne q (by omega)).trans (H.kp.block q hq hqg)
theorem three_ne (W : World) (s : Nat) (x y z : Value) (b : Nat) (h : b ≠ s) : (((W.setCell ⟨s, 0, none⟩ x).setCell ⟨s, 1, none⟩ y).setCell ⟨s, 2, none⟩ z).heap[b]? = W.heap[b]? := by
  rw [Below.heap_setCell _ _ _ _ h, Below.heap_setCell _ _ _ _ h, Below.heap_setCell _ _ _ _ h]
theorem two_ne (W : World) (s : Nat) (x y : Value) (b : Nat) (h : b ≠ s) : ((W.setCell ⟨s, 0, none⟩ x).setCell ⟨s, 1, none⟩ y).heap[b]? = W.heap[b]? := by
  rw [Below.heap_setCell _ _ _ _ h, Below.heap_setCell _ _ _ _ h]
theorem two_size (W : World) (s : Nat) (x y : Value) : ((W.setCell ⟨s, 0, none⟩ x).setCell ⟨s, 1, none⟩ y).heap.size = W.heap.size := by simp [World.setCell]
/-- the world behind the stores of the results -/
def out5 (W : World) (s : Nat) (x y z p q : Value) : World := ((((W.setCell ⟨s, 0, none⟩ x).setCell ⟨s, 1, none⟩ y).setCell ⟨s, 2, none⟩ z).setCell ⟨s + 1, 0, none⟩ p).setCell ⟨s + 1, 1, none⟩ q
theorem out5_ne (W : World) (s : Nat) (x y z p q : Value) (b : Nat) (h1 : b ≠ s) (h2 : b ≠ s + 1) : (out5 W s x y z p q).heap[b]? = W.heap[b]? := by
  unfold out5
  rw [two_ne _ _ _ _ _ h2, three_ne _ _ _ _ _ _ h1]
theorem out5_size (W : World) (s : Nat) (x y z p q : Value) : (out5 W s x y z p q).heap.size = W.heap.size := by
  unfold out5
  rw [two_size, size_set3]
theorem out5_b6 {W : World} {s : Nat} {u v t : Value} (H : Bx W s 25 u v t) (x y z p q : Value) : Bx (out5 W s x y z p q) s 25 x y z := by
  unfold out5 Bx
  rw [two_ne _ _ _ _ _ (by omega)]
  exact H.set x y z
theorem out5_b7 {W : World} {s : Nat} {u v : Value} (H : B2 W (s + 1) 47 u v) (x y z p q : Value) : B2 (out5 W s x y z p q) (s + 1) 47 p q := by
  have Y : B2 (((W.setCell ⟨s, 0, none⟩ x).setCell ⟨s, 1, none⟩ y).setCell ⟨s, 2, none⟩ z) (s + 1) 47 u v := by
    unfold B2
    rw [three_ne _ _ _ _ _ _ (by omega)]
    exact H
  unfold out5
  exact Y.set p q
theorem out5_os (W : World) (s : Nat) (x y z p q : Value) : (out5 W s x y z p q).os = W.os ∧ (out5 W s x y z p q).tape = W.tape ∧ (out5 W s x y z p q).output = W.output := by
  unfold out5
  simp [World.setCell]
/-- behind the stores of the results -/
theorem VS.fin {w W : World} {g : Nat} {A : Option Addr} {n c a h : Nat} (H : VS w W g A n c a h) (x y z p q : Value) :
    Kp g w (out5 W w.heap.size x y z p q) ∧ Rb (out5 W w.heap.size x y z p q) g A n c a h ∧ Bx (out5 W w.heap.size x y z p q) w.heap.size 25 x y z ∧ B2 (out5 W w.heap.size x y z p q) (w.heap.size + 1) 47 p q := by
  have hgl := H.glt
  obtain ⟨o1, o2, o3⟩ := out5_os W w.heap.size x y z p q
  refine ⟨⟨o1.trans H.kp.os, o2.trans H.kp.tape, o3.trans H.kp.output, by rw [out5_size]; exact H.kp.size, fun b hb hbg => ?_⟩, (out5_ne _ _ _ _ _ _ _ g (by omega) (by omega)).trans H.rb, out5_b6 H.b6 x y z p q, out5_b7 H.b7 x y z p q⟩
  exact (out5_ne _ _ _ _ _ _ _ b (by omega) (by omega)).trans (H.kp.block b hb hbg)
theorem Bx.dr {w : World} {g : Nat} {t : TypeId} {a b c : Value} (h : Bx w g t a b c) : Bx w.drew g t a b c := h
theorem B2.dr {w : World} {g : Nat} {t : TypeId} {a b : Value} (h : B2 w g t a b) : B2 w.drew g t a b := h
theorem Rb.dr {w : World} {g : Nat} {A : Option Addr} {n c a h : Nat} (R : Rb w g A n c a h) : Rb w.drew g A n c a h := R
theorem VS.find {w W : World} {g : Nat} {A : Option Addr} {n c a h : Nat} (H : VS w W g A n c a h) (x y z p q : Value) :
    Kp g w (out5 W w.heap.size x y z p q).drew ∧ Rb (out5 W w.heap.size x y z p q).drew g A n c a h ∧ Bx (out5 W w.heap.size x y z p q).drew w.heap.size 25 x y z ∧ B2 (out5 W w.heap.size x y z p q).drew (w.heap.size + 1) 47 p q := by
  obtain ⟨h1, h2, h3, h4⟩ := H.fin x y z p q
  exact ⟨h1.drew, h2.dr, h3.dr, h4.dr⟩
theorem drew_heap (w : World) : w.drew.heap = w.heap := rfl
theorem out5_drew (W : World) (s : Nat) (x y z p q : Value) : (out5 W s x y z p q).drew.heap.size = W.heap.size ∧ ∀ b, b ≠ s → b ≠ s + 1 → (out5 W s x y z p q).drew.heap[b]? = W.heap[b]? := by
  rw [drew_heap]
  exact ⟨out5_size W s x y z p q, fun b h1 h2 => out5_ne W s x y z p q b h1 h2⟩
theorem B2.other {w : World} {g b : Nat} {t : TypeId} {x y : Value} (h : B2 w g t x y) (hne : g ≠ b) (o : Nat) (v : Value) : B2 (w.setCell ⟨b, o, none⟩ v) g t x y := (Below.heap_setCell _ _ _ _ hne).trans h
theorem Bx.other {w : World} {g b : Nat} {t : TypeId} {x y z : Value} (h : Bx w g t x y z) (hne : g ≠ b) (o : Nat) (v : Value) : Bx (w.setCell ⟨b, o, none⟩ v) g t x y z := (Below.heap_setCell _ _ _ _ hne).trans h
theorem Bx.set1 {w : World} {g : Nat} {t : TypeId} {x y z : Value} (h : Bx w g t x y z) (v : Value) : Bx (w.setCell ⟨g, 1, none⟩ v) g t x v z := by
  unfold Bx at h ⊢
  simp [World.setCell, Array.getElem?_modify, h]
theorem Bx.set2 {w : World} {g : Nat} {t : TypeId} {x y z : Value} (h : Bx w g t x y z) (v : Value) : Bx (w.setCell ⟨g, 2, none⟩ v) g t x y v := by
  unfold Bx at h ⊢
  simp [World.setCell, Array.getElem?_modify, h]
/-- what lies in late blocks goes over -/
theorem Nb.late {W W' : World} {lo hi n c : Nat} {A : Option Addr} {xs : List Nat} (h : Nb (msk W fun b => decide (hi ≤ b)) W.heap.size A n c xs) (hlo : lo ≤ hi) (hz : W.heap.size ≤ W'.heap.size) (he : ∀ b, hi ≤ b → W'.heap[b]? = W.heap[b]?) : Nb (msk W' fun b => decide (lo ≤ b)) W'.heap.size A n c xs :=
  h.keepS hz (msk_go fun b _ hb => by
    have h1 : hi ≤ b := by simpa using hb
    exact ⟨by simp; omega, he b h1⟩)
theorem Ks.late {W W' : World} {lo hi f m d : Nat} {K : Option Addr} {ks : List T} (h : Ks (msk W fun b => decide (hi ≤ b)) W.heap.size f K m d ks) (hlo : lo ≤ hi) (hz : W.heap.size ≤ W'.heap.size) (he : ∀ b, hi ≤ b → W'.heap[b]? = W.heap[b]?) : Ks (msk W' fun b => decide (lo ≤ b)) W'.heap.size f K m d ks :=
  h.keepS hz (msk_go fun b _ hb => by
    have h1 : hi ≤ b := by simpa using hb
    exact ⟨by simp; omega, he b h1⟩)
/-- an own row of bytes, in chosen blocks -/
theorem Gb.nbm {W : World} {base lo n c : Nat} {A : Option Addr} {xs : List Nat} (h : Gb W base A n c xs) (hlo : lo ≤ base) (hL : Lim 256 xs) : Nb (msk W fun b => decide (lo ≤ b)) W.heap.size A n c xs := by
  have N := h.nb hL
  refine ⟨N.len, N.cap, N.room, N.lim, fun h0 => ?_⟩
  obtain ⟨g, e, hge, hlt, hc⟩ := h.2.cell h0 (by omega)
  refine ⟨g, 0, e, hlt, fun j x hx => ?_⟩
  rw [msk_cell, if_pos (by simp; omega), Nat.zero_add]
  exact hc j _ (by simp [bvs, hx])
end Go.Proofs.Ytddpgckbdccldaa
namespace Go.Proofs.Ytddpgckbdccldaa
open Go.RowKit
set_option linter.unusedVariables false
set_option linter.unusedSimpArgs false
set_option maxRecDepth 100000
theorem valM_succ {bs : List Nat} {L a h around x to a1 : Nat} (h1 : tagM bs a h (L + 1) = .ok x) (h2 : endM bs (a + 1) around = .ok (to, a1)) (h3 : hk (x : Int) = true) :
    valM bs (L + 1) a h around = match kidsM (valM bs L) to (to - a1) a1 (h + 1) [] [] with
      | .error f => .error f
      | .ok (ks, ps, a', h') => if x = 49 ∧ risesP bs ps = false then .error (a, 74) else .ok (.mk (x : Int) [] ks, a', h') := by
  conv => lhs; unfold valM
  simp only [h1, h2, h3, if_true]
  rcases kidsM (valM bs L) to (to - a1) a1 (h + 1) [] [] with f | ⟨ks, ps, a', h'⟩ <;> rfl
set_option maxHeartbeats 8000000 in
theorem value_of {L : Nat} (hL : L ≤ 16) (HV : ∀ L', L = L' + 1 → ValC L') : ValC L := by
  intro w g A n c bs a h around R N ha har hn hh
  have hg := R.lt
  obtain ⟨w1, hw1⟩ : ∃ w1, w1 = (w.alloc (.cells #[.int .i64 0, .slice none 0 0, .slice none 0 0] 25)).alloc (.cells #[.int .i64 0, .int .i64 0] 47) := ⟨_, rfl⟩
  have hb1 : Below w.heap.size w w1 := by rw [hw1]; exact ((Below.refl _ _).alloc (Nat.le_refl _) _).alloc (by simp) _
  have hz1 : w1.heap.size = w.heap.size + 2 := by rw [hw1]; simp
  have h61 : Bx w1 w.heap.size 25 (.int .i64 0) (.slice none 0 0) (.slice none 0 0) := by
    rw [hw1]; exact (Bx.new w 25 _ _ _).keep ((Below.refl _ _).alloc (Nat.le_refl _) _) (by simp)
  have h71 : B2 w1 (w.heap.size + 1) 47 (.int .i64 0) (.int .i64 0) := by
    rw [hw1]
    have := B2.new (w.alloc (.cells #[.int .i64 0, .slice none 0 0, .slice none 0 0] 25)) 47 (.int .i64 0) (.int .i64 0)
    simpa using this
  have HS1 : Hid (VS w w1 g A n c a h) := ⟨Kp.of hb1, hg, Bx.keep R hb1 hg, h61, h71⟩
  have HN := Lib.hid N
  have HLen := Lib.hid N.len
  have HLm := Lib.hid N.lim
  have HG := Lib.hid hg
  have HVC := Lib.hid HV
  have HZ1 := Lib.hid hz1
  clear R N hb1 h61 h71 hg HV hz1
  obtain ⟨c0, c1, c2, -, -, -⟩ := HS1.out.rb.cells
  have HT1 := Lib.hid (tag_any HS1.out.rb (HN.out.keep (HS1.out.kp.low (by have := HG.out; omega))) ha hn hL hh)
  go_enter Try.func45, Try.ntmps45
  go_upto_region 1 with (fail)
  rw [← hw1]
  clear hw1
  go_wp2_with fail
  refine (HT1.out).mono ?_
  rintro e w2 (⟨p, q, hm, hq, rfl, k2, r2⟩ | ⟨x, hm, rfl, k2, r2⟩)
  · have HS2 := Lib.hid (HS1.out.go k2 r2)
    have HF := Lib.hid (show valM bs L a h around = .error (p, q) by unfold valM; rw [hm])
    have hb3 : Below w2.heap.size w2 (w2.alloc (.cells #[.int .i64 (p : Int), .int .i64 (q : Int)] 47)) := (Below.refl _ _).alloc (Nat.le_refl _) _
    have HS3 := Lib.hid (HS2.out.grow hb3)
    have hx3 : B2 (w2.alloc (.cells #[.int .i64 (p : Int), .int .i64 (q : Int)] 47)) w2.heap.size 47 (.int .i64 (p : Int)) (.int .i64 (q : Int)) := B2.new w2 47 _ _
    obtain ⟨x0, x1, -, -⟩ := hx3.cells
    obtain ⟨s0, s1, s2, s3, s4, s5⟩ := HS3.out.b6.cells
    obtain ⟨t0, t1, t2, t3⟩ := HS3.out.b7.cells
    have kq : ((q : Int) != 0) = true := by simp; omega
    have kq' : ((q : Int) = 0) = False := by simp; omega
    have HQ := Lib.hid hq
    have HLT2 := Lib.hid HS2.out.b7.lt
    have hne3 : (w.heap.size = w2.heap.size) = False := by have := HLT2.out; simp; omega
    have hne4 : (w2.heap.size = w.heap.size) = False := by have := HLT2.out; simp; omega
    have hne5 : (w.heap.size + 1 = w2.heap.size) = False := by have := HLT2.out; simp; omega
    have hne6 : (w2.heap.size = w.heap.size + 1) = False := by have := HLT2.out; simp; omega
    clear hm hq k2 r2 hb3 hx3
    go_wp2_with fail
    go_region
    have HFn := Lib.hid (HS3.out.find (.int .i64 0) (.slice none 0 0) (.slice none 0 0) (.int .i64 (p : Int)) (.int .i64 (q : Int)))
    unfold out5 at HFn
    go_wp2_with fail
    refine bodyPost_ret (res_nf rfl rfl rfl HFn.out.2.2.1 HFn.out.2.2.2) rfl ?_
    exact .inl ⟨p, q, ⟨0, none, 0, 0, none, 0, 0⟩, HF.out, HQ.out, rfl, HFn.out.1, _, _, HFn.out.2.1⟩
  · obtain ⟨tm1, tm2, tm3, tm4, tm5⟩ := tagM_ok hm
    have HM := Lib.hid hm
    have HS2 := Lib.hid (HS1.out.go k2 r2)
    have hb3 : Below w2.heap.size w2 (w2.alloc (.cells #[.int .i64 0, .int .i64 0] 47)) := (Below.refl _ _).alloc (Nat.le_refl _) _
    obtain ⟨w3, hw3⟩ : ∃ w3, w3 = w2.alloc (.cells #[.int .i64 0, .int .i64 0] 47) := ⟨_, rfl⟩
    rw [← hw3] at hb3
    have HS3 := Lib.hid (HS2.out.grow hb3)
    have hx3 : B2 w3 w2.heap.size 47 (.int .i64 0) (.int .i64 0) := by rw [hw3]; exact B2.new w2 47 _ _
    have HX3 := Lib.hid hx3
    obtain ⟨x0, x1, -, -⟩ := hx3.cells
    have HLT2 := Lib.hid HS2.out.b7.lt
    have hne3 : (w.heap.size = w2.heap.size) = False := by have := HLT2.out; simp; omega
    have hne4 : (w2.heap.size = w.heap.size) = False := by have := HLT2.out; simp; omega
    have hne5 : (w.heap.size + 1 = w2.heap.size) = False := by have := HLT2.out; simp; omega
    have hne6 : (w2.heap.size = w.heap.size + 1) = False := by have := HLT2.out; simp; omega
    have han : a + 1 ≤ n := by rw [HLen.out] at tm1; omega
    have HA := Lib.hid (show A ≠ none from fun e => by
      obtain ⟨_, _, e2, _⟩ := HN.out.cell (show 0 < n by omega)
      rw [e] at e2; cases e2)
    have HEn := Lib.hid (end_any (around := around) HS3.out.rb (HN.out.keep (HS3.out.kp.low (by have := HG.out; omega))) han hn har)
    have HX256 := Lib.hid (show x < 256 by rw [← tm2]; exact HLm.out.get (by omega) a)
    have HTM := Lib.hid (show L ≠ 0 ∧ h + 1 ≤ 4096 ∧ tg (x : Int) = true by refine ⟨tm4, ?_, tm3⟩; omega)
    clear hm k2 r2 hb3 hx3 tm1 tm2 tm3 tm4 tm5
    go_upto_region 3 with (fail)
    rw [← hw3]
    clear hw3
    go_wp2_with fail
    refine (HEn.out).mono ?_
    rintro e w4 (⟨p, q, hm, hq, rfl, k4, a4, r4⟩ | ⟨to, a1, hm, rfl, k4, r4⟩)
    · have HF := Lib.hid (show valM bs L a h around = .error (p, q) by unfold valM; rw [HM.out]; simp only; rw [hm])
      have HS4 := Lib.hid (HS3.out.go k4 r4)
      have hx4 : B2 w4 w2.heap.size 47 (.int .i64 0) (.int .i64 0) := HX3.out.kp k4 (by have := HLT2.out; have := HG.out; omega)
      have hx5 := hx4.set (.int .i64 (p : Int)) (.int .i64 (q : Int))
      have HS5 := Lib.hid ((HS4.out.set (b := w2.heap.size) (by have := HLT2.out; omega) 0 (.int .i64 (p : Int))).set (b := w2.heap.size) (by have := HLT2.out; omega) 1 (.int .i64 (q : Int)))
      obtain ⟨y0, y1, y2, y3⟩ := hx4.cells
      have HX5 := Lib.hid hx5
      have HQ := Lib.hid hq
      have kq : ((q : Int) != 0) = true := by simp; omega
      have kq' : ((q : Int) = 0) = False := by simp; omega
      clear hm hq k4 r4 hx4 hx5 x0 x1
      go_upto_region 6 with (fail)
      obtain ⟨w5, hw5⟩ : ∃ w5, w5 = (w4.setCell ⟨w2.heap.size, 0, none⟩ (.int .i64 (p : Int))).setCell ⟨w2.heap.size, 1, none⟩ (.int .i64 (q : Int)) := ⟨_, rfl⟩
      rw [← hw5]
      rw [← hw5] at HS5 HX5
      clear hw5 y0 y1 y2 y3
      obtain ⟨y0, y1, y2, y3⟩ := HX5.out.cells
      obtain ⟨s0, s1, s2, s3, s4, s5⟩ := HS5.out.b6.cells
      obtain ⟨t0, t1, t2, t3⟩ := HS5.out.b7.cells
      go_wp2_with fail
      go_region
      have HFn := Lib.hid (HS5.out.find (.int .i64 0) (.slice none 0 0) (.slice none 0 0) (.int .i64 (p : Int)) (.int .i64 (q : Int)))
      unfold out5 at HFn
      go_wp2_with fail
      refine bodyPost_ret (res_nf rfl rfl rfl HFn.out.2.2.1 HFn.out.2.2.2) rfl ?_
      exact .inl ⟨p, q, ⟨0, none, 0, 0, none, 0, 0⟩, HF.out, HQ.out, rfl, HFn.out.1, _, _, HFn.out.2.1⟩
    · obtain ⟨em1, em2, em3, -⟩ := endM_ok hm
      have HM2 := Lib.hid hm
      have HE := Lib.hid (show a + 1 < a1 ∧ a1 ≤ to ∧ to ≤ around from ⟨em1, em2, em3⟩)
      have HS4 := Lib.hid (HS3.out.go k4 r4)
      have hx4 : B2 w4 w2.heap.size 47 (.int .i64 0) (.int .i64 0) := HX3.out.kp k4 (by have := HLT2.out; have := HG.out; omega)
      have hx5 := hx4.set (.int .i64 0) (.int .i64 0)
      have HS5 := Lib.hid ((HS4.out.set (b := w2.heap.size) (by have := HLT2.out; omega) 0 (.int .i64 0)).set (b := w2.heap.size) (by have := HLT2.out; omega) 1 (.int .i64 0))
      obtain ⟨y0, y1, y2, y3⟩ := hx4.cells
      have HX5 := Lib.hid hx5
      clear hm k4 r4 hx4 hx5 x0 x1 em1 em2 em3
      go_upto_region 6 with (fail)
      obtain ⟨w5, hw5⟩ : ∃ w5, w5 = (w4.setCell ⟨w2.heap.size, 0, none⟩ (.int .i64 0)).setCell ⟨w2.heap.size, 1, none⟩ (.int .i64 0) := ⟨_, rfl⟩
      rw [← hw5]
      rw [← hw5] at HS5 HX5
      clear hw5 y0 y1 y2 y3
      obtain ⟨y0, y1, y2, y3⟩ := HX5.out.cells
      obtain ⟨w6, hw6⟩ : ∃ w6, w6 = w5.alloc (.cells #[.int .i64 (x : Int), .slice none 0 0, .slice none 0 0] 25) := ⟨_, rfl⟩
      have hb6 : Below w5.heap.size w5 w6 := by rw [hw6]; exact (Below.refl _ _).alloc (Nat.le_refl _) _
      have HS6 := Lib.hid (HS5.out.grow hb6)
      have HX6 := Lib.hid (HX5.out.keep hb6 HX5.out.lt)
      have HY6 : Hid (Bx w6 w5.heap.size 25 (.int .i64 (x : Int)) (.slice none 0 0) (.slice none 0 0)) := by rw [hw6]; exact Bx.new w5 25 _ _ _
      have HLT5 := Lib.hid (show w2.heap.size < w5.heap.size from HX5.out.lt)
      have HW6 := Lib.hid (show w5.heap.size < w6.heap.size from HY6.out.lt)
      have hne7 : (w5.heap.size = w2.heap.size) = False := by have := HLT5.out; simp; omega
      have hne8 : (w2.heap.size = w5.heap.size) = False := by have := HLT5.out; simp; omega
      have hne9 : (w.heap.size = w5.heap.size) = False := by have := HLT5.out; have := HLT2.out; simp; omega
      have hne10 : (w5.heap.size = w.heap.size) = False := by have := HLT5.out; have := HLT2.out; simp; omega
      have hne11 : (w.heap.size + 1 = w5.heap.size) = False := by have := HLT5.out; have := HLT2.out; simp; omega
      have hne12 : (w5.heap.size = w.heap.size + 1) = False := by have := HLT5.out; have := HLT2.out; simp; omega
      have HNG := Lib.hid (show w2.heap.size ≠ g ∧ w5.heap.size ≠ g ∧ w.heap.size + 2 ≤ w2.heap.size ∧ w.heap.size + 2 ≤ w5.heap.size by have := HG.out; have := HLT2.out; have := HLT5.out; omega)
      have HHK := Lib.hid (fun w => hasKids_any (x : Int) w)
      have HN6 := Lib.hid (HN.out.keep (HS6.out.kp.low (by have := HG.out; omega)))
      clear hb6
      go_upto_region 9 with (fail)
      rw [← hw6]
      clear hw6 y0 y1 y2 y3
      go_wp2_with fail
      refine (HHK.out _).mono ?_
      rcases hkx : hk (x : Int) with _ | _
      · rintro e w' ⟨rfl, hw'⟩
        subst hw'
        have hxe := HE.out
        have HBy := Lib.hid (bytes_any (e := to) (x : Int) HS6.out.rb HN6.out HA.out hxe.2.1 (by omega) hn)
        clear hxe
        have HVal := Lib.hid (show valM bs L a h around = if may (x : Int) ((bs.drop a1).take (to - a1)) then .ok (.mk (x : Int) ((bs.drop a1).take (to - a1)) [], to, h + 1) else .error (a, 74) by
          unfold valM; rw [HM.out]; simp only; rw [HM2.out]; simp only; rw [if_neg (by rw [hkx]; decide)])
        clear hkx
        go_wp2_with fail
        refine (HBy.out).mono ?_
        rintro e w7 ⟨A2, cc2, rfl, g7, k7, r7⟩
        have HS7 := Lib.hid (HS6.out.go k7 r7)
        have hx7 := HX6.out.kp k7 HNG.out.1
        have hy7 := HY6.out.kp k7 HNG.out.2.1
        have HX7 := Lib.hid hx7
        have HY7 := Lib.hid hy7
        have HG7 := Lib.hid g7
        have HK7 := Lib.hid k7
        obtain ⟨x0, x1, x2, x3⟩ := hx7.cells
        obtain ⟨y0, y1, y2, y3, y4, y5⟩ := hy7.cells
        clear k7 r7 g7 hx7 hy7
        obtain ⟨m, hm⟩ : ∃ m, Hid (to - a1 = m) := ⟨_, Lib.hid rfl⟩
        obtain ⟨xs, hxs⟩ : ∃ xs, Hid ((bs.drop a1).take (to - a1) = xs) := ⟨_, Lib.hid rfl⟩
        rw [hxs.out] at HG7 HVal ⊢
        rw [hm.out] at HG7 ⊢
        have HMM := Lib.hid (show m ≤ 65535 by have h1 := hm.out; have h2 := HE.out; omega)
        have HLX := Lib.hid (show Lim 256 xs by rw [← hxs.out]; exact fun z hz => HLm.out z (List.mem_of_mem_drop (List.mem_of_mem_take hz)))
        go_upto_region 12 with (fail)
        obtain ⟨w8, hw8⟩ : ∃ w8, w8 = w7.setCell ⟨w5.heap.size, 1, none⟩ (.slice A2 m cc2) := ⟨_, rfl⟩
        have HS8 : Hid (VS w w8 g A n c to (h + 1)) := by rw [hw8]; exact HS7.out.set HNG.out.2.2.2 1 _
        have HX8 : Hid (B2 w8 w2.heap.size 47 (.int .i64 0) (.int .i64 0)) := by rw [hw8]; exact HX7.out.other (by have := HLT5.out; omega) 1 _
        have HY8 : Hid (Bx w8 w5.heap.size 25 (.int .i64 (x : Int)) (.slice A2 m cc2) (.slice none 0 0)) := by rw [hw8]; exact HY7.out.set1 _
        have HE8 : Hid (w8.heap.size = w7.heap.size ∧ ∀ b, w'.heap.size ≤ b → w8.heap[b]? = w7.heap[b]?) := by
          rw [hw8]
          exact ⟨by simp [World.setCell], fun b hb => Below.heap_setCell _ _ _ _ (by show b ≠ w5.heap.size; have := HW6.out; omega)⟩
        rw [← hw8]
        clear hw8 x0 x1 x2 x3 y0 y1 y2 y3 y4 y5
        obtain ⟨x0, x1, x2, x3⟩ := HX8.out.cells
        obtain ⟨y0, y1, y2, y3, y4, y5⟩ := HY8.out.cells
        rcases hmay : may (x : Int) xs with _ | _
        · have HV := Lib.hid (show valM bs L a h around = .error (a, 74) by rw [HVal.out, hmay]; rfl)
          clear hmay
          go_upto_region 14 with (fail)
          obtain ⟨w9, hw9⟩ : ∃ w9, w9 = (w8.setCell ⟨w2.heap.size, 0, none⟩ (.int .i64 (a : Int))).setCell ⟨w2.heap.size, 1, none⟩ (.int .i64 74) := ⟨_, rfl⟩
          have HS9 : Hid (VS w w9 g A n c to (h + 1)) := by rw [hw9]; exact (HS8.out.set HNG.out.2.2.1 0 _).set HNG.out.2.2.1 1 _
          have HX9 : Hid (B2 w9 w2.heap.size 47 (.int .i64 (a : Int)) (.int .i64 74)) := by rw [hw9]; exact HX8.out.set _ _
          have HY9 : Hid (Bx w9 w5.heap.size 25 (.int .i64 (x : Int)) (.slice A2 m cc2) (.slice none 0 0)) := by rw [hw9]; exact (HY8.out.other (by have := HLT5.out; omega) 0 _).other (by have := HLT5.out; omega) 1 _
          rw [← hw9]
          clear hw9 x0 x1 x2 x3 y0 y1 y2 y3 y4 y5
          obtain ⟨x0, x1, x2, x3⟩ := HX9.out.cells
          obtain ⟨y0, y1, y2, y3, y4, y5⟩ := HY9.out.cells
          obtain ⟨s0, s1, s2, s3, s4, s5⟩ := HS9.out.b6.cells
          obtain ⟨t0, t1, t2, t3⟩ := HS9.out.b7.cells
          go_region
          have HFn := Lib.hid (HS9.out.find (.int .i64 (x : Int)) (.slice A2 m cc2) (.slice none 0 0) (.int .i64 (a : Int)) (.int .i64 74))
          unfold out5 at HFn
          go_wp2_with fail
          refine bodyPost_ret (res_nf rfl rfl rfl HFn.out.2.2.1 HFn.out.2.2.2) rfl ?_
          exact .inl ⟨a, 74, ⟨x, A2, m, cc2, none, 0, 0⟩, HV.out, by omega, rfl, HFn.out.1, _, _, HFn.out.2.1⟩
        · have HV := Lib.hid (show valM bs L a h around = .ok (.mk (x : Int) xs [], to, h + 1) by rw [HVal.out, hmay]; rfl)
          clear hmay
          go_upto_region 14 with (fail)
          obtain ⟨s0, s1, s2, s3, s4, s5⟩ := HS8.out.b6.cells
          obtain ⟨t0, t1, t2, t3⟩ := HS8.out.b7.cells
          have HO := Lib.hid (out5_drew w8 w.heap.size (.int .i64 (x : Int)) (.slice A2 m cc2) (.slice none 0 0) (.int .i64 0) (.int .i64 0))
          have HTr : Hid (Tr (msk (out5 w8 w.heap.size (.int .i64 (x : Int)) (.slice A2 m cc2) (.slice none 0 0) (.int .i64 0) (.int .i64 0)).drew fun b => decide (w.heap.size ≤ b)) (out5 w8 w.heap.size (.int .i64 (x : Int)) (.slice A2 m cc2) (.slice none 0 0) (.int .i64 0) (.int .i64 0)).drew.heap.size (L + 1) ⟨x, A2, m, cc2, none, 0, 0⟩ (.mk (x : Int) xs [])) := by
            have hx256 := HX256.out
            have hmm := HMM.out
            refine Tr.mk rfl ⟨by simp only; omega, by simp only; omega⟩ ?_ (by simp only; omega) (Ks.nil _ _ _)
            refine (HG7.out.nbm (Nat.le_refl _) HLX.out).late (by have := HW6.out; have := HNG.out; omega) (by rw [HO.out.1, HE8.out.1]; exact Nat.le_refl _) (fun b hb => ?_)
            have h1 := HW6.out
            have h2 := HNG.out
            rw [HO.out.2 b (by omega) (by omega), HE8.out.2 b hb]
          unfold out5 at HTr
          go_region
          have HFn := Lib.hid (HS8.out.find (.int .i64 (x : Int)) (.slice A2 m cc2) (.slice none 0 0) (.int .i64 0) (.int .i64 0))
          unfold out5 at HFn
          go_wp2_with fail
          refine bodyPost_ret (res_nf rfl rfl rfl HFn.out.2.2.1 HFn.out.2.2.2) rfl ?_
          exact .inr ⟨.mk (x : Int) xs [], to, h + 1, ⟨x, A2, m, cc2, none, 0, 0⟩, HV.out, rfl, HFn.out.1, HFn.out.2.1, HTr.out⟩
      · rintro e w' ⟨rfl, hw'⟩
        subst hw'
        obtain ⟨L', hL'⟩ : ∃ L', L = L' + 1 := ⟨L - 1, by have := HTM.out.1; omega⟩
        have hxe := HE.out
        have HKd := Lib.hid (kids_any (HVC.out L' hL') (to := to) (x : Int) HS6.out.rb HN6.out hxe.2.1 (by omega) hn HTM.out.2.1)
        have kL : (L : Int) - 1 = (L' : Int) := by omega
        have HL' := Lib.hid hL'
        have HVal := Lib.hid (show valM bs L a h around = match kidsM (valM bs L') to (to - a1) a1 (h + 1) [] [] with
                    | .error f => .error f
                    | .ok (ks, ps, a', h') => if x = 49 ∧ risesP bs ps = false then .error (a, 74) else .ok (.mk (x : Int) [] ks, a', h') by
          have e := HM.out
          rw [hL'] at e ⊢
          exact valM_succ e HM2.out hkx)
        clear hkx hxe hL'
        go_wp2_with fail
        refine (HKd.out).mono ?_
        rintro e w7 (⟨p, q, hm, hq, rfl, k7, a2, h2, r7⟩ | ⟨ts, ps, a2, h2, AL, nl, cl, hm, rfl, k7, r7, K7⟩)
        · have HV := Lib.hid (show valM bs L a h around = .error (p, q) by rw [HVal.out, hm])
          have HS7 := Lib.hid (HS6.out.go k7 r7)
          have hx7 := HX6.out.kp k7 HNG.out.1
          have hy7 := HY6.out.kp k7 HNG.out.2.1
          have HX7 := Lib.hid hx7
          have HY7 := Lib.hid hy7
          obtain ⟨x0, x1, x2, x3⟩ := hx7.cells
          obtain ⟨y0, y1, y2, y3, y4, y5⟩ := hy7.cells
          clear k7 r7 hx7 hy7
          have HQ := Lib.hid hq
          have kq : ((q : Int) == 0) = false := by simp; omega
          have kq' : ((q : Int) = 0) = False := by simp; omega
          clear hm hq
          go_upto_region 12 with (fail)
          obtain ⟨w8, hw8⟩ : ∃ w8, w8 = ((w7.setCell ⟨w5.heap.size, 2, none⟩ (.slice none 0 0)).setCell ⟨w2.heap.size, 0, none⟩ (.int .i64 (p : Int))).setCell ⟨w2.heap.size, 1, none⟩ (.int .i64 (q : Int)) := ⟨_, rfl⟩
          have HS8 : Hid (VS w w8 g A n c a2 h2) := by rw [hw8]; exact ((HS7.out.set HNG.out.2.2.2 2 _).set HNG.out.2.2.1 0 _).set HNG.out.2.2.1 1 _
          have HX8 : Hid (B2 w8 w2.heap.size 47 (.int .i64 (p : Int)) (.int .i64 (q : Int))) := by rw [hw8]; exact (HX7.out.other (by have := HLT5.out; omega) 2 _).set _ _
          have HY8 : Hid (Bx w8 w5.heap.size 25 (.int .i64 (x : Int)) (.slice none 0 0) (.slice none 0 0)) := by rw [hw8]; exact ((HY7.out.set2 _).other (by have := HLT5.out; omega) 0 _).other (by have := HLT5.out; omega) 1 _
          have HE8 : Hid (w8.heap.size = w7.heap.size ∧ ∀ b, w'.heap.size ≤ b → w8.heap[b]? = w7.heap[b]?) := by
            rw [hw8]
            refine ⟨by simp [World.setCell], fun b hb => ?_⟩
            have h1 := HW6.out
            have h2 := HLT5.out
            rw [Below.heap_setCell _ _ _ _ (by show b ≠ w2.heap.size; omega), Below.heap_setCell _ _ _ _ (by show b ≠ w2.heap.size; omega), Below.heap_setCell _ _ _ _ (by show b ≠ w5.heap.size; omega)]
          rw [← hw8]
          clear hw8 x0 x1 x2 x3 y0 y1 y2 y3 y4 y5
          obtain ⟨x0, x1, x2, x3⟩ := HX8.out.cells
          obtain ⟨y0, y1, y2, y3, y4, y5⟩ := HY8.out.cells
          go_upto_region 14 with (fail)
          obtain ⟨s0, s1, s2, s3, s4, s5⟩ := HS8.out.b6.cells
          obtain ⟨t0, t1, t2, t3⟩ := HS8.out.b7.cells
          go_region
          have HFn := Lib.hid (HS8.out.find (.int .i64 (x : Int)) (.slice none 0 0) (.slice none 0 0) (.int .i64 (p : Int)) (.int .i64 (q : Int)))
          unfold out5 at HFn
          go_wp2_with fail
          refine bodyPost_ret (res_nf rfl rfl rfl HFn.out.2.2.1 HFn.out.2.2.2) rfl ?_
          exact .inl ⟨p, q, ⟨x, none, 0, 0, none, 0, 0⟩, HV.out, HQ.out, rfl, HFn.out.1, _, _, HFn.out.2.1⟩
        · have HV := Lib.hid (show valM bs L a h around = if x = 49 ∧ risesP bs ps = false then .error (a, 74) else .ok (.mk (x : Int) [] ts, a2, h2) by rw [HVal.out, hm])
          have HS7 := Lib.hid (HS6.out.go k7 r7)
          have hx7 := HX6.out.kp k7 HNG.out.1
          have hy7 := HY6.out.kp k7 HNG.out.2.1
          have HX7 := Lib.hid hx7
          have HY7 := Lib.hid hy7
          obtain ⟨x0, x1, x2, x3⟩ := hx7.cells
          obtain ⟨y0, y1, y2, y3, y4, y5⟩ := hy7.cells
          clear k7 r7 hx7 hy7
          have HK7 := Lib.hid K7
          clear hm K7
          obtain ⟨r, hr, hr2⟩ : ∃ r, (decide ((x : Int) ≠ 49) || risesP bs ps) = r ∧ (r = false ↔ (x = 49 ∧ risesP bs ps = false)) := ⟨_, rfl, by simp; omega⟩
          rw [hr]
          have HR2 := Lib.hid hr2
          clear hr hr2
          go_upto_region 12 with (fail)
          obtain ⟨w8, hw8⟩ : ∃ w8, w8 = ((w7.setCell ⟨w5.heap.size, 2, none⟩ (.slice AL nl cl)).setCell ⟨w2.heap.size, 0, none⟩ (.int .i64 0)).setCell ⟨w2.heap.size, 1, none⟩ (.int .i64 0) := ⟨_, rfl⟩
          have HS8 : Hid (VS w w8 g A n c a2 h2) := by rw [hw8]; exact ((HS7.out.set HNG.out.2.2.2 2 _).set HNG.out.2.2.1 0 _).set HNG.out.2.2.1 1 _
          have HX8 : Hid (B2 w8 w2.heap.size 47 (.int .i64 0) (.int .i64 0)) := by rw [hw8]; exact (HX7.out.other (by have := HLT5.out; omega) 2 _).set _ _
          have HY8 : Hid (Bx w8 w5.heap.size 25 (.int .i64 (x : Int)) (.slice none 0 0) (.slice AL nl cl)) := by rw [hw8]; exact ((HY7.out.set2 _).other (by have := HLT5.out; omega) 0 _).other (by have := HLT5.out; omega) 1 _
          have HE8 : Hid (w8.heap.size = w7.heap.size ∧ ∀ b, w'.heap.size ≤ b → w8.heap[b]? = w7.heap[b]?) := by
            rw [hw8]
            refine ⟨by simp [World.setCell], fun b hb => ?_⟩
            have h1 := HW6.out
            have h2 := HLT5.out
            rw [Below.heap_setCell _ _ _ _ (by show b ≠ w2.heap.size; omega), Below.heap_setCell _ _ _ _ (by show b ≠ w2.heap.size; omega), Below.heap_setCell _ _ _ _ (by show b ≠ w5.heap.size; omega)]
          rw [← hw8]
          clear hw8 x0 x1 x2 x3 y0 y1 y2 y3 y4 y5
          obtain ⟨x0, x1, x2, x3⟩ := HX8.out.cells
          obtain ⟨y0, y1, y2, y3, y4, y5⟩ := HY8.out.cells
          rcases r with _ | _
          · have HV2 := Lib.hid (show valM bs L a h around = .error (a, 74) by rw [HV.out, if_pos (HR2.out.1 rfl)])
            go_upto_region 14 with (fail)
            obtain ⟨w9, hw9⟩ : ∃ w9, w9 = (w8.setCell ⟨w2.heap.size, 0, none⟩ (.int .i64 (a : Int))).setCell ⟨w2.heap.size, 1, none⟩ (.int .i64 74) := ⟨_, rfl⟩
            have HS9 : Hid (VS w w9 g A n c a2 h2) := by rw [hw9]; exact (HS8.out.set HNG.out.2.2.1 0 _).set HNG.out.2.2.1 1 _
            have HX9 : Hid (B2 w9 w2.heap.size 47 (.int .i64 (a : Int)) (.int .i64 74)) := by rw [hw9]; exact HX8.out.set _ _
            have HY9 : Hid (Bx w9 w5.heap.size 25 (.int .i64 (x : Int)) (.slice none 0 0) (.slice AL nl cl)) := by rw [hw9]; exact (HY8.out.other (by have := HLT5.out; omega) 0 _).other (by have := HLT5.out; omega) 1 _
            rw [← hw9]
            clear hw9 x0 x1 x2 x3 y0 y1 y2 y3 y4 y5
            obtain ⟨x0, x1, x2, x3⟩ := HX9.out.cells
            obtain ⟨y0, y1, y2, y3, y4, y5⟩ := HY9.out.cells
            obtain ⟨s0, s1, s2, s3, s4, s5⟩ := HS9.out.b6.cells
            obtain ⟨t0, t1, t2, t3⟩ := HS9.out.b7.cells
            go_region
            have HFn := Lib.hid (HS9.out.find (.int .i64 (x : Int)) (.slice none 0 0) (.slice AL nl cl) (.int .i64 (a : Int)) (.int .i64 74))
            unfold out5 at HFn
            go_wp2_with fail
            refine bodyPost_ret (res_nf rfl rfl rfl HFn.out.2.2.1 HFn.out.2.2.2) rfl ?_
            exact .inl ⟨a, 74, ⟨x, none, 0, 0, AL, nl, cl⟩, HV2.out, by omega, rfl, HFn.out.1, _, _, HFn.out.2.1⟩
          · have HV2 := Lib.hid (show valM bs L a h around = .ok (.mk (x : Int) [] ts, a2, h2) by rw [HV.out, if_neg (fun e => by have := HR2.out.2 e; cases this)])
            go_upto_region 14 with (fail)
            obtain ⟨s0, s1, s2, s3, s4, s5⟩ := HS8.out.b6.cells
            obtain ⟨t0, t1, t2, t3⟩ := HS8.out.b7.cells
            have HO := Lib.hid (out5_drew w8 w.heap.size (.int .i64 (x : Int)) (.slice none 0 0) (.slice AL nl cl) (.int .i64 0) (.int .i64 0))
            have HTr : Hid (Tr (msk (out5 w8 w.heap.size (.int .i64 (x : Int)) (.slice none 0 0) (.slice AL nl cl) (.int .i64 0) (.int .i64 0)).drew fun b => decide (w.heap.size ≤ b)) (out5 w8 w.heap.size (.int .i64 (x : Int)) (.slice none 0 0) (.slice AL nl cl) (.int .i64 0) (.int .i64 0)).drew.heap.size (L + 1) ⟨x, none, 0, 0, AL, nl, cl⟩ (.mk (x : Int) [] ts)) := by
              have hx256 := HX256.out
              refine Tr.mk rfl ⟨by simp only; omega, by simp only; omega⟩ (nb_nil _ _) (by simp only; omega) ?_
              rw [HL'.out]
              refine HK7.out.late (by have := HW6.out; have := HNG.out; omega) (by rw [HO.out.1, HE8.out.1]; exact Nat.le_refl _) (fun b hb => ?_)
              have h1 := HW6.out
              have h2 := HNG.out
              rw [HO.out.2 b (by omega) (by omega), HE8.out.2 b hb]
            unfold out5 at HTr
            go_region
            have HFn := Lib.hid (HS8.out.find (.int .i64 (x : Int)) (.slice none 0 0) (.slice AL nl cl) (.int .i64 0) (.int .i64 0))
            unfold out5 at HFn
            go_wp2_with fail
            refine bodyPost_ret (res_nf rfl rfl rfl HFn.out.2.2.1 HFn.out.2.2.2) rfl ?_
            exact .inr ⟨.mk (x : Int) [] ts, a2, h2, ⟨x, none, 0, 0, AL, nl, cl⟩, HV2.out, rfl, HFn.out.1, HFn.out.2.1, HTr.out⟩
theorem value_all : ∀ L, L ≤ 16 → ValC L
  | 0, h => value_of h (fun L' e => by omega)
  | L + 1, h => value_of h (fun L' e => by
    obtain rfl : L' = L := by omega
    exact value_all L' (by omega))
end Go.Proofs.Ytddpgckbdccldaa
