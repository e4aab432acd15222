/- wire: when two packets say the same. -/
import Derived.Test.YthflafcjinpmnaaR15
import Derived.Lib.Bytes
namespace Go.Proofs.Ythflafcjinpmnaa
open Go.RowKit
set_option linter.unusedVariables false
set_option linter.unusedSimpArgs false
set_option maxRecDepth 100000
/-- the texts of bytes say which they are -/
theorem bstr_inj {a b : List Nat} (ha : Lim 256 a) (hb : Lim 256 b) (h : (bstr a).toList = (bstr b).toList) : a = b := by
  unfold bstr at h
  rw [Lib.strOfNums_toList, Lib.strOfNums_toList] at h
  have back : ∀ l : List Nat, Lim 256 l → (Lib.bytesOf (l.map fun x : Nat => (x : Int))).map (fun u => u.toNat) = l := by
    intro l hl
    induction l with
    | nil => rfl
    | cons x l ih =>
      have hx := hl x (by simp)
      simp only [Lib.bytesOf, List.map_cons, List.map_map] at ih ⊢
      rw [ih (fun y hy => hl y (List.mem_cons_of_mem _ hy))]
      congr 1
      simp only [Int.toNat_natCast, UInt8.toNat_ofNat']
      omega
  rw [← back a ha, ← back b hb, h]
/-- what a field says -/
def El.says (x : El) : Int × Bool × Bool × Int × Nat × Nat × List Nat × List Nat := (x.op, x.resp, x.bad, x.as_, x.ts, x.fs, x.xs, x.ys)
theorem sx_iff {x y : El} (hx : Lim 256 x.xs) (hx2 : Lim 256 x.ys) (hy : Lim 256 y.xs) (hy2 : Lim 256 y.ys) : sx x y = true ↔ x.says = y.says := by
  unfold sx El.says
  simp only [Bool.and_eq_true, beq_iff_eq, Prod.mk.injEq]
  constructor
  · rintro ⟨h1, h2, h3, h4, h5, h6, h7, h8⟩
    exact ⟨h1, h2, h3, h4, by omega, by omega, bstr_inj hx hy h7, bstr_inj hx2 hy2 h8⟩
  · rintro ⟨h1, h2, h3, h4, h5, h6, h7, h8⟩
    exact ⟨h1, h2, h3, h4, by omega, by omega, by rw [h7], by rw [h8]⟩
/-- a field's texts are bytes, as many as it says -/
structure El.has (x : El) : Prop where
  l1 : Lim 256 x.xs
  l2 : Lim 256 x.ys
  n1 : x.xs.length = x.n
  n2 : x.ys.length = x.m
theorem Es.has {w : World} {B n : Nat} {A : Option Addr} {l : List El} (h : Es w B A n l) : ∀ x ∈ l, x.has := fun x hx =>
  ⟨(h.2.1 x hx).1.lim, (h.2.1 x hx).2.lim, (h.2.1 x hx).1.len, (h.2.1 x hx).2.len⟩
theorem says_ext {x y : El} (hx : x.has) (hy : y.has) (h : x.says = y.says) : extB x = extB y := by
  obtain ⟨op, resp, bad, as_, ts, fs, A, n, c, B, m, e, xs, ys⟩ := x
  obtain ⟨op', resp', bad', as', ts', fs', A', n', c', B', m', e', xs', ys'⟩ := y
  obtain ⟨-, -, a1, a2⟩ := hx
  obtain ⟨-, -, b1, b2⟩ := hy
  dsimp only at a1 a2 b1 b2
  unfold El.says at h
  simp only [Prod.mk.injEq] at h
  obtain ⟨rfl, rfl, rfl, rfl, rfl, rfl, rfl, rfl⟩ := h
  subst a1 a2 b1 b2
  rfl
theorem toEx_says {x y : El} (hx : 0 ≤ x.op ∧ 0 ≤ x.as_) (hy : 0 ≤ y.op ∧ 0 ≤ y.as_) (h : toEx x = toEx y) : x.says = y.says := by
  unfold toEx at h
  simp only [Ex.mk.injEq] at h
  obtain ⟨h1, h2, h3, h4, h5, h6, h7, h8⟩ := h
  unfold El.says
  simp only [Prod.mk.injEq]
  exact ⟨by omega, h2, h3, by omega, h5, h6, h7, h8⟩
theorem sxs_of : ∀ (l k : List El), (∀ x ∈ l, x.has) → (∀ x ∈ k, x.has) → l.map El.says = k.map El.says → sxs l k = true
  | [], _, _, _, _ => rfl
  | x :: l, [], _, _, h => by cases h
  | x :: l, y :: k, hl, hk, h => by
    simp only [List.map_cons, List.cons.injEq] at h
    have ih := sxs_of l k (fun z hz => hl z (by simp [hz])) (fun z hz => hk z (by simp [hz])) h.2
    have hx := hl x (by simp)
    have hy := hk y (by simp)
    unfold sxs at ih ⊢
    rw [List.zip_cons_cons, List.all_cons, ih, (sx_iff hx.l1 hx.l2 hy.l1 hy.l2).2 h.1]
    rfl
theorem sxs_ext : ∀ (l k : List El), l.length = k.length → (∀ x ∈ l, x.has) → (∀ x ∈ k, x.has) → sxs l k = true → l.flatMap extB = k.flatMap extB
  | [], [], _, _, _, _ => rfl
  | [], _ :: _, h, _, _, _ => by cases h
  | _ :: _, [], h, _, _, _ => by cases h
  | x :: l, y :: k, h, hl, hk, hs => by
    unfold sxs at hs
    rw [List.zip_cons_cons, List.all_cons, Bool.and_eq_true] at hs
    have hx := hl x (by simp)
    have hy := hk y (by simp)
    have ih := sxs_ext l k (by simpa using h) (fun z hz => hl z (by simp [hz])) (fun z hz => hk z (by simp [hz])) hs.2
    rw [List.flatMap_cons, List.flatMap_cons, ih, says_ext hx hy ((sx_iff hx.l1 hx.l2 hy.l1 hy.l2).1 hs.1)]
theorem hd_eq {a b : Hd} (h : a.lp = b.lp ∧ a.ve = b.ve ∧ a.mo = b.mo ∧ a.st = b.st ∧ a.po = b.po ∧ a.pr = b.pr ∧ a.dl = b.dl ∧ a.di = b.di ∧ a.rf = b.rf ∧ a.re = b.re ∧ a.og = b.og ∧ a.rc = b.rc ∧ a.xm = b.xm) : a = b := by
  cases a; cases b; simp_all
theorem sm_of {p q : Pk} {l k : List El} {ms ns : List Nat} (hh : p.h = q.h) (hn : p.n = q.n) (hl : ∀ x ∈ l, x.has) (hk : ∀ x ∈ k, x.has) (hlk : l.map El.says = k.map El.says) (h1 : p.m.has = q.m.has) (h2 : p.m.key = q.m.key) (h3 : ms = ns) : sm p l ms q k ns = true := by
  unfold sm
  rw [hh, hn, h1, h2, h3, sxs_of l k hl hk hlk]
  simp
theorem sm_packW {p q : Pk} {l k : List El} {ms ns : List Nat} (hl : ∀ x ∈ l, x.has) (hk : ∀ x ∈ k, x.has) (n1 : l.length = p.n) (n2 : k.length = q.n) (hm : Lim 256 ms) (hn : Lim 256 ns) (h : sm p l ms q k ns = true) : packW p l ms = packW q k ns := by
  unfold sm at h
  simp only [Bool.and_eq_true, Bool.not_eq_true', bne_eq_false_iff_eq, beq_iff_eq] at h
  obtain ⟨a1, a2, a3, a4, a5, a6, a7, a8, a9, a10, a11, a12, a13, a14, a15, a16, a17, a18⟩ := h
  have hh : p.h = q.h := hd_eq ⟨a1, a2, a3, a4, a5, a6, by omega, by omega, by omega, by omega, by omega, by omega, by omega⟩
  have hf := sxs_ext l k (by omega) hl hk a15
  have hms := bstr_inj hm hn a18
  unfold packW macW
  rw [hh, hf, hms, a16, show p.m.key = q.m.key by omega]
/-- Macs that are written alike are alike -/
theorem mac_eq {p q : Pk} {ms ns : List Nat} (h1 : macB p.m = true) (h2 : macB q.m = true) (l1 : ms.length = p.m.n) (l2 : ns.length = q.m.n) (k1 : p.m.key < 4294967296) (k2 : q.m.key < 4294967296) (h : macW p ms = macW q ns) : p.m.has = q.m.has ∧ p.m.key = q.m.key ∧ ms = ns := by
  unfold macW at h
  unfold macB at h1 h2
  cases hp : p.m.has with
  | true =>
    cases hq : q.m.has with
    | true =>
      rw [hp, hq] at h
      simp only [if_true] at h
      have ht := congrArg (List.take 4) h
      have hd := congrArg (List.drop 4) h
      rw [take_pre (be_length 4 _), take_pre (be_length 4 _)] at ht
      rw [drop_pre (be_length 4 _), drop_pre (be_length 4 _)] at hd
      have := congrArg num ht
      rw [num_be 4 _ (by omega), num_be 4 _ (by omega)] at this
      exact ⟨rfl, this, hd⟩
    | false =>
      rw [hp, hq] at h
      have := congrArg List.length h
      simp [be_length] at this
      try omega
  | false =>
    cases hq : q.m.has with
    | true =>
      rw [hp, hq] at h
      have := congrArg List.length h
      simp [be_length] at this
      omega
    | false =>
      rw [hp] at h1
      rw [hq] at h2
      simp only [Bool.false_eq_true, if_false, decide_eq_true_eq] at h1 h2
      refine ⟨rfl, by omega, ?_⟩
      rw [List.eq_nil_of_length_eq_zero (show ms.length = 0 by omega), List.eq_nil_of_length_eq_zero (show ns.length = 0 by omega)]
/-- a packet as it came: its numbers fit -/
structure Pk.ok (p : Pk) : Prop where
  h : p.h.ok
  key : p.m.key < 4294967296
theorem packW_lim {p : Pk} {l : List El} {ms : List Nat} (hl : ∀ x ∈ l, x.has) (hm : Lim 256 ms) : Lim 256 (packW p l ms) := by
  have hh : Lim 256 (headW p.h) := by
    unfold headW
    exact ((((((((((be_lim _ _).append (be_lim _ _)).append (be_lim _ _)).append (be_lim _ _)).append (be_lim _ _)).append (be_lim _ _)).append (be_lim _ _)).append (be_lim _ _)).append (be_lim _ _)).append (be_lim _ _)).append (be_lim _ _)
  have ht : ∀ ys : List Nat, Lim 256 ys → Lim 256 (textB ys) := fun ys hy => by
    unfold textB
    exact ((be_lim _ _).append hy).append fun x hx => by rw [List.eq_of_mem_replicate hx]; decide
  have hf : Lim 256 (l.flatMap extB) := fun y hy => by
    obtain ⟨x, hx, hy⟩ := List.mem_flatMap.1 hy
    rw [extB_hdr] at hy
    have hhd : Lim 256 (hdr x) := by
      unfold hdr
      exact ((((((be_lim _ _).append (be_lim _ _)).append (be_lim _ _)).append (be_lim _ _)).append (be_lim _ _)).append (be_lim _ _)).append (be_lim _ _)
    exact (hhd.append ((ht _ (hl x hx).l1).append (ht _ (hl x hx).l2))) y hy
  have hmac : Lim 256 (macW p ms) := by
    unfold macW
    split
    · exact (be_lim _ _).append hm
    · exact Lim.nil _
  unfold packW
  exact (hh.append hf).append hmac
/-- what was written is read as it was -/
theorem same_back {lo : Nat} {w : World} {p q : Pk} {l : List El} {ms : List Nat} {en a k : Nat} (hr : rightB p l = true) (hl : l.length = p.n) (hts : ∀ x ∈ l, x.has ∧ x.ts < 4294967296 ∧ x.fs < 4294967296) (hp : p.ok) (hm : ms.length = p.m.n) (h : Rd lo (packW p l ms) w q en a k) :
    a = 0 ∧ k = 0 ∧ ∃ els ns, Mem lo w q els ns ∧ sm p l ms q els ns = true := by
  have rp := right_parts hr
  have hf : ∀ x ∈ l, x.fit := fun x hx => ⟨rp.2.2.2.1 x hx, (hts x hx).1.n1, (hts x hx).1.n2, (hts x hx).2.1, (hts x hx).2.2⟩
  unfold Rd at h
  rw [prs_fwd hr hl hf hp.h hm] at h
  obtain ⟨h1, h2, -, h4, h5, h6, els, ns, h7, h8, h9, h10, h11, h12, h13⟩ := h
  refine ⟨h1, h2, els, ns, h8, ?_⟩
  have rq := right_parts h10
  have hes := (h8 w (Nat.le_refl _) fun _ _ _ => rfl).1
  have hmac : macW p ms = macW q ns := by
    rw [h13]
    unfold packW
    refine (drop_pre ?_).symm
    rw [List.length_append, headW_length, flat_length l hf]
  obtain ⟨m1, m2, m3⟩ := mac_eq rp.2.1 rq.2.1 hm h12 hp.key h6 hmac
  refine sm_of h4.symm ?_ (fun x hx => (hts x hx).1) hes.has ?_ m1 m2 m3
  · rw [← hl, ← hes.1]
    have := congrArg List.length h7
    simpa using this.symm
  · have key : ∀ (l k : List El), (∀ x ∈ l, x.fit) → (∀ x ∈ k, x.fit) → k.map toEx = l.map toEx → l.map El.says = k.map El.says := by
      intro l
      induction l with
      | nil => intro k _ _ h; cases k with
        | nil => rfl
        | cons y k => cases h
      | cons x l ih => intro k h1 h2 h; cases k with
        | nil => cases h
        | cons y k =>
          simp only [List.map_cons, List.cons.injEq] at h ⊢
          have a1 := (h1 x (by simp)).lims
          have a2 := (h2 y (by simp)).lims
          exact ⟨toEx_says ⟨by omega, by omega⟩ ⟨by omega, by omega⟩ h.1.symm, ih k (fun z hz => h1 z (by simp [hz])) (fun z hz => h2 z (by simp [hz])) h.2⟩
    exact key l els hf h11 h7
end Go.Proofs.Ythflafcjinpmnaa
