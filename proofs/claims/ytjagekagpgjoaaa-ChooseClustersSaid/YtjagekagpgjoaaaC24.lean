/- choose: the closures that Cluster hands on; what DeleteFunc leaves of a row in which the one to be struck stands once. -/
import Derived.Test.YtjagekagpgjoaaaC23
namespace Go.Proofs.Ytjagekagpgjoaaa
open Go.RowKit
set_option linter.unusedVariables false
set_option linter.unusedSimpArgs false
set_option maxRecDepth 100000
theorem run_enter27 : ∀ args w, (callFunc 27 args).run Try.prog w = .ok (.enter 27 args) w := enters_of Try.func27 (by kernel_rfl) rfl
theorem run_enter29 : ∀ args w, (callFunc 29 args).run Try.prog w = .ok (.enter 29 args) w := enters_of Try.func29 (by kernel_rfl) rfl
theorem run_enter32 : ∀ args w, (callFunc 32 args).run Try.prog w = .ok (.enter 32 args) w := enters_of Try.func32 (by kernel_rfl) rfl
theorem reads27 {w : World} {A1 A2 : Option Addr} {B n c1 m c2 bo bl : Nat} {os : List Int} {L : List Nat} (h1 : Ri w B A1 n os) (h2 : Ri w B A2 m (ints L)) (hO : okO os) (hL : ∀ j ∈ L, j < n) (hm : m ≤ 64)
    (co : w.cell? ⟨bo, 0, none⟩ = some (.slice A1 n c1)) (cl : w.cell? ⟨bl, 0, none⟩ = some (.slice A2 m c2)) : Reads 27 #[.pointer (some ⟨bo, 0, none⟩), .pointer (some ⟨bl, 0, none⟩)] w L (str os L) := by
  refine ⟨run_enter27, fun j hj k => ?_⟩
  have HS := Lib.hid (str_any (c1 := c1) (c2 := c2) (h1.drewN k) (h2.drewN k) hO hL (hL j hj) hm)
  have d0 : (w.drewN k).cell? ⟨bo, 0, none⟩ = some (.slice A1 n c1) := co
  have d1 : (w.drewN k).cell? ⟨bl, 0, none⟩ = some (.slice A2 m c2) := cl
  obtain ⟨w1, e1⟩ : ∃ w1, w1 = w.drewN k := ⟨_, rfl⟩
  have HW := Lib.hid e1
  rw [← e1] at HS d0 d1 ⊢
  clear h1 h2 hO hL co cl e1
  show Calls Try.prog 27 #[.int .i64 (j : Int), .pointer (some ⟨bo, 0, none⟩), .pointer (some ⟨bl, 0, none⟩)] w1 _
  go_enter Try.func27, Try.ntmps27
  go_wp2_with fail
  refine HS.out.mono ?_
  rintro e w2 ⟨rfl, k2, rfl⟩
  go_wp2_with fail
  go_ret
  exact ⟨rfl, k + k2, by rw [HW.out]; exact World.drewN_drewN ..⟩
theorem reads29 {w : World} {A2 : Option Addr} {B n c2 bd : Nat} {ds : List Int} {L : List Nat} (h2 : Ri w B A2 n ds) (hD : okD ds) (hL : ∀ j ∈ L, j < n) (hn : n ≤ 64)
    (cd : w.cell? ⟨bd, 0, none⟩ = some (.slice A2 n c2)) : Reads 29 #[.pointer (some ⟨bd, 0, none⟩)] w L (fun j => -ds.getD j 0) := by
  refine ⟨run_enter29, fun j hj k => ?_⟩
  have hjn := hL j hj
  have a0 : ds[j]? = some (ds.getD j 0) := by
    rw [List.getD_eq_getElem?_getD, List.getElem?_eq_getElem (by rw [h2.1]; exact hjn)]
    rfl
  have hdd := hD _ (List.mem_of_getElem? a0)
  obtain ⟨g2, off2, rfl, _, hc2⟩ := h2.cells (by omega)
  have d0 : (w.drewN k).cell? ⟨bd, 0, none⟩ = some (.slice (some ⟨g2, off2, none⟩) n c2) := cd
  have d1 : (w.drewN k).cell? ⟨g2, off2 + j, none⟩ = some (.int .i64 (ds.getD j 0)) := hc2 w (Below.refl _ _) j _ a0
  obtain ⟨w1, e1⟩ : ∃ w1, w1 = w.drewN k := ⟨_, rfl⟩
  have HW := Lib.hid e1
  obtain ⟨z, hz⟩ : ∃ z, z = ds.getD j 0 := ⟨_, rfl⟩
  rw [← hz] at hdd d1
  dsimp only
  rw [← hz]
  rw [← e1] at d0 d1 ⊢
  clear h2 hD hL cd e1 hc2 a0 hz
  show Calls Try.prog 29 #[.int .i64 (j : Int), .pointer (some ⟨bd, 0, none⟩)] w1 _
  go_enter Try.func29, Try.ntmps29
  go_wp2_with fail
  go_ret
  exact ⟨rfl, k, HW.out⟩
theorem del_cl {w : World} {bs : Nat} {s : Nat} (j : Nat) (cs : w.cell? ⟨bs, 0, none⟩ = some (.int .i64 (s : Int))) :
    Calls Try.prog 32 #[.int .i64 (j : Int), .pointer (some ⟨bs, 0, none⟩)] w fun e w' => e = .returned (.bool (decide (j = s))) ∧ w' = w := by
  by_cases h : j = s
  · rw [decide_eq_true h]
    subst h
    go_enter Try.func32, Try.ntmps32
    go_wp2_with fail
    go_ret
    exact ⟨by simp, rfl⟩
  · rw [decide_eq_false h]
    have h1 : ((j : Int) = (s : Int)) = False := by simp only [eq_iff_iff, iff_false]; omega
    have h2 : ((j : Int) == (s : Int)) = false := by simp only [beq_eq_false_iff_ne, ne_eq]; omega
    go_enter Try.func32, Try.ntmps32
    go_wp2_with fail
    go_ret
    exact ⟨by first | rfl | (show Ending.returned (.bool ((j : Int) == (s : Int))) = _; rw [h2]), rfl⟩
/-- a row of places in a block of its own -/
def Lw (w : World) (g : Nat) (L : List Nat) (cap : Nat) : Prop := ∃ cur : Array Value, w.heap[g]? = some (.cells cur 3 (0, 0)) ∧ cur.size = cap ∧ L.length ≤ cap ∧ ∀ i j : Nat, L[i]? = some j → cur[i]? = some (.int .i64 (j : Int))
theorem Lw.ri {w : World} {g cap : Nat} {L : List Nat} (h : Lw w g L cap) : Ri w w.heap.size (some ⟨g, 0, none⟩) L.length (ints L) := by
  obtain ⟨cur, hg, _, _, hc⟩ := h
  have hlt : g < w.heap.size := (Array.getElem?_eq_some_iff.1 hg).1
  refine ⟨ints_len L, .inr ⟨g, 0, rfl, hlt, fun i z hz => ?_⟩⟩
  unfold ints at hz
  rw [List.getElem?_map, Option.map_eq_some_iff] at hz
  obtain ⟨j, hj, rfl⟩ := hz
  rw [Nat.zero_add]
  simp only [World.cell?, hg]
  exact hc i j hj
set_option maxHeartbeats 2000000 in
theorem find_any {w : World} {g bs c m : Nat} {s : Nat} {L1 L2 : List Nat} (h : Ri w w.heap.size (some ⟨g, 0, none⟩) m (ints (L1 ++ s :: L2))) (hm : m ≤ 64) (hs : s ∉ L1) (cs : w.cell? ⟨bs, 0, none⟩ = some (.int .i64 (s : Int))) :
    Calls Try.prog 45 #[.slice (some ⟨g, 0, none⟩) m c, .func (.func 32) #[] #[.pointer (some ⟨bs, 0, none⟩)]] w fun e w' => e = .returned (.int .i64 (L1.length : Int)) ∧ w' = w := by
  have HR := Lib.hid h
  have hlen : L1.length + 1 + L2.length = m := by have := h.1; rw [ints_len, List.length_append, List.length_cons] at this; omega
  have HC := Lib.hid (fun j => del_cl (w := w) j cs)
  have HN := Lib.hid hs
  have hent := run_enter32
  obtain ⟨p, hp⟩ : ∃ p, p = L1.length := ⟨_, rfl⟩
  rw [← hp] at hlen ⊢
  have HP := Lib.hid hp
  clear h hs cs hp
  go_enter Try.func45, Try.ntmps45
  go_wp2_with fail
  go_loopw [8] (fun iv wr => ∃ j : Nat, j ≤ p ∧ iv = .int .i64 (j : Int) ∧ wr = w) (fun iv _ => (m - (match iv with | .int _ z => z.toNat | _ => 0)))
  case atStart => exact ⟨0, by omega, rfl, rfl⟩
  case round =>
    obtain ⟨j, hj, rfl, rfl⟩ := hrel
    have e1 : decide ((j : Int) < (m : Int)) = true := by simp; omega
    have e1' : (j : Int) < (m : Int) := by omega
    by_cases hjp : j < p
    · obtain ⟨q, hq⟩ : ∃ q, L1[j]? = some q := ⟨_, List.getElem?_eq_getElem (by have := HP.out; omega)⟩
      have hq2 : (L1 ++ s :: L2)[j]? = some q := by rw [List.getElem?_append_left (by have := HP.out; omega)]; exact hq
      obtain ⟨g2, off2, e2, _, hc2⟩ := HR.out.cells (by omega)
      cases e2
      have b2 := hc2 wr (Below.refl _ _) j _ (ints_get hq2)
      rw [Nat.zero_add] at b2
      have hqs : ¬ q = s := fun e => HN.out (by rw [← e]; exact List.mem_of_getElem? hq)
      have HC1 := Lib.hid (HC.out q)
      rw [decide_eq_false hqs] at HC1
      clear hc2 hq hq2
      go_wp2_with fail
      refine HC1.out.mono ?_
      rintro e w2 ⟨rfl, e3⟩
      subst w2
      go_wp2_with fail
      exact ⟨⟨j + 1, by omega, rfl, by first | trivial | rfl⟩, by show m - ((j : Int) + 1).toNat < m - (j : Int).toNat; omega⟩
    · obtain rfl : j = p := by omega
      have hq2 : (L1 ++ s :: L2)[j]? = some s := by rw [HP.out, List.getElem?_append_right (Nat.le_refl _), Nat.sub_self]; rfl
      obtain ⟨g2, off2, e2, _, hc2⟩ := HR.out.cells (by omega)
      cases e2
      have b2 := hc2 wr (Below.refl _ _) j _ (ints_get hq2)
      rw [Nat.zero_add] at b2
      have HC1 := Lib.hid (HC.out s)
      rw [decide_eq_true rfl] at HC1
      clear hc2 hq2
      go_wp2_with fail
      refine HC1.out.mono ?_
      rintro e w2 ⟨rfl, e3⟩
      subst w2
      go_wp2_with fail
      go_ret
      exact ⟨rfl, rfl⟩
end Go.Proofs.Ytjagekagpgjoaaa
