/- nat.addTo: u is raised by b; the digit that leaves it is handed back. -/
import Derived.Test.YtkhlmcknbangfaaGreatDoorOwn
namespace Go.Proofs.YtkhlmcknbangfaaGreatDoor
set_option linter.unusedSimpArgs false
set_option linter.unusedVariables false
open Go.RowKit
set_option linter.unusedVariables false

/-- what addTo leaves: 'u' raised by 'b', the digit that leaves it -/
def AddTo (g : Nat) (pre U bs post : List Nat) (w : World) (e : Ending) (w' : World) : Prop :=
  ∃ (U' : List Nat) (k : Nat), e = .returned (.int .u64 (k : Int)) ∧ Ow w' g (pre ++ U' ++ post) ∧ U'.length = U.length ∧ Lim 18446744073709551616 U' ∧ k ≤ 1 ∧
    val 18446744073709551616 U' + k * 18446744073709551616 ^ U.length = val 18446744073709551616 U + val 18446744073709551616 bs ∧ w.grownBy w' (some g)

theorem addTo_step {w wr : World} {g n : Nat} {pre U bs post done : List Nat} {x cy : Nat} (hl : done.length < U.length) (hn : n = U.length) (hcy : cy ≤ 1) (hlim : Lim 18446744073709551616 done) (hU : Lim 18446744073709551616 U) (hbs : Lim 18446744073709551616 bs)
    (how : Ow wr g (pre ++ (done ++ x :: U.drop (done.length + 1)) ++ post)) (hgr : w.grownBy wr (some g)) (hx : U[done.length] = x)
    (hV : val 18446744073709551616 done + cy * 18446744073709551616 ^ done.length = val 18446744073709551616 (U.take done.length) + val 18446744073709551616 (bs.take done.length)) :
    ∃ (done' : List Nat) (cy' : Nat), done'.length ≤ n ∧ Value.int .i64 ((done.length : Int) + 1) = .int .i64 done'.length ∧ Value.int .u64 ((cr x (bs[done.length]?.getD 0) cy : Nat) : Int) = .int .u64 (cy' : Int) ∧ cy' ≤ 1 ∧ Lim 18446744073709551616 done' ∧
      Ow (wr.setCell ⟨g, pre.length + done.length, none⟩ (.int .u64 ((sm x (bs[done.length]?.getD 0) cy : Nat) : Int))).drew g (pre ++ (done' ++ U.drop done'.length) ++ post) ∧ w.grownBy (wr.setCell ⟨g, pre.length + done.length, none⟩ (.int .u64 ((sm x (bs[done.length]?.getD 0) cy : Nat) : Int))).drew (some g) ∧
      Hid (val 18446744073709551616 done' + cy' * 18446744073709551616 ^ done'.length = val 18446744073709551616 (U.take done'.length) + val 18446744073709551616 (bs.take done'.length)) := by
  have hy : bs[done.length]?.getD 0 < 18446744073709551616 := hbs.get (by omega) done.length
  have hxl : x < 18446744073709551616 := by rw [← hx]; exact hU _ (List.getElem_mem hl)
  have hxg : U.getD done.length 0 = x := by simp [List.getD, List.getElem?_eq_getElem hl, hx]
  refine ⟨done ++ [sm x (bs[done.length]?.getD 0) cy], cr x (bs[done.length]?.getD 0) cy, by simp; omega, by simp, rfl, cr_le hxl hy hcy, hlim.append (Lim.one (sm_lt _ _ _)), ?_, only_drew (only_setCell hgr (.inl rfl) _), ?_⟩
  · have := (how.set_ (pre.length + done.length) (sm x (bs[done.length]?.getD 0) cy)).drew
    rw [set_mid] at this
    simpa using this
  · show _ = _
    rw [List.length_append, List.length_singleton, val_snoc, val_take_succ, val_take_succ, hxg, Nat.pow_succ]
    exact add_step _ _ _ _ _ _ _ _ _ _ (sm_cr x (bs[done.length]?.getD 0) cy) hV

set_option maxHeartbeats 1000000 in
theorem addTo_any {w : World} {B g n c bn bc : Nat} {A bA : Option Addr} {pre U post bs : List Nat} (ho : Ow w g (pre ++ U ++ post)) (hA : 0 < n → A = some ⟨g, pre.length, none⟩) (hn : n = U.length)
    (hc : n ≤ c) (hc' : c ≤ maxLen) (hU : Lim 18446744073709551616 U) (hb : Nt w B bA bn bc bs) (hBg : B ≤ g) (hle : bn ≤ n) :
    Calls Tryz.prog 117 #[.slice A n c, .slice bA bn bc] w (AddTo g pre U bs post w) := by
  have hg := ho.lt
  unfold maxLen at hc'
  have Hn := Lib.hid hn
  clear hn
  go_enter Tryz.func117, Tryz.ntmps117
  go_wp2
  go_loopw [5, 9] (fun cv i wr => ∃ (done : List Nat) (cy : Nat), done.length ≤ n ∧ i = .int .i64 done.length ∧ cv = .int .u64 (cy : Int) ∧ cy ≤ 1 ∧ Lim 18446744073709551616 done ∧
      Ow wr g (pre ++ (done ++ U.drop done.length) ++ post) ∧ w.grownBy wr (some g) ∧
      Hid (val 18446744073709551616 done + cy * 18446744073709551616 ^ done.length = val 18446744073709551616 (U.take done.length) + val 18446744073709551616 (bs.take done.length)))
    (fun _ i _ => n - (intOf i).toNat)
  case atStart => exact ⟨[], 0, Nat.zero_le _, rfl, rfl, by omega, Lim.nil _, by simpa using ho, World.grownBy.refl w _, by simp [Hid, val]⟩
  case round =>
    obtain ⟨done, cy, hd, rfl, rfl, hcy, hlim, how, hgr, hV⟩ := hrel
    by_cases hlt : done.length < n
    · obtain rfl := hA (by omega)
      have hl : done.length < U.length := by have := Hn.out; omega
      have how' : Ow wr g (pre ++ (done ++ U[done.length] :: U.drop (done.length + 1)) ++ post) := by rw [← List.drop_eq_getElem_cons hl]; exact how
      have hx : wr.cell? ⟨g, pre.length + done.length, none⟩ = some (.int .u64 ((U[done.length] : Nat) : Int)) := how'.cell (get_mid _ _ _ _ _)
      have hf : wr.frozen? ⟨g, pre.length + done.length, none⟩ = false := how.frozen _
      have hbr : Nt wr B bA bn bc bs := hb.only hgr hBg (by omega)
      generalize hxe : U[done.length] = x at *
      have Hxe := Lib.hid hxe
      clear hxe how
      go_wp2
      go_region_with (go_at_call 131; refine (limb_any hbr.drew _ (by omega)).mono ?_; rintro e w' ⟨rfl, rfl⟩)
      all_goals
        go_wp2
        go_roundw
        case rel => exact addTo_step hl Hn.out hcy hlim hU hb.lim how' hgr Hxe.out hV.out
        case measure => simp [intOf]; omega
    · have hd' : n ≤ done.length := by omega
      go_wp2
      go_ret
      have e : done.length = U.length := by have := Hn.out; omega
      refine ⟨done, cy, rfl, ?_, e, hlim, hcy, ?_, hgr⟩
      · simpa [e] using how
      · have := hV.out
        rw [e, List.take_length, List.take_of_length_le (by have := hb.len; have := Hn.out; omega)] at this
        exact this
end Go.Proofs.YtkhlmcknbangfaaGreatDoor
