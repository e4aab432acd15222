/- nat.addTo: u is raised by b; the digit that leaves it is handed back. -/
import Derived.Test.YtddpgckbdccldaaOwn
namespace Go.Proofs.Ytddpgckbdccldaa
set_option linter.unusedSimpArgs false
set_option linter.unusedVariables false
open Go.RowKit

/-- what addTo leaves: 'u' raised by 'b', the digit that leaves it -/
def AddTo (g : Nat) (pre U bs post : List Nat) (w : World) (e : Ending) (w' : World) : Prop :=
  ∃ (U' : List Nat) (k : Nat), e = .returned (.int .u64 (k : Int)) ∧ Ow w' g (pre ++ U' ++ post) ∧ U'.length = U.length ∧ Lim 18446744073709551616 U' ∧ k ≤ 1 ∧
    val 18446744073709551616 U' + k * 18446744073709551616 ^ U.length = val 18446744073709551616 U + val 18446744073709551616 bs ∧ w.grownBy w' (some g)

theorem addTo_step {w wr : World} {g n : Nat} {pre U bs post done : List Nat} {x cy : Nat} (hl : done.length < U.length) (hn : n = U.length) (hcy : cy ≤ 1) (hlim : Lim 18446744073709551616 done) (hU : Lim 18446744073709551616 U) (hbs : Lim 18446744073709551616 bs)
    (how : Ow wr g (pre ++ (done ++ x :: U.drop (done.length + 1)) ++ post)) (hgr : w.grownBy wr (some g)) (hx : U[done.length] = x)
    (hV : val 18446744073709551616 done + cy * 18446744073709551616 ^ done.length = val 18446744073709551616 (U.take done.length) + val 18446744073709551616 (bs.take done.length)) :
    ∃ (done' : List Nat) (cy' : Nat), done'.length ≤ n ∧ Value.int .i64 ((done.length : Int) + 1) = .int .i64 done'.length ∧ Value.int .u64 ((cr x (bs[done.length]?.getD 0) cy : Nat) : Int) = .int .u64 (cy' : Int) ∧ cy' ≤ 1 ∧ Lim 18446744073709551616 done' ∧
      Ow (wr.setCell ⟨g, pre.length + done.length, none⟩ (.int .u64 ((sm x (bs[done.length]?.getD 0) cy : Nat) : Int))).drew g (pre ++ (done' ++ U.drop done'.length) ++ post) ∧ w.grownBy (wr.setCell ⟨g, pre.length + done.length, none⟩ (.int .u64 ((sm x (bs[done.length]?.getD 0) cy : Nat) : Int))).drew (some g) ∧
      Hid (val 18446744073709551616 done' + cy' * 18446744073709551616 ^ done'.length = val 18446744073709551616 (U.take done'.length) + val 18446744073709551616 (bs.take done'.length)) := by
  have hy : bs[done.length]?.getD 0 < 18446744073709551616 := hbs.get (by omega) done.length
  have hxl : x < 18446744073709551616 := by rw [← hx]; exact hU _ (List.getElem_mem hl)
  have hxg : U.getD done.length 0 = x := by simp [List.getD, List.getElem?_eq_getElem hl, hx]
  refine ⟨done ++ [sm x (bs[done.length]?.getD 0) cy], cr x (bs[done.length]?.getD 0) cy, by simp; omega, by simp, rfl, cr_le hxl hy hcy, hlim.append (Lim.one (sm_lt _ _ _)), ?_, only_drew (only_setCell hgr (.inl rfl) _), ?_⟩
  · have := (how.set_ (pre.length + done.length) (sm x (bs[done.length]?.getD 0) cy)).drew
    rw [set_mid] at this
    simpa using this
  · show _ = _
    rw [List.length_append, List.length_singleton, val_snoc, val_take_succ, val_take_succ, hxg, Nat.pow_succ]
    exact add_step _ _ _ _ _ _ _ _ _ _ (sm_cr x (bs[done.length]?.getD 0) cy) hV


end Go.Proofs.Ytddpgckbdccldaa
