/- clepsydralaw11.alive: the fixed calls. -/
import Derived.Test.YtonfpomgkgljiaaDoorK8
import Derived.Deep.RegionHeld3
namespace Go.Proofs.YtonfpomgkgljiaaDoor
open Go.RowKit
set_option linter.unusedVariables false
set_option maxRecDepth 100000

def Yes (w : World) (e : Ending) (w' : World) : Prop := e = .returned (.bool true) ∧ Below w.heap.size w w'
theorem hops_now {a b d l : Nat} {e : Ending} (h : HopIs a b d l l 0 e) : e = .returned (.tuple #[.int .i64 0, .int .i64 0]) := by
  rcases h with ⟨k, hk, _, _, rfl⟩ | ⟨h, _⟩
  · obtain rfl : k = 0 := by omega
    rfl
  · exact absurd rfl (h 0 (by omega))
set_option maxHeartbeats 2000000 in
theorem alive_any {w : World} (hk : Ks w) : Calls Tryd.prog 9 #[] w (Yes w) := by
  have hsz := hk.size
  have H1 := Lib.hid (list_any hk 1 2 3 4 2 (by omega) (by omega) (by omega) (by omega) (by omega) (by omega))
  go_enter Tryd.func9, Tryd.ntmps9
  go_wp2_with fail
  refine H1.out.mono ?_
  rintro e w1 ⟨A1, c1, rfl, n1, b1⟩
  go_wp2_with fail
  refine (list_out 1 2 3 4 0 (by omega) w1).mono ?_
  rintro e w2 ⟨rfl, rfl⟩
  have k1 := hk.below b1 hsz
  go_wp2_with fail
  refine (hops_any k1 1 2 3 4 3 0 (by omega) (by omega) (by omega) (by omega) (by omega)).mono ?_
  rintro e w2 ⟨he, b2⟩
  obtain rfl := hops_now he
  have B2 := then_ b1 b2
  have k2 := hk.below B2 hsz
  have n2 := nw_far n1 b2
  obtain ⟨bb, off, rfl, hb, d0⟩ := n2.at_ (k := 0) (by omega)
  obtain ⟨_, _, e1, _, d1⟩ := n2.at_ (k := 1) (by omega)
  cases e1
  rw [lst_get _ _ _ _ _ _ (by omega)] at d0 d1
  have h0 : hop 1 2 4 3 0 = 3 := rfl
  rw [h0, Nat.add_zero] at d0
  have h1 : hop 1 2 4 3 1 = nxt 1 2 4 3 := rfl
  rw [h1] at d1
  have hcap := n2.cap
  have hroom := n2.room
  clear n1 n2 b1 b2 k1 he
  go_wp2_with fail
  generalize hy : nxt 1 2 4 3 = y at *
  have Hy := Lib.hid hy
  clear hy
  have e0 : w2.drew.cell? ⟨bb, off, none⟩ = some (.int .u32 3) := d0
  have e1 : w2.drew.cell? ⟨bb, off + 1, none⟩ = some (.int .u32 (y : Int)) := d1
  have Bd : Below w.heap.size w w2.drew := B2.drew
  have kd := Lib.hid (hk.below Bd hsz)
  have hbs : bb < w2.drew.heap.size := hb
  clear d0 d1 h0 h1
  go_region_held3 (fun w' => w'.cell? ⟨bb, off, none⟩ = some (.int .u32 3) ∧ w'.cell? ⟨bb, off + 1, none⟩ = some (.int .u32 (y : Int)))
    (first | exact ⟨e04, e14⟩ | exact ⟨e03, e13⟩ | exact ⟨e0, e1⟩)
    ((first
    | (go_at_call 12; refine (next_any kd.out 1 2 3 4 (by omega) (by omega) (by omega) (by omega)).mono ?_; rintro e w3 ⟨rfl, b3⟩
       have e03 := (b3.cell (p := ⟨bb, off, none⟩) hbs).trans e0
       have e13 := (b3.cell (p := ⟨bb, off + 1, none⟩) hbs).trans e1
       have B3 := then_ Bd b3
       have k3 := Lib.hid (hk.below B3 hsz)
       have s3 : bb < w3.heap.size := by have := b3.size; omega
       rw [Hy.out])
    | (go_at_call 10; refine (session_any k3.out 1 2 3 4 (by omega) (by omega) (by omega) (by omega)).mono ?_; rintro e w4 ⟨A4, c4, rfl, n4, _, b4⟩
       have e04 := (b4.cell (p := ⟨bb, off, none⟩) s3).trans e03
       have e14 := (b4.cell (p := ⟨bb, off + 1, none⟩) s3).trans e13
       have B4 := then_ B3 b4
       clear n4)))
  go_wp2
  go_ret
  exact ⟨rfl, B4⟩
end Go.Proofs.YtonfpomgkgljiaaDoor
