
/-
  THE LIBRARY's TrailingZeros, at every number: its table of 64 lies in its variable.
-/
import Derived.Test.YtmknencbjhcehaaDoorLaws0
import Derived.Test.YtmknencbjhcehaaDoorPairP
import Derived.Shelf.Spec.TrailingZeros
namespace Go.Proofs.YtmknencbjhcehaaDoor
open Go.RowKit Go.Deep
set_option linter.unusedVariables false

/-- The table lies in its variable. -/
def Tab (w : World) : Prop := TabAt 1 Lib.deBruijn64tab w
theorem Tab.lt {w : World} (h : Tab w) : 1 < w.heap.size := lt_of_cell? (h 0 (by decide))
theorem Tab.below {w w' : World} {B : Nat} (h : Tab w) (hb : Below B w w') (hB : 1 < B) : Tab w' := fun j hj => (hb.cell (p := ⟨1, j, none⟩) hB).trans (h j hj)
theorem Tab.next {w w' : World} (h : Tab w) (hb : Below w.heap.size w w') : Tab w' := h.below hb h.lt
theorem Tab.alloc {w : World} (h : Tab w) (o : Obj) : Tab (w.alloc o) := fun j hj => (World.cell?_alloc_lt w o ⟨1, j, none⟩ h.lt).trans (h j hj)

theorem Tab.drew {w : World} (h : Tab w) : Tab w.drew := h
theorem Tab.drewN {w : World} (h : Tab w) (n : Nat) : Tab (w.drewN n) := h

theorem tz64_core (x k idx : Nat) (w : World) (hx0 : ((x : Int) == 0) = false)
    (key : IntKind.u64.wrap (bits BinOp.and IntKind.u64 (x : Int) (IntKind.u64.wrap (-(x : Int))) * 285870213051353865) / 288230376151711744 = (idx : Int))
    (hi : idx < 64) (hk : k < 64) (hcell : w.cell? ⟨1, idx, none⟩ = some (.int .u8 k)) :
    Calls Tryd.prog 36 #[.int .u64 x] w fun e w' => e = .returned (.int .i64 k) ∧ w = w' := by
  go_enter Tryd.func36, Tryd.ntmps36
  go_wp2_with (simp only [key])
  go_ret
  exact ⟨rfl, rfl⟩
theorem tz64_any (x : Nat) (hx0 : x ≠ 0) (hx : x < 18446744073709551616) (w : World) (hT : Tab w) :
    Calls Tryd.prog 36 #[.int .u64 x] w fun e w' => e = .returned (.int .i64 (Lib.ctz 64 x)) ∧ w = w' := by
  obtain ⟨hlow, hk⟩ := Lib.lowest_bit 64 x hx0 hx
  obtain ⟨hi, htab⟩ := Lib.deBruijn64_at _ hk
  refine tz64_core x (Lib.ctz 64 x) _ w (by simpa using hx0) (tz64_key x _ hx hx0 hlow) hi hk ?_
  rw [hT _ (show _ < Lib.deBruijn64tab.length from hi), htab]

theorem tz_any (x : Nat) (hx0 : x ≠ 0) (hx : x < 18446744073709551616) (w : World) (hT : Tab w) :
    Calls Tryd.prog 32 #[.int .u64 x] w fun e w' => e = .returned (.int .i64 (Lib.ctz 64 x)) ∧ w = w' := by
  have H := hide (tz64_any x hx0 hx w hT)
  generalize Lib.ctz 64 x = k at *
  have hx0' : ((x : Int) == 0) = false := by simpa using hx0
  clear hT hx0
  go_enter Tryd.func32, Tryd.ntmps32
  go_wp2_with fail
  refine H.out.mono ?_; rintro e w' ⟨rfl, rfl⟩
  go_wp2_with fail
  go_ret
  exact ⟨rfl, rfl⟩

/-- It is the number of halvings. -/
theorem ctz_tz (n : Nat) (h0 : 0 < n) (h : n < 2 ^ 64) : Lib.ctz 64 n = tz 64 n := by
  obtain ⟨o, h1, h2⟩ := tz_spec 64 n h0 h
  obtain ⟨m, h3, _⟩ := Lib.ctzFrom_spec 64 n h0 h
  rw [show Lib.ctz 64 n = Lib.ctzFrom 64 n from by unfold Lib.ctz; rw [if_neg (by omega)]]
  generalize Lib.ctzFrom 64 n = i at *
  generalize tz 64 n = j at *
  have a := pow_dvd_odd (k := i) (j := j) h1 (by rw [← h2, h3]; exact ⟨_, rfl⟩)
  have b := pow_dvd_odd (k := j) (j := i) (m := 2 * m + 1) (by omega) (by rw [← h3, h2]; exact ⟨_, rfl⟩)
  omega
end Go.Proofs.YtmknencbjhcehaaDoor
