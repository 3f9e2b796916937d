import Derived.Test.YtnakkmmmkbjfbaaProg
import Derived.Test.YtnakkmmmkbjfbaaMg00
import Derived.WalkKit
import Derived.Deep.QuietTactic
import Derived.BigQuiet

/-
  THE LAWS' OWN HELPERS ON LISTS OF NUMBERS: toIntS (a copy), eqIntS (the same numbers).
-/
namespace Go.Proofs.Ytnakkmmmkbjfbaa
open Go.RowKit Go.Deep

theorem infoInt : (Try.prog.info? 3).map (fun i => (i.zero, i.size, i.bytes)) = some (some (.int .i64 0), 1, 8) := by kernel_rfl

/-- WHAT toIntS LEAVES: a new row at the heap's end that reads as the argument did; nothing that was there has turned. -/
def Copied (zs : List Int) (w : World) (e : Ending) (w' : World) : Prop :=
  ∃ g, w.heap.size ≤ g ∧ g < w'.heap.size ∧ e = .returned (.slice (some ⟨g, 0, none⟩) zs.length zs.length) ∧ Row w' g 3 zs ∧ Below w.heap.size w w'

theorem toIntS_any (A : Option Addr) (n c : Nat) (zs : List Int) (w : World) (hr : Ints w w.heap.size A n zs) (hn : n ≤ 17592186044416) :
    Calls Try.prog 8 #[.slice A n c] w (Copied zs w) := by
  have hmk := run_make_row' (P := Try.prog) 22 3 (.int .i64 0) 8 Try.underlying22 infoInt rfl .i64 .i64 n (by omega) (by omega)
  have hlen := hr.len
  go_enter Try.func8, Try.ntmps8
  go_wp2
  go_loopw [4] (fun i wr => ∃ k : Nat, k ≤ n ∧ i = .int .i64 k ∧ wr.rowIs w.heap.size 3 n (fun j => if j < k then .int .i64 (zs.getD j 0) else .int .i64 0) ∧ Below w.heap.size w wr ∧ wr.heap.size = w.heap.size + 1)
    (fun i _ => n - (intOf i).toNat)
  case atStart => exact ⟨0, Nat.zero_le _, rfl, (World.rowIs_made w _ n _).congr (fun i _ => by simp), (Below.refl _ _).alloc (Nat.le_refl _) _, by simp⟩
  case round =>
    obtain ⟨k, hk, rfl, hrow, hb, hs⟩ := hrel
    by_cases hlt : k < n
    · obtain ⟨ad, rfl, hab, hcell⟩ := (hr.below hb (Nat.le_refl _)).at_ hlt
      have hold := hrow.cell hlt
      have hfz := hrow.frozen k
      go_wp2
      go_roundw
      case rel =>
        refine ⟨k + 1, by omega, by go_num, (hrow.set k _).congr (fun i hi => ?_), hb.setCell (Nat.le_refl _) _, by simpa using hs⟩
        by_cases e : i = k
        · subst e; simp [List.getElem?_eq_getElem (show i < zs.length by omega)]
        · simp [e, show (i < k + 1) ↔ i < k from by omega]
      case measure => simp [intOf]; omega
    · go_wp2
      go_ret
      subst hlen
      exact ⟨_, Nat.le_refl _, by omega, rfl, hrow.congr (fun i hi => by rw [if_pos (by omega)]), hb⟩

/-- The same numbers: true. -/
theorem eqIntS_same (A A' : Option Addr) (n c c' B B' : Nat) (zs : List Int) (w : World) (hr : Ints w B A n zs) (hr' : Ints w B' A' n zs) (hB : B ≤ w.heap.size) (hB' : B' ≤ w.heap.size) (hn : n ≤ 17592186044416) :
    Calls Try.prog 10 #[.slice A n c, .slice A' n c'] w fun e w' => e = .returned (.bool true) ∧ Below w.heap.size w w' := by
  have hlen := hr.len
  have hne : ((n : Int) != (n : Int)) = false := by simp
  go_enter Try.func10, Try.ntmps10
  go_wp2
  go_loopw [5] (fun i wr => ∃ k : Nat, k ≤ n ∧ i = .int .i64 k ∧ Below w.heap.size w wr)
    (fun i _ => n - (intOf i).toNat)
  case atStart => exact ⟨0, Nat.zero_le _, rfl, Below.refl _ _⟩
  case round =>
    obtain ⟨k, hk, rfl, hb⟩ := hrel
    by_cases hlt : k < n
    · obtain ⟨ad, rfl, hab, hcell⟩ := (hr.below hb (by omega)).at_ hlt
      obtain ⟨ad', rfl, hab', hcell'⟩ := (hr'.below hb (by omega)).at_ hlt
      go_wp2
      go_quiet (fail)
      go_wp2
      go_roundw
      case rel => exact ⟨k + 1, by omega, by go_num, below_drewN hb _⟩
      case measure => simp [intOf]; omega
    · go_wp2
      go_ret
      exact ⟨rfl, hb⟩
end Go.Proofs.Ytnakkmmmkbjfbaa

/-
  WHAT THE WALKS OF THE EXACT LAWS SHARE: contracts brought to one form, facts carried from world to world.
-/
namespace Go.Proofs.Ytnakkmmmkbjfbaa
open Go.RowKit Go.Deep

theorem to_below {P : Program} {f : FuncId} {args : Array Value} {w : World} {v : Value} (h : Calls P f args w fun e w' => e = .returned v ∧ w = w') :
    Calls P f args w fun e w' => e = .returned v ∧ Below w.heap.size w w' :=
  h.mono fun _ _ ⟨he, hw⟩ => ⟨he, hw ▸ Below.refl _ _⟩
theorem to_below_drew {P : Program} {f : FuncId} {args : Array Value} {w : World} {v : Value} (h : Calls P f args w fun e w' => e = .returned v ∧ ∃ m, w' = w.drewN m) :
    Calls P f args w fun e w' => e = .returned v ∧ Below w.heap.size w w' :=
  h.mono fun _ _ ⟨he, m, hw⟩ => ⟨he, hw ▸ below_drewN (Below.refl _ _) m⟩
theorem below_next {w w1 w2 : World} (h : Below w.heap.size w w1) (h2 : Below w1.heap.size w1 w2) : Below w.heap.size w w2 := h.trans (h2.mono h.size)
theorem Ints.next {w w' : World} {A : Option Addr} {n : Nat} {zs : List Int} (h : Ints w w.heap.size A n zs) (hb : Below w.heap.size w w') : Ints w' w'.heap.size A n zs :=
  (h.below hb (Nat.le_refl _)).more hb.size
end Go.Proofs.Ytnakkmmmkbjfbaa
