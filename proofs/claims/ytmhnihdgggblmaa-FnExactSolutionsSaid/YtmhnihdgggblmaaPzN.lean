
/-
  THE NEXT HIDDEN HEAPS, THE PROGRAM's WAY: advanceHidden.
-/
import Derived.Test.YtmhnihdgggblmaaPzU
import Derived.Test.YtmhnihdgggblmaaPzSP
import Derived.Test.YtmhnihdgggblmaaRws
namespace Go.Proofs.Ytmhnihdgggblmaa
open Go.RowKit Go.Deep
set_option linter.unusedVariables false

/-- Block g alone has turned. -/
structure Turned (g : Nat) (w w' : World) : Prop where
  below : Below g w w'
  size : w'.heap.size = w.heap.size
  oth : ∀ h, h ≠ g → w'.heap[h]? = w.heap[h]?
theorem Turned.refl (g : Nat) (w : World) : Turned g w w := ⟨Below.refl _ _, rfl, fun _ _ => rfl⟩
theorem Turned.set {g : Nat} {w w' : World} (h : Turned g w w') (k : Nat) (v : Value) : Turned g w (w'.setCell ⟨g, k, none⟩ v) :=
  ⟨h.below.setCell (p := ⟨g, k, none⟩) (Nat.le_refl _) v, by simpa using h.size, fun i hi => (Below.heap_setCell _ _ _ _ (by simpa using hi)).trans (h.oth i hi)⟩
theorem advL_zero (zs : List Int) : advL zs 0 = (zs, false) := rfl
theorem advL_lt {zs : List Int} {k : Nat} (h : zs.getD k 0 < 5) : advL zs (k + 1) = (zs.set k (zs.getD k 0 + 1), true) := by rw [advL, if_pos h]
theorem advL_ge {zs : List Int} {k : Nat} (h : ¬ zs.getD k 0 < 5) : advL zs (k + 1) = advL (zs.set k 0) k := by rw [advL, if_neg h]

set_option maxHeartbeats 4000000 in
set_option maxRecDepth 100000 in
theorem advanceHidden_any (g c n : Nat) (zs : List Int) (w : World) (hr : Row w g 3 zs) (hl : zs.length = n) (hn : n ≤ 4) (hz : within 0 5 zs = true) :
    Calls Try.prog 39 #[.slice (some ⟨g, 0, none⟩) n c] w fun e w' => e = .returned (.bool (advL zs n).2) ∧ Row w' g 3 (advL zs n).1 ∧ Turned g w w' := by
  have HR := hide hr
  have HL := hide hl
  have HZ := hide hz
  clear hr hl hz
  go_enter Try.func39, Try.ntmps39
  go_wp2_with fail
  go_loopw [3] (fun i wr => ∃ j : Nat, j ≤ n ∧ i = .int .i64 ((j : Int) - 1) ∧ ∃ cur : List Int, Hid (cur.length = n) ∧ Hid (within 0 5 cur = true) ∧ Hid (advL cur j = advL zs n) ∧ Hid (Row wr g 3 cur) ∧ Hid (Turned g w wr))
    (fun i _ => (intOf i + 1).toNat)
  case atStart => exact ⟨n, Nat.le_refl _, rfl, zs, HL, HZ, hide rfl, HR, hide (Turned.refl _ _)⟩
  case round =>
    obtain ⟨j, hj, rfl, cur, HCL, HCZ, HA, HRR, HT⟩ := hrel
    cases j with
    | zero =>
      have HA2 := hide (HA.out.symm.trans (advL_zero cur))
      rw [show ((0 : Nat) : Int) - 1 = -1 from rfl]
      go_wp2_with fail
      go_ret
      exact ⟨by rw [HA2.out]; rfl, by rw [HA2.out]; exact HRR.out, HT.out⟩
    | succ j =>
      have hjl : j < cur.length := by rw [HCL.out]; omega
      have hjn : j < n := by omega
      have hcell := HRR.out.atD hjl
      have hfree := HRR.out.free j
      have hbd := within_get HCZ.out j hjl
      rw [show cur[j] = cur.getD j 0 from by simp [List.getD, hjl]] at hbd
      rw [show ((j + 1 : Nat) : Int) - 1 = (j : Int) from by omega]
      by_cases h5 : cur.getD j 0 < 5
      · have HA2 := hide (HA.out.symm.trans (advL_lt h5))
        have HR2 := hide (HRR.out.put j (cur.getD j 0 + 1))
        have HT2 := hide (HT.out.set j (.int .i64 (cur.getD j 0 + 1)))
        clear hj hjl HA
        generalize cur.getD j 0 = x at *
        go_wp2_with fail
        go_ret
        exact ⟨by rw [HA2.out]; rfl, by rw [HA2.out]; exact HR2.out, HT2.out⟩
      · have HA2 := hide ((advL_ge h5).symm.trans HA.out)
        have HR2 := hide (HRR.out.put j 0)
        have HT2 := hide (HT.out.set j (.int .i64 0))
        have HL2 := hide (show (cur.set j 0).length = n from by rw [List.length_set]; exact HCL.out)
        have HZ2 := hide (show within 0 5 (cur.set j 0) = true from within_of fun k hk => by
          rw [List.length_set] at hk
          rw [List.getElem_set]
          split
          · omega
          · exact within_get HCZ.out k hk)
        have hjn2 : j ≤ n := by omega
        clear hj hjl HA
        generalize cur.getD j 0 = x at *
        generalize cur.set j 0 = cur2 at *
        go_wp2_with fail
        go_roundw
        case rel => exact ⟨j, hjn2, by go_num, cur2, HL2, HZ2, HA2, HR2, HT2⟩
        case measure => first | (simp [intOf]; done) | (simp [intOf]; omega)
end Go.Proofs.Ytmhnihdgggblmaa
