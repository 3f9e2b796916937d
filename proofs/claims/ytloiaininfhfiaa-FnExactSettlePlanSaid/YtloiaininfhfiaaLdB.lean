
/-
  LOADS AND ENDS, BOTH WAYS: ldLoads, ldEnd, loadsOf; LoadsOf.
-/
import Derived.Test.YtloiaininfhfiaaLd
import Derived.Test.YtloiaininfhfiaaOwn
import Derived.Test.YtloiaininfhfiaaCopy
import Derived.Test.YtloiaininfhfiaaMark
namespace Go.Proofs.Ytloiaininfhfiaa
open Go.RowKit Go.Deep

theorem loadsZ_succ (zs ps : List Int) (m k : Nat) {j : Nat} (hp : ps.getD k 0 = (j : Int)) (hj : j < m) : loadsZ zs ps m (k + 1) = (loadsZ zs ps m k).set j ((loadsZ zs ps m k).getD j 0 + zs.getD k 0) := by
  show addTo _ _ _ = _
  unfold addTo
  rw [hp]; rfl
theorem jboth_get {zs ps : List Int} {m : Nat} (h : jboth zs m ps = true) {k : Nat} (hk : k < ps.length) : ∃ j : Nat, ps.getD k 0 = (j : Int) ∧ j < m := by
  have h1 := within_get (jfit_of (jboth_of h).2).2 k hk
  rw [getD_at hk]
  exact ⟨(ps[k]).toNat, by omega, by omega⟩
theorem loadsZ_at {zs ps : List Int} {m : Nat} (h : jboth zs m ps = true) (k j : Nat) (hk : k ≤ ps.length) (hj : j < m) : 0 ≤ (loadsZ zs ps m k).getD j 0 ∧ (loadsZ zs ps m k).getD j 0 ≤ 9000 := by
  have h3 := jgood_of (jask_of (jboth_of h).1).1
  have h4 := (jfit_of (jboth_of h).2).1
  have h5 := within_get (loadsZ_bd ps m k (within_wide h3.2.2 (by omega) (by omega))) j (by rw [loadsZ_length]; exact hj)
  rw [getD_at (by rw [loadsZ_length]; exact hj)]
  omega

/-- The model's ldLoads. -/
theorem ldLoads_any (A : Option Addr) (n c B : Nat) (zs : List Int) (m : Nat) (A' : Option Addr) (n' c' B' : Nat) (ps : List Int) (w : World) (hr : Ints w B A n zs) (hs : Ints w B' A' n' ps)
    (hB : B ≤ w.heap.size) (hB' : B' ≤ w.heap.size) (hb : jboth zs m ps = true) :
    Calls Try.prog 36 #[.slice A n c, .int .i64 (m : Int), .slice A' n' c'] w (Made1 (loadsA zs ps m) w) := by
  obtain rfl := hr.len
  obtain rfl := hs.len
  obtain ⟨hm1, hm2⟩ := jboth_m hb
  have hl := (jfit_of (jboth_of hb).2).1
  have hle := (jgood_of (jask_of (jboth_of hb).1).1).2.1
  have HZ := hide (jgood_get (jask_of (jboth_of hb).1).1)
  have HG := hide (fun k => jboth_get hb (k := k))
  have HA := hide (loadsZ_at hb)
  have HN := hide (loadsZ_length zs ps m)
  have HS := hide (fun k j => loadsZ_succ zs ps m k (j := j))
  have hle2 : ps.length ≤ 9 := by omega
  have Hl := hide hl
  clear hl
  have hmk := run_make_row' (P := Try.prog) 22 3 (.int .i64 0) 8 Try.underlying22 infoInt rfl .i64 .i64 m (by omega) (by omega)
  go_enter Try.func36, Try.ntmps36
  go_wp2_with fail
  go_loopw [14] (fun i wr => ∃ k : Nat, k ≤ ps.length ∧ i = .int .i64 k ∧ Own wr w.heap.size 3 (.slice (some ⟨w.heap.size, 0, none⟩) m m) (loadsZ zs ps m k) ∧ Below w.heap.size w wr ∧ w.heap.size < wr.heap.size)
    (fun i _ => ps.length - (intOf i).toNat)
  case atStart =>
    refine ⟨0, Nat.zero_le _, rfl, ?_, (Below.refl _ _).alloc (Nat.le_refl _) _, by simp⟩
    have h0 : Row (w.alloc (.cells (madeCells #[.int .i64 0] m) 3)) w.heap.size 3 (loadsZ zs ps m 0) := by
      unfold Row; rw [HN.out]
      exact (World.rowIs_made w _ m _).congr (fun i hi => by simp [loadsZ, List.getD, List.getElem?_replicate, hi])
    have := Own.of_row (base := w.heap.size) h0 (Nat.le_refl _) (by rw [HN.out]; unfold maxLen; omega)
    rw [HN.out] at this
    exact this
  case round =>
    obtain ⟨k, hk, rfl, hown, hbl, hsz⟩ := hrel
    by_cases hlt : k < ps.length
    · obtain ⟨j, hj, hjm⟩ := HG.out k hlt
      obtain ⟨ad, rfl, hab, hcell⟩ := (hr.below hbl (by omega)).at_ (show k < zs.length by have := Hl.out; omega)
      obtain ⟨ad', rfl, hab', hcell'⟩ := (hs.below hbl (by omega)).at_ hlt
      have hz := HZ.out k (by have := Hl.out; omega)
      rw [getD_at (l := zs) (by have := Hl.out; omega)] at hcell
      rw [hj] at hcell'
      have HU := hide (HS.out k j hj hjm)
      rw [getD_at (l := zs) (by have := Hl.out; omega)] at HU
      have hlt2 : k < zs.length := by have := Hl.out; omega
      clear hj
      have ha := HA.out k j (by omega) hjm
      have hown' := hown
      unfold Own at hown'
      rw [HN.out] at hown'
      have hold := World.ownsRow.cellAt hown' j (by first | omega | (rw [HN.out]; omega))
      rw [List.getElem?_map, List.getElem?_eq_getElem (by rw [HN.out]; exact hjm), Option.map_some, ← getD_at (by rw [HN.out]; exact hjm)] at hold
      have hfz := World.ownsRow.frozenAt hown' j
      clear hown'
      generalize hx : (loadsZ zs ps m k).getD j 0 = x at *
      generalize zs[k] = y at *
      clear hx
      go_wp2_with fail
      go_region
      go_wp2_with fail
      go_roundw
      case rel =>
        refine ⟨k + 1, by omega, by go_num, ?_, ?_, ?_⟩
        · rw [HU.out]
          exact Own.stored hown (HN.out _) j _
        · exact (hbl.setCell (Nat.le_refl _) _).drew
        · simpa using hsz
      case measure => simp [intOf]; omega
    · obtain rfl : k = ps.length := by omega
      go_wp2_with fail
      go_ret
      have HL := loadsA_length zs ps m
      unfold Made1
      rw [HL]
      exact ⟨w.heap.size, m, rfl, Nat.le_refl _, hsz, Nat.le_refl _, by unfold maxLen; omega, hown, hbl⟩
/-- The program's loadsOf. -/
theorem loadsOf_any (A : Option Addr) (n c B : Nat) (zs : List Int) (m : Nat) (A' : Option Addr) (n' c' B' : Nat) (ps : List Int) (w : World) (hr : Ints w B A n zs) (hs : Ints w B' A' n' ps)
    (hB : B ≤ w.heap.size) (hB' : B' ≤ w.heap.size) (hb : jboth zs m ps = true) :
    Calls Try.prog 22 #[.slice A n c, .int .i64 (m : Int), .slice A' n' c'] w (Made1 (loadsA zs ps m) w) := by
  obtain rfl := hr.len
  obtain rfl := hs.len
  obtain ⟨hm1, hm2⟩ := jboth_m hb
  have hl := (jfit_of (jboth_of hb).2).1
  have hle := (jgood_of (jask_of (jboth_of hb).1).1).2.1
  have HZ := hide (jgood_get (jask_of (jboth_of hb).1).1)
  have HG := hide (fun k => jboth_get hb (k := k))
  have HA := hide (loadsZ_at hb)
  have HN := hide (loadsZ_length zs ps m)
  have HS := hide (fun k j => loadsZ_succ zs ps m k (j := j))
  have hle2 : ps.length ≤ 9 := by omega
  have Hl := hide hl
  clear hl
  have hmk := run_make_row' (P := Try.prog) 22 3 (.int .i64 0) 8 Try.underlying22 infoInt rfl .i64 .i64 m (by omega) (by omega)
  go_enter Try.func22, Try.ntmps22
  go_wp2_with fail
  go_loopw [14] (fun i wr => ∃ k : Nat, k ≤ ps.length ∧ i = .int .i64 k ∧ Own wr w.heap.size 3 (.slice (some ⟨w.heap.size, 0, none⟩) m m) (loadsZ zs ps m k) ∧ Below w.heap.size w wr ∧ w.heap.size < wr.heap.size)
    (fun i _ => ps.length - (intOf i).toNat)
  case atStart =>
    refine ⟨0, Nat.zero_le _, rfl, ?_, (Below.refl _ _).alloc (Nat.le_refl _) _, by simp⟩
    have h0 : Row (w.alloc (.cells (madeCells #[.int .i64 0] m) 3)) w.heap.size 3 (loadsZ zs ps m 0) := by
      unfold Row; rw [HN.out]
      exact (World.rowIs_made w _ m _).congr (fun i hi => by simp [loadsZ, List.getD, List.getElem?_replicate, hi])
    have := Own.of_row (base := w.heap.size) h0 (Nat.le_refl _) (by rw [HN.out]; unfold maxLen; omega)
    rw [HN.out] at this
    exact this
  case round =>
    obtain ⟨k, hk, rfl, hown, hbl, hsz⟩ := hrel
    by_cases hlt : k < ps.length
    · obtain ⟨j, hj, hjm⟩ := HG.out k hlt
      obtain ⟨ad, rfl, hab, hcell⟩ := (hr.below hbl (by omega)).at_ (show k < zs.length by have := Hl.out; omega)
      obtain ⟨ad', rfl, hab', hcell'⟩ := (hs.below hbl (by omega)).at_ hlt
      have hz := HZ.out k (by have := Hl.out; omega)
      rw [getD_at (l := zs) (by have := Hl.out; omega)] at hcell
      rw [hj] at hcell'
      have HU := hide (HS.out k j hj hjm)
      rw [getD_at (l := zs) (by have := Hl.out; omega)] at HU
      have hlt2 : k < zs.length := by have := Hl.out; omega
      clear hj
      have ha := HA.out k j (by omega) hjm
      have hown' := hown
      unfold Own at hown'
      rw [HN.out] at hown'
      have hold := World.ownsRow.cellAt hown' j (by first | omega | (rw [HN.out]; omega))
      rw [List.getElem?_map, List.getElem?_eq_getElem (by rw [HN.out]; exact hjm), Option.map_some, ← getD_at (by rw [HN.out]; exact hjm)] at hold
      have hfz := World.ownsRow.frozenAt hown' j
      clear hown'
      generalize hx : (loadsZ zs ps m k).getD j 0 = x at *
      generalize zs[k] = y at *
      clear hx
      go_wp2_with fail
      go_region
      go_wp2_with fail
      go_roundw
      case rel =>
        refine ⟨k + 1, by omega, by go_num, ?_, ?_, ?_⟩
        · rw [HU.out]
          exact Own.stored hown (HN.out _) j _
        · exact (hbl.setCell (Nat.le_refl _) _).drew
        · simpa using hsz
      case measure => simp [intOf]; omega
    · obtain rfl : k = ps.length := by omega
      go_wp2_with fail
      go_ret
      have HL := loadsA_length zs ps m
      unfold Made1
      rw [HL]
      exact ⟨w.heap.size, m, rfl, Nat.le_refl _, hsz, Nat.le_refl _, by unfold maxLen; omega, hown, hbl⟩
end Go.Proofs.Ytloiaininfhfiaa
