
/-
  PLAYS OF DOUBLINGS, plainly. No program is named here.
-/
import Derived.Test.YtnakkmmmkbjfbaaRowP
import Derived.Test.YtnakkmmmkbjfbaaDb
namespace Go.Proofs.Ytnakkmmmkbjfbaa

def dplay (zs : List Int) : List Db → Option (List Int)
  | [] => some zs
  | d :: ds => if canD zs d.x0 d.x1 then dplay (dmade d.x0.toNat d.x1.toNat zs) ds else none
theorem dplay_append (zs : List Int) (a b : List Db) : dplay zs (a ++ b) = (dplay zs a).bind fun ys => dplay ys b := by
  induction a generalizing zs with
  | nil => simp [dplay]
  | cons m ms ih =>
    simp only [List.cons_append, dplay]
    split
    · exact ih _
    · rfl
theorem dplay_take_succ (zs : List Int) (ds : List Db) (k : Nat) (hk : k < ds.length) (ys : List Int) (h : dplay zs (ds.take k) = some ys) :
    dplay zs (ds.take (k + 1)) = if canD ys ds[k].x0 ds[k].x1 then some (dmade ds[k].x0.toNat ds[k].x1.toNat ys) else none := by
  rw [List.take_succ_eq_append_getElem hk, dplay_append, h]
  simp [dplay]
theorem dplay_stuck (zs : List Int) (ds : List Db) (k : Nat) (h : dplay zs (ds.take k) = none) : dplay zs ds = none := by
  have := dplay_append zs (ds.take k) (ds.drop k)
  rw [List.take_append_drop, h] at this
  simpa using this
theorem canD_ix {zs : List Int} {f t : Int} (h : canD zs f t = true) : ∃ i j : Nat, f = (i : Int) ∧ t = (j : Int) ∧ ∃ (hi : i < zs.length) (hj : j < zs.length), i ≠ j ∧ 0 < zs[j] ∧ zs[j] ≤ zs[i] := by
  have hb := canD_bd h
  obtain ⟨i, rfl⟩ := Int.eq_ofNat_of_zero_le hb.1
  obtain ⟨j, rfl⟩ := Int.eq_ofNat_of_zero_le hb.2.2.1
  have hi : i < zs.length := by omega
  have hj : j < zs.length := by omega
  have h6 := hb.2.2.2.2.2
  rw [Int.toNat_natCast, Int.toNat_natCast, getD_get hi, getD_get hj] at h6
  exact ⟨i, j, rfl, rfl, hi, hj, by omega, h6.1, h6.2⟩
theorem small_canD {zs : List Int} (h : small zs) {f t : Int} (hc : canD zs f t = true) : small (dmade f.toNat t.toNat zs) := by
  obtain ⟨i, j, rfl, rfl, hi, hj, hij, _, hle⟩ := canD_ix hc
  exact dmade_small h hi hj hij hle
theorem dplay_small (zs : List Int) (ds : List Db) (ys : List Int) (h : small zs) (hp : dplay zs ds = some ys) : small ys ∧ ys.length = zs.length := by
  induction ds generalizing zs with
  | nil => simp [dplay] at hp; subst hp; exact ⟨h, rfl⟩
  | cons m ms ih =>
    simp only [dplay] at hp
    split at hp
    · rename_i hc
      have := ih _ (small_canD h hc) hp
      rw [dmade_length] at this
      exact this
    · cases hp
/-- What is told of a play. -/
def dplayOk (zs : List Int) (ds : List Db) : Bool := few zs && decide (ds.length ≤ 100) && (dplay zs ds).isSome
def dplayL (zs : List Int) (ds : List Db) : List Int := if dplayOk zs ds then (dplay zs ds).getD [] else []
theorem dplayOk_bad {zs : List Int} {ds : List Db} (h : few zs = false) : dplayOk zs ds = false := by simp [dplayOk, h]
theorem dplayOk_long {zs : List Int} {ds : List Db} (h : ¬ ds.length ≤ 100) : dplayOk zs ds = false := by simp [dplayOk]; omega
theorem dplayOk_stuck {zs : List Int} {ds : List Db} (h : dplay zs ds = none) : dplayOk zs ds = false := by simp [dplayOk, h]
theorem dplayOk_yes {zs : List Int} {ds : List Db} {ys : List Int} (hg : few zs = true) (hl : ds.length ≤ 100) (h : dplay zs ds = some ys) : dplayOk zs ds = true := by simp [dplayOk, h, hg, hl]
theorem dplayL_no {zs : List Int} {ds : List Db} (h : dplayOk zs ds = false) : dplayL zs ds = [] := by simp [dplayL, h]
theorem dplayL_yes {zs : List Int} {ds : List Db} {ys : List Int} (h : dplayOk zs ds = true) (hp : dplay zs ds = some ys) : dplayL zs ds = ys := by simp [dplayL, h, hp]
theorem dplayL_short (zs : List Int) (ds : List Db) : (dplayL zs ds).length ≤ 1048576 := by
  cases h : dplayOk zs ds
  · rw [dplayL_no h]; simp
  · have h' := h
    unfold dplayOk at h'
    simp at h'
    obtain ⟨⟨hg, _⟩, hp⟩ := h'
    obtain ⟨ys, hys⟩ := Option.isSome_iff_exists.1 hp
    have hf := few_small hg
    rw [dplayL_yes h hys, (dplay_small _ _ _ hf.1 hys).2]
    omega
theorem dplayOk_one {zs : List Int} (hg : few zs = true) (d : Db) : dplayOk zs [d] = canD zs d.x0 d.x1 := by
  unfold dplayOk
  rw [hg]
  simp only [dplay]
  cases canD zs d.x0 d.x1 <;> simp
theorem dplayL_one {zs : List Int} (hg : few zs = true) (d : Db) : dplayL zs [d] = if canD zs d.x0 d.x1 then dmade d.x0.toNat d.x1.toNat zs else [] := by
  unfold dplayL
  rw [dplayOk_one hg]
  simp only [dplay]
  cases canD zs d.x0 d.x1 <;> simp
/-- What is told of one. -/
def canV (zs : List Int) (d : Db) : Bool := few zs && canD zs d.x0 d.x1
end Go.Proofs.Ytnakkmmmkbjfbaa
