import Derived.Test.YtediapekgbekeaaMg12

/-
  THE GREATEST AND THE LEAST ONE OF A LIST, BOTH WAYS: slices.Max, slices.Min, l1Least, SpreadOf.
-/
namespace Go.Proofs.Ytediapekgbekeaa
open Go.RowKit Go.Deep

/-- The greatest one of b and a list; the least one. -/
def up (b : Int) (l : List Int) : Int := l.foldl max b
def dn (b : Int) (l : List Int) : Int := l.foldl min b
theorem up_take_succ (b : Int) (zs : List Int) (k : Nat) (hk : k < zs.length) : up b (zs.take (k + 1)) = max (up b (zs.take k)) zs[k] := by
  unfold up; rw [List.take_succ_eq_append_getElem hk, List.foldl_append]; rfl
theorem dn_take_succ (b : Int) (zs : List Int) (k : Nat) (hk : k < zs.length) : dn b (zs.take (k + 1)) = min (dn b (zs.take k)) zs[k] := by
  unfold dn; rw [List.take_succ_eq_append_getElem hk, List.foldl_append]; rfl
theorem up_bd {lo hi : Int} {zs : List Int} (h : within lo hi zs = true) (b : Int) (hb : lo ≤ b ∧ b ≤ hi) : lo ≤ up b zs ∧ up b zs ≤ hi := by
  induction zs generalizing b with
  | nil => exact hb
  | cons x xs ih =>
    have h0 := within_get h 0 (by simp)
    have h1 : within lo hi xs = true := by unfold within at h ⊢; simp at h ⊢; exact h.2
    simp at h0
    exact ih h1 (max b x) (by omega)
theorem dn_bd {lo hi : Int} {zs : List Int} (h : within lo hi zs = true) (b : Int) (hb : lo ≤ b ∧ b ≤ hi) : lo ≤ dn b zs ∧ dn b zs ≤ hi := by
  induction zs generalizing b with
  | nil => exact hb
  | cons x xs ih =>
    have h0 := within_get h 0 (by simp)
    have h1 : within lo hi xs = true := by unfold within at h ⊢; simp at h ⊢; exact h.2
    simp at h0
    exact ih h1 (min b x) (by omega)
/-- The spread; 0 where there are no heaps. -/
def spreadN (zs : List Int) : Int := if good zs then up (zs.getD 0 0) zs - dn (zs.getD 0 0) zs else 0
theorem spreadN_yes {zs : List Int} (h : good zs = true) : spreadN zs = up (zs.getD 0 0) zs - dn (zs.getD 0 0) zs := by simp [spreadN, h]
theorem spreadN_no {zs : List Int} (h : good zs = false) : spreadN zs = 0 := by simp [spreadN, h]

/-- The model's l1Least. -/
theorem l1LeastS_any (a b : Int) (w : World) :
    Calls Try.prog 39 #[.int .i64 a, .int .i64 b] w fun e w' => e = .returned (.int .i64 (min a b)) ∧ w = w' := by
  by_cases h : a < b
  all_goals
    go_enter Try.func39, Try.ntmps39
    go_wp2
    go_ret
    exact ⟨ret_int (by omega), rfl⟩

/-- slices.Max of a list that is not empty. -/
theorem Max_any (A : Option Addr) (n c B : Nat) (zs : List Int) (w : World) (hr : Ints w B A n zs) (hn : n ≤ 17592186044416) (h0 : 0 < n) :
    Calls Try.prog 56 #[.slice A n c] w fun e w' => e = .returned (.int .i64 (up (zs.getD 0 0) zs)) ∧ w = w' := by
  obtain rfl := hr.len
  obtain ⟨ad, rfl, hab, hcell0⟩ := hr.at_ h0
  rw [show zs.getD 0 0 = zs[0] from by simp [List.getD, List.getElem?_eq_getElem h0]] at hcell0 ⊢
  rw [show ad.add 0 = ad from by simp [Addr.add]] at hcell0
  have hp : (0 : Int) < (zs.length : Int) := by omega
  have H0 := hide (up_take_succ zs[0] zs 0 h0)
  have H1 := hide (show up zs[0] (zs.take 0) = zs[0] from rfl)
  go_enter Try.func56, Try.ntmps56
  go_wp2_with fail
  go_loop [3, 4] (fun s i => ∃ k : Nat, 1 ≤ k ∧ k ≤ zs.length ∧ i = .int .i64 k ∧ s = .int .i64 (up zs[0] (zs.take k)))
    (fun _ i => zs.length - (intOf i).toNat)
  case atStart => exact ⟨1, Nat.le_refl _, h0, rfl, by rw [H0.out, H1.out]; exact congrArg (Value.int .i64) (by omega)⟩
  case round =>
    obtain ⟨k, hk0, hk, rfl, rfl⟩ := hrel
    by_cases hlt : k < zs.length
    · have Hs := hide (up_take_succ zs[0] zs k hlt)
      obtain ⟨ad', had, _, hcell⟩ := hr.at_ hlt
      obtain rfl : ad' = ad := by injection had with h; exact h.symm
      clear had
      rw [show zs.getD k 0 = zs[k] from by simp [List.getD, List.getElem?_eq_getElem hlt]] at hcell
      generalize up zs[0] (zs.take k) = m1 at *
      go_wp2_with fail
      all_goals
        go_round
        case rel => exact ⟨k + 1, by omega, by omega, by go_num, by rw [Hs.out]; exact congrArg (Value.int .i64) (by omega)⟩
        case measure => simp [intOf]; omega
    · go_wp2_with fail
      go_ret
      exact ⟨ret_int (by rw [List.take_of_length_le (by omega)]), rfl⟩

/-- slices.Min of a list that is not empty. -/
theorem Min_any (A : Option Addr) (n c B : Nat) (zs : List Int) (w : World) (hr : Ints w B A n zs) (hn : n ≤ 17592186044416) (h0 : 0 < n) :
    Calls Try.prog 57 #[.slice A n c] w fun e w' => e = .returned (.int .i64 (dn (zs.getD 0 0) zs)) ∧ w = w' := by
  obtain rfl := hr.len
  obtain ⟨ad, rfl, hab, hcell0⟩ := hr.at_ h0
  rw [show zs.getD 0 0 = zs[0] from by simp [List.getD, List.getElem?_eq_getElem h0]] at hcell0 ⊢
  rw [show ad.add 0 = ad from by simp [Addr.add]] at hcell0
  have hp : (0 : Int) < (zs.length : Int) := by omega
  have H0 := hide (dn_take_succ zs[0] zs 0 h0)
  have H1 := hide (show dn zs[0] (zs.take 0) = zs[0] from rfl)
  go_enter Try.func57, Try.ntmps57
  go_wp2_with fail
  go_loop [3, 4] (fun s i => ∃ k : Nat, 1 ≤ k ∧ k ≤ zs.length ∧ i = .int .i64 k ∧ s = .int .i64 (dn zs[0] (zs.take k)))
    (fun _ i => zs.length - (intOf i).toNat)
  case atStart => exact ⟨1, Nat.le_refl _, h0, rfl, by rw [H0.out, H1.out]; exact congrArg (Value.int .i64) (by omega)⟩
  case round =>
    obtain ⟨k, hk0, hk, rfl, rfl⟩ := hrel
    by_cases hlt : k < zs.length
    · have Hs := hide (dn_take_succ zs[0] zs k hlt)
      obtain ⟨ad', had, _, hcell⟩ := hr.at_ hlt
      obtain rfl : ad' = ad := by injection had with h; exact h.symm
      clear had
      rw [show zs.getD k 0 = zs[k] from by simp [List.getD, List.getElem?_eq_getElem hlt]] at hcell
      generalize dn zs[0] (zs.take k) = m1 at *
      go_wp2_with fail
      all_goals
        go_round
        case rel => exact ⟨k + 1, by omega, by omega, by go_num, by rw [Hs.out]; exact congrArg (Value.int .i64) (by omega)⟩
        case measure => simp [intOf]; omega
    · go_wp2_with fail
      go_ret
      exact ⟨ret_int (by rw [List.take_of_length_le (by omega)]), rfl⟩

/-- The program's SpreadOf. -/
theorem SpreadOf_any (A : Option Addr) (n c B : Nat) (zs : List Int) (w : World) (hr : Ints w B A n zs) (hn : n ≤ 17592186044416) :
    Calls Try.prog 29 #[.slice A n c] w fun e w' => e = .returned (.tuple #[.int .i64 (spreadN zs), .bool (good zs)]) ∧ w = w' := by
  obtain rfl := hr.len
  cases hg : good zs
  · have H1 := hide (spreadN_no hg)
    have hgb : good zs = false := hg
    go_enter Try.func29, Try.ntmps29
    go_wp2_with fail
    refine (AreHeaps_any _ _ _ _ _ _ hr hn).mono ?_; rintro e w' ⟨rfl, rfl⟩; rw [hgb]
    go_wp2_with fail
    go_ret2
    exact ⟨by rw [H1.out]; rfl, rfl⟩
  · have H1 := hide (spreadN_yes hg)
    have hgb : good zs = true := hg
    have hle := (good_of hg).2.1
    have hle1 := (good_of hg).1
    have h00 : 0 ≤ zs.getD 0 0 ∧ zs.getD 0 0 ≤ 1000 := by
      rw [show zs.getD 0 0 = zs[0] from by simp [List.getD, List.getElem?_eq_getElem (show 0 < zs.length by omega)]]
      exact good_get hg 0 (by omega)
    have hu := up_bd (good_of hg).2.2 _ h00
    have hd := dn_bd (good_of hg).2.2 _ h00
    have HM := hide (Max_any A _ c B zs w hr hn (by omega))
    have HN := hide (Min_any A _ c B zs w hr hn (by omega))
    generalize up (zs.getD 0 0) zs = mu at *
    generalize dn (zs.getD 0 0) zs = md at *
    clear h00
    go_enter Try.func29, Try.ntmps29
    go_wp2_with fail
    refine (AreHeaps_any _ _ _ _ _ _ hr hn).mono ?_; rintro e w' ⟨rfl, rfl⟩; rw [hgb]
    go_wp2_with fail
    refine HM.out.mono ?_; rintro e w' ⟨rfl, rfl⟩
    go_wp2_with fail
    refine HN.out.mono ?_; rintro e w' ⟨rfl, rfl⟩
    go_wp2_with fail
    go_ret2
    exact ⟨by rw [H1.out]; rfl, rfl⟩

end Go.Proofs.Ytediapekgbekeaa
