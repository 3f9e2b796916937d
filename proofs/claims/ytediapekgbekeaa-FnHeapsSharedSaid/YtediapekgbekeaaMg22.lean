import Derived.Test.YtediapekgbekeaaMg14

/-
  PLAYS: moves one after the other. No program is named here.
-/
namespace Go.Proofs.Ytediapekgbekeaa

structure Mv where
  f : Int
  t : Int
  c : Int

def play (zs : List Int) : List Mv → Option (List Int)
  | [] => some zs
  | m :: ms => if canMv zs m.f m.t m.c then play (moved m.f.toNat m.t.toNat m.c zs) ms else none
theorem play_append (zs : List Int) (a b : List Mv) : play zs (a ++ b) = (play zs a).bind fun ys => play ys b := by
  induction a generalizing zs with
  | nil => simp [play]
  | cons m ms ih =>
    simp only [List.cons_append, play]
    split
    · exact ih _
    · rfl
theorem play_take_succ (zs : List Int) (ms : List Mv) (k : Nat) (hk : k < ms.length) (ys : List Int) (h : play zs (ms.take k) = some ys) :
    play zs (ms.take (k + 1)) = if canMv ys ms[k].f ms[k].t ms[k].c then some (moved ms[k].f.toNat ms[k].t.toNat ms[k].c ys) else none := by
  rw [List.take_succ_eq_append_getElem hk, play_append, h]
  simp [play]
theorem play_stuck (zs : List Int) (ms : List Mv) (k : Nat) (h : play zs (ms.take k) = none) : play zs ms = none := by
  have := play_append zs (ms.take k) (ms.drop k)
  rw [List.take_append_drop, h] at this
  simpa using this
theorem canMv_bd {zs : List Int} {f t c : Int} (h : canMv zs f t c = true) : (0 ≤ f ∧ f < zs.length) ∧ (0 ≤ t ∧ t < zs.length) ∧ f ≠ t ∧ 1 ≤ c ∧ c ≤ zs.getD f.toNat 0 := by
  unfold canMv at h; simpa using h
theorem calm_canMv {zs : List Int} (h : calm zs) {f t c : Int} (hc : canMv zs f t c = true) : calm (moved f.toNat t.toNat c zs) := by
  obtain ⟨hf, ht, hne, h1, h2⟩ := canMv_bd hc
  have hfi : f.toNat < zs.length := by omega
  refine calm_moved h _ _ _ (by omega) hfi (by omega) (by omega) ?_
  simpa [List.getD, hfi] using h2
theorem play_calm (zs : List Int) (ms : List Mv) (ys : List Int) (h : calm zs) (hp : play zs ms = some ys) : calm ys ∧ ys.length = zs.length := by
  induction ms generalizing zs with
  | nil => simp [play] at hp; subst hp; exact ⟨h, rfl⟩
  | cons m ms ih =>
    simp only [play] at hp
    split at hp
    · rename_i hc
      have := ih _ (calm_canMv h hc) hp
      rw [moved_length] at this
      exact this
    · cases hp
/-- What is told of a play. -/
def playOk (zs : List Int) (ms : List Mv) : Bool := good zs && decide (ms.length ≤ 100) && (play zs ms).isSome
def playL (zs : List Int) (ms : List Mv) : List Int := if playOk zs ms then (play zs ms).getD [] else []
theorem playOk_bad {zs : List Int} {ms : List Mv} (h : good zs = false) : playOk zs ms = false := by simp [playOk, h]
theorem playOk_long {zs : List Int} {ms : List Mv} (h : ¬ ms.length ≤ 100) : playOk zs ms = false := by simp [playOk]; omega
theorem playOk_stuck {zs : List Int} {ms : List Mv} (h : play zs ms = none) : playOk zs ms = false := by simp [playOk, h]
theorem playOk_yes {zs : List Int} {ms : List Mv} {ys : List Int} (hg : good zs = true) (hl : ms.length ≤ 100) (h : play zs ms = some ys) : playOk zs ms = true := by simp [playOk, h, hg, hl]
theorem playL_no {zs : List Int} {ms : List Mv} (h : playOk zs ms = false) : playL zs ms = [] := by simp [playL, h]
theorem playL_yes {zs : List Int} {ms : List Mv} {ys : List Int} (h : playOk zs ms = true) (hp : play zs ms = some ys) : playL zs ms = ys := by simp [playL, h, hp]
theorem playL_short (zs : List Int) (ms : List Mv) : (playL zs ms).length ≤ 1048576 := by
  cases h : playOk zs ms
  · rw [playL_no h]; simp
  · have h' := h
    unfold playOk at h'
    simp at h'
    obtain ⟨⟨hg, _⟩, hp⟩ := h'
    obtain ⟨ys, hys⟩ := Option.isSome_iff_exists.1 hp
    rw [playL_yes h hys, (play_calm _ _ _ (calm_of_good hg) hys).2]
    have := (good_of hg).2.1
    omega
end Go.Proofs.Ytediapekgbekeaa
