import Derived.Test.YtediapekgbekeaaMg28
import Derived.Test.YtediapekgbekeaaMg29

/-
  HEAPS SHARED, plainly: what the flows of a row and of a ring carry, heap by heap. No program is named here.
-/
namespace Go.Proofs.Ytediapekgbekeaa

theorem flow_step {zs : List Int} (h : eqOk zs = true) (k : Nat) (hk : k < zs.length) : tot ((over zs).take (k + 1)) = tot ((over zs).take k) + (zs.getD k 0 - shareEq zs) := by
  rw [over_tot_succ zs k hk, shareEq_yes h, show zs.getD k 0 = zs[k] from by simp [List.getD, hk]]
theorem flow_here (zs : List Int) (k : Nat) (hk : k < zs.length - 1) : (flows zs).getD k 0 = tot ((over zs).take (k + 1)) := by
  rw [← flows_get zs k hk]; simp [List.getD, flows_length, hk]
theorem ring_here {zs : List Int} (h : eqOk zs = true) (k : Nat) (hk : k < zs.length) : (ringFlows zs).getD k 0 = tot ((over zs).take (k + 1)) - off (ringLine zs) := by
  have hl : k < (ringLine zs).length := by rw [ringLine_length (eqOk_good h)]; exact hk
  unfold ringFlows
  rw [shift_getD _ _ k hl]
  congr 1
  have e : ∀ (l l' : List Int) (h1 : k < l.length) (h2 : k < l'.length), l = l' → l[k] = l'[k] := fun l l' h1 h2 e => by subst e; rfl
  rw [e _ _ hl (by simp; exact hk) (ringLine_eq h)]
  simp
/-- The place before. -/
def back (n k : Nat) : Nat := if k = 0 then n - 1 else k - 1
theorem back_lt {n k : Nat} (h : k < n) : back n k < n := by unfold back; split <;> omega
theorem back_eq {n k : Nat} (h : k < n) : ((k : Int) + n - 1) % n = (back n k : Nat) ∧ ((k : Int) + n - 1).tmod n = (back n k : Nat) := by
  have : ((k : Int) + n - 1) % n = (back n k : Nat) := by
    unfold back
    by_cases h0 : k = 0
    · rw [if_pos h0]; subst h0
      rw [Int.emod_eq_of_lt (by omega) (by omega)]; omega
    · rw [if_neg h0, show (k : Int) + n - 1 = ((k - 1 : Nat) : Int) + n from by omega, Int.add_emod_right, Int.emod_eq_of_lt (by omega) (by omega)]
  refine ⟨this, ?_⟩
  rw [Int.tmod_eq_emod_of_nonneg (by omega)]
  exact this
theorem ring_back {zs : List Int} (h : eqOk zs = true) (k : Nat) (hk : k < zs.length) : (ringFlows zs).getD k 0 - (ringFlows zs).getD (back zs.length k) 0 = zs.getD k 0 - shareEq zs := by
  rw [ring_here h k hk, ring_here h _ (back_lt hk), flow_step h k hk]
  have hb : tot ((over zs).take (back zs.length k + 1)) = tot ((over zs).take k) := by
    unfold back
    by_cases h0 : k = 0
    · rw [if_pos h0]; subst h0
      rw [show zs.length - 1 + 1 = zs.length from by omega, over_all h]; rfl
    · rw [if_neg h0, show k - 1 + 1 = k from by omega]
  rw [hb]; omega
theorem spread_same {n : Nat} {s : Int} (h1 : 1 ≤ n) (h2 : n ≤ 12) (hs : 0 ≤ s ∧ s ≤ 1000) : good (List.replicate n s) = true ∧ spreadN (List.replicate n s) = 0 := by
  have hw : within s s (List.replicate n s) = true := within_of fun k hk => by simp
  have hg : good (List.replicate n s) = true := by
    unfold good
    rw [within_wide hw hs.1 hs.2]; simp; omega
  refine ⟨hg, ?_⟩
  rw [spreadN_yes hg]
  have e : (List.replicate n s).getD 0 0 = s := by simp [List.getD, show 0 < n by omega]
  rw [e]
  have a := up_bd hw s (by omega)
  have b := dn_bd hw s (by omega)
  omega
theorem moves_pos {zs : List Int} (h : eqOk zs = true) : ∀ m ∈ moves (over zs), 1 ≤ m.x2 := (moves_play h).2.2.2
end Go.Proofs.Ytediapekgbekeaa
