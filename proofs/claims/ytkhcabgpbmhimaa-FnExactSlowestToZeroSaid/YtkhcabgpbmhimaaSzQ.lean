
/-
  EVERY SMALL RING OF TWO OR FOUR NUMBERS COMES TO ZERO, PLAINLY. No program is named here.
-/
import Derived.Test.YtkhcabgpbmhimaaSzP
import Derived.Test.YtkhcabgpbmhimaaRiS
namespace Go.Proofs.Ytkhcabgpbmhimaa

theorem ctz_of {zs : List Int} (h : rgood zs = true) (t : Nat) (ht : mx (rit zs t) = 0) : ctzR zs = true := by
  obtain ⟨h1, _, h3⟩ := rgood_of h
  have a := mx_last h t
  have b := mx_it (zs := zs) (by omega) h3 t (leadF zs)
  rw [Nat.add_comm, a, ht] at b
  have c := (mx_bd (zs := lastF zs) (by rw [lastF_length]; omega) (rit_within h3 _)).1
  unfold ctzR
  rw [h, show mx (lastF zs) = 0 by omega]; rfl
def adN (x y : Nat) : Nat := (x - y) + (y - x)
def f4 (q : Nat) : Nat := ((adN (q / 7 / 7 / 7 % 7) (q / 7 / 7 % 7) * 7 + adN (q / 7 / 7 % 7) (q / 7 % 7)) * 7 + adN (q / 7 % 7) (q % 7)) * 7 + adN (q % 7) (q / 7 / 7 / 7 % 7)
theorem dg74 (q : Nat) : dg 7 4 q = [((q / 7 / 7 / 7 % 7 : Nat) : Int), ((q / 7 / 7 % 7 : Nat) : Int), ((q / 7 % 7 : Nat) : Int), ((q % 7 : Nat) : Int)] := rfl
theorem dg_of (a b c d : Nat) (ha : a < 7) (hb : b < 7) (hc : c < 7) (hd : d < 7) : dg 7 4 (((a * 7 + b) * 7 + c) * 7 + d) = [(a : Int), (b : Int), (c : Int), (d : Int)] := by
  rw [dg74]
  have h1 : (((a * 7 + b) * 7 + c) * 7 + d) / 7 = (a * 7 + b) * 7 + c := by omega
  have h2 : ((a * 7 + b) * 7 + c) / 7 = a * 7 + b := by omega
  have h3 : (a * 7 + b) / 7 = a := by omega
  rw [h1, h2, h3, show a % 7 = a by omega, show (a * 7 + b) % 7 = b by omega, show ((a * 7 + b) * 7 + c) % 7 = c by omega, show (((a * 7 + b) * 7 + c) * 7 + d) % 7 = d by omega]
theorem dif_ad (x y : Nat) : dif (x : Int) (y : Int) = ((adN x y : Nat) : Int) := by unfold dif adN; omega
theorem adN_lt {x y : Nat} (hx : x < 7) (hy : y < 7) : adN x y < 7 := by unfold adN; omega
theorem rstep4 (a b c d : Int) : rstep [a, b, c, d] = [dif a b, dif b c, dif c d, dif d a] := by
  simp [rstep, rstep1, nextOf, List.range_succ]
theorem rstep_dg (q : Nat) : rstep (dg 7 4 q) = dg 7 4 (f4 q) := by
  have a := Nat.mod_lt (q / 7 / 7 / 7) (show 7 > 0 by omega)
  have b := Nat.mod_lt (q / 7 / 7) (show 7 > 0 by omega)
  have c := Nat.mod_lt (q / 7) (show 7 > 0 by omega)
  have d := Nat.mod_lt q (show 7 > 0 by omega)
  unfold f4
  rw [dg_of _ _ _ _ (adN_lt a b) (adN_lt b c) (adN_lt c d) (adN_lt d a), dg74, ← dif_ad, ← dif_ad, ← dif_ad, ← dif_ad]
  exact rstep4 _ _ _ _
def itf : Nat → Nat → Nat
  | q, 0 => q
  | q, t + 1 => itf (f4 q) t
theorem rit_front (zs : List Int) : ∀ t, rit zs (t + 1) = rit (rstep zs) t
  | 0 => rfl
  | t + 1 => by
    show rstep (rit zs (t + 1)) = rstep (rit (rstep zs) t)
    rw [rit_front zs t]
theorem rit_dg : ∀ (t q : Nat), rit (dg 7 4 q) t = dg 7 4 (itf q t)
  | 0, _ => rfl
  | t + 1, q => by rw [rit_front, rstep_dg, rit_dg t, itf]
set_option maxRecDepth 100000 in
theorem small_four : ((List.range 2401).all fun q => Nat.beq (itf q 9) 0) = true := by decide +kernel
set_option maxRecDepth 100000 in
theorem small_two : ((List.range 8).all fun b => (rowsD b 2).all fun l => mx (rit l 9) == 0) = true := by decide +kernel
theorem dg_zero_last {b s q : Nat} (hb : b ≤ 7) (hb0 : 0 < b) (hs : s = 2 ∨ s = 4) (hq : q < b ^ s) : mx (rit (dg b s q) 9) = 0 := by
  rcases hs with rfl | rfl
  · have h := small_two
    rw [List.all_eq_true] at h
    have h := h b (List.mem_range.2 (by omega))
    rw [List.all_eq_true] at h
    have hm : dg b 2 q ∈ rowsD b 2 := by unfold rowsD; exact List.mem_map.2 ⟨q, List.mem_range.2 hq, rfl⟩
    simpa using h _ hm
  · have e : dg b 4 q = [((q / b / b / b % b : Nat) : Int), ((q / b / b % b : Nat) : Int), ((q / b % b : Nat) : Int), ((q % b : Nat) : Int)] := rfl
    have m := fun x => Nat.mod_lt x hb0
    have m1 := m (q / b / b / b)
    have m2 := m (q / b / b)
    have m3 := m (q / b)
    have m4 := m q
    rw [e, ← dg_of _ _ _ _ (by omega) (by omega) (by omega) (by omega), rit_dg]
    have h := small_four
    rw [List.all_eq_true] at h
    have h := h (((q / b / b / b % b * 7 + q / b / b % b) * 7 + q / b % b) * 7 + q % b) (List.mem_range.2 (by omega))
    rw [Nat.eq_of_beq_eq_true h]
    decide
theorem dg_good {b s q : Nat} (hb : b ≤ 7) (hb0 : 0 < b) (hs : s = 2 ∨ s = 4) : rgood (dg b s q) = true := by
  unfold rgood
  have hl := dg_length b s q
  rw [Bool.and_eq_true]
  refine ⟨by rw [hl]; rcases hs with rfl | rfl <;> decide, ?_⟩
  unfold within
  rw [List.all_eq_true]
  intro x hx
  have := dg_mem hb0 s q x hx
  simp; omega
theorem dg_ctz {b s q : Nat} (hb : b ≤ 7) (hb0 : 0 < b) (hs : s = 2 ∨ s = 4) (hq : q < b ^ s) : ctzR (dg b s q) = true := ctz_of (dg_good hb hb0 hs) 9 (dg_zero_last hb hb0 hs hq)
/-- The first list with the greatest lead, among the first k: its number. -/
def bestZ (b s : Nat) : Nat → Nat
  | 0 => 0
  | k + 1 => if leadF (dg b s (bestZ b s k)) < leadF (dg b s k) then k else bestZ b s k
theorem bestZ_lt (b s : Nat) : ∀ k, 0 < k → bestZ b s k < k
  | 0, h => absurd h (by omega)
  | k + 1, _ => by
    rw [bestZ]
    split
    · omega
    · by_cases h : 0 < k
      · have := bestZ_lt b s k h; omega
      · have : k = 0 := by omega
        subst this; simp [bestZ]
end Go.Proofs.Ytkhcabgpbmhimaa
