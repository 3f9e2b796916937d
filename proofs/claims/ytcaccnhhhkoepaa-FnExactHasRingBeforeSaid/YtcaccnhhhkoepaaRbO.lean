
/-
  RINGS BEFORE, THE MODEL's functions; how many there are.
-/
import Derived.Test.YtcaccnhhhkoepaaRbN
namespace Go.Proofs.Ytcaccnhhhkoepaa
open Go.RowKit Go.Deep
set_option linter.unusedVariables false

theorem befR_short (zs : List Int) : sizeSS (befR zs) ≤ 1048576 ∧ (befR zs).length ≤ 1048576 := by
  cases h : rsmall zs
  · have e : befR zs = [] := by unfold befR; rw [h]; rfl
    rw [e]; simp [sizeSS]
  · have e : befR zs = befM zs zs.length (2 ^ zs.length) := by unfold befR; rw [if_pos h]
    obtain ⟨h1, h2, _⟩ := rgood_of (rsmall_of h).1
    have hc := befM_count zs (fun k => (rsmall_get h k).1) zs.length (by omega) (2 ^ zs.length)
    have hp : 2 ^ zs.length ≤ 1024 := Nat.le_trans (Nat.pow_le_pow_right (by omega) h2) (by decide)
    have hl := befM_len zs zs.length (2 ^ zs.length)
    rw [e]
    refine ⟨?_, by omega⟩
    have : ∀ L : List (List Int), (∀ x ∈ L, x.length = zs.length) → sizeSS L = L.length * zs.length := fun L => by
      induction L with
      | nil => intro _; simp [sizeSS]
      | cons x xs ih =>
        intro hx
        have h3 := ih (fun y hy => hx y (by simp [hy]))
        have h4 := hx x (by simp)
        unfold sizeSS at h3 ⊢
        rw [List.map_cons, List.sum_cons, h3, h4, List.length_cons, Nat.succ_mul]; omega
    rw [this _ hl]
    have := Nat.mul_le_mul (show (befM zs zs.length (2 ^ zs.length)).length ≤ 1024 by omega) h2
    omega

theorem specRingsBefore_any (A : Option Addr) (n c B : Nat) (zs : List Int) (w : World) (hr : Ints w B A n zs) (hB : B ≤ w.heap.size) (hn : n ≤ 17592186044416) :
    Calls Try.prog 6 #[.slice A n c] w (MadeSS (befR zs) (rsmall zs) w) := by
  have hlen := hr.len
  have HS := hide (riSmall_any A n c B zs w hr hB hn)
  cases h : rsmall zs
  · have e2 : befR zs = [] := by unfold befR; rw [h]; rfl
    rw [h] at HS
    rw [e2]
    go_enter Try.func6, Try.ntmps6
    go_wp2_with fail
    refine HS.out.mono ?_; rintro e w' ⟨rfl, rfl⟩
    go_wp2_with fail
    go_ret2
    exact madeSS_none (Below.refl _ _)
  · have e2 : befR zs = befM zs zs.length (2 ^ zs.length) := by unfold befR; rw [if_pos h]
    rw [h] at HS
    obtain ⟨h1, h2, _⟩ := rgood_of (rsmall_of h).1
    have HB := hide (riBefore_any A n c B zs w hr hB (by omega) (by omega) (rsmall_get h))
    rw [e2, hlen]
    rw [hlen] at *
    generalize befM zs n (2 ^ n) = R at *
    go_enter Try.func6, Try.ntmps6
    go_wp2_with fail
    refine HS.out.mono ?_; rintro e w' ⟨rfl, rfl⟩
    go_wp2_with fail
    refine HB.out.mono ?_; rintro e w1 ⟨v, L, rfl, hps, hLM, hb1⟩
    have hv := hps.toVs
    rw [hLM] at hv
    obtain ⟨A', c', rfl, h5, h6⟩ := hv.shape
    have HV := hide hv
    have HB1 := hide hb1
    clear hv hps hb1 hLM
    go_wp2_with fail
    go_ret2
    exact ⟨A', c', _, rfl, h5, h6, HV.out, HB1.out⟩
def befC (zs : List Int) : Int := (befR zs).length
def befH (zs : List Int) : Bool := decide (0 < (befR zs).length)
theorem befC_no {zs : List Int} (h : rsmall zs = false) : befC zs = 0 ∧ befH zs = false := by
  have e2 : befR zs = [] := by unfold befR; rw [h]; rfl
  unfold befC befH
  rw [e2]; exact ⟨rfl, rfl⟩
theorem specCountRingsBefore_any (A : Option Addr) (n c B : Nat) (zs : List Int) (w : World) (hr : Ints w B A n zs) (hB : B ≤ w.heap.size) (hn : n ≤ 17592186044416) :
    Calls Try.prog 14 #[.slice A n c] w fun e w' => e = .returned (.tuple #[.int .i64 (befC zs), .bool (rsmall zs)]) ∧ Below w.heap.size w w' := by
  have hlen := hr.len
  have HS := hide (riSmall_any A n c B zs w hr hB hn)
  cases h : rsmall zs
  · rw [(befC_no h).1]
    rw [h] at HS
    go_enter Try.func14, Try.ntmps14
    go_wp2_with fail
    refine HS.out.mono ?_; rintro e w' ⟨rfl, rfl⟩
    go_wp2_with fail
    go_ret2
    exact ⟨rfl, Below.refl _ _⟩
  · have e2 : befR zs = befM zs zs.length (2 ^ zs.length) := by unfold befR; rw [if_pos h]
    rw [h] at HS
    obtain ⟨h1, h2, _⟩ := rgood_of (rsmall_of h).1
    have HB := hide (riBefore_any A n c B zs w hr hB (by omega) (by omega) (rsmall_get h))
    unfold befC
    rw [e2]
    rw [hlen] at *
    generalize befM zs n (2 ^ n) = R at *
    go_enter Try.func14, Try.ntmps14
    go_wp2_with fail
    refine HS.out.mono ?_; rintro e w' ⟨rfl, rfl⟩
    go_wp2_with fail
    refine HB.out.mono ?_; rintro e w1 ⟨v, L, rfl, hps, hLM, hb1⟩
    have hv := hps.toVs
    rw [hLM] at hv
    obtain ⟨A', c', rfl, h5, h6⟩ := hv.shape
    have HB1 := hide hb1
    clear hv hps hb1 hLM
    go_wp2_with fail
    go_ret2
    exact ⟨rfl, HB1.out⟩
theorem specHasRingBefore_any (A : Option Addr) (n c B : Nat) (zs : List Int) (w : World) (hr : Ints w B A n zs) (hB : B ≤ w.heap.size) (hn : n ≤ 17592186044416) :
    Calls Try.prog 16 #[.slice A n c] w fun e w' => e = .returned (.tuple #[.bool (befH zs), .bool (rsmall zs)]) ∧ Below w.heap.size w w' := by
  have hlen := hr.len
  have HS := hide (riSmall_any A n c B zs w hr hB hn)
  cases h : rsmall zs
  · rw [(befC_no h).2]
    rw [h] at HS
    go_enter Try.func16, Try.ntmps16
    go_wp2_with fail
    refine HS.out.mono ?_; rintro e w' ⟨rfl, rfl⟩
    go_wp2_with fail
    go_ret2
    exact ⟨rfl, Below.refl _ _⟩
  · have e2 : befR zs = befM zs zs.length (2 ^ zs.length) := by unfold befR; rw [if_pos h]
    rw [h] at HS
    obtain ⟨h1, h2, _⟩ := rgood_of (rsmall_of h).1
    have HB := hide (riBefore_any A n c B zs w hr hB (by omega) (by omega) (rsmall_get h))
    unfold befH
    rw [e2]
    rw [hlen] at *
    generalize befM zs n (2 ^ n) = R at *
    have HD := hide (show decide (0 < R.length) = decide ((0 : Int) < (R.length : Int)) from by simp)
    go_enter Try.func16, Try.ntmps16
    go_wp2_with fail
    refine HS.out.mono ?_; rintro e w' ⟨rfl, rfl⟩
    go_wp2_with fail
    refine HB.out.mono ?_; rintro e w1 ⟨v, L, rfl, hps, hLM, hb1⟩
    have hv := hps.toVs
    rw [hLM] at hv
    obtain ⟨A', c', rfl, h5, h6⟩ := hv.shape
    have HB1 := hide hb1
    clear hv hps hb1 hLM
    go_wp2_with fail
    go_ret2
    exact ⟨by rw [HD.out]; rfl, HB1.out⟩
end Go.Proofs.Ytcaccnhhhkoepaa
