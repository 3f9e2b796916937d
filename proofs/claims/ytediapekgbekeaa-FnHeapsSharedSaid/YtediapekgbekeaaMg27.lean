import Derived.Test.YtediapekgbekeaaMg25
import Derived.Test.YtediapekgbekeaaMg12
import Derived.Test.YtediapekgbekeaaMg26

/-
  COSTS OF MOVES, BOTH WAYS.
-/
namespace Go.Proofs.Ytediapekgbekeaa
open Go.RowKit Go.Deep

/-- Is it a move among n heaps? -/
def mvOk (n : Int) (m : Mv) : Bool := decide (0 ≤ m.f ∧ m.f < n ∧ 0 ≤ m.t ∧ m.t < n ∧ m.f ≠ m.t ∧ 1 ≤ m.c)
theorem mvOk_yes {n : Int} {m : Mv} (h : 0 ≤ m.f ∧ m.f < n ∧ 0 ≤ m.t ∧ m.t < n ∧ m.f ≠ m.t ∧ 1 ≤ m.c) : mvOk n m = true := by unfold mvOk; simpa using h
theorem mvOk_no {n : Int} {m : Mv} (h : ¬ (0 ≤ m.f ∧ m.f < n ∧ 0 ≤ m.t ∧ m.t < n ∧ m.f ≠ m.t ∧ 1 ≤ m.c)) : mvOk n m = false := by unfold mvOk; simpa using h

/-- The program's isMoveAmong. -/
theorem isMoveAmong_any (n : Int) (m : Mv) (w : World) :
    Calls Try.prog 54 #[.int .i64 n, .agg #[.int .i64 m.f, .int .i64 m.t, .int .i64 m.c]] w fun e w' => e = .returned (.bool (mvOk n m)) ∧ Below w.heap.size w w' := by
  have HT := hide (fun W => areTwoAmong_any n m.f m.t W)
  cases h1 : two n m.f m.t
  · have H := hide (mvOk_no (n := n) (m := m) (fun h => by have := two_yes (n := n) (f := m.f) (t := m.t) (by omega); simp [this] at h1))
    rw [h1] at HT
    clear h1
    go_enter Try.func54, Try.ntmps54
    go_wp2_with fail
    refine (HT.out _).mono ?_; rintro e w' ⟨rfl, rfl⟩
    go_wp2_with fail
    go_ret
    exact ⟨by rw [H.out]; rfl, (Below.refl _ _).alloc (Nat.le_refl _) _⟩
  · have h2 := two_bd h1
    rw [h1] at HT
    clear h1
    by_cases h6 : 1 ≤ m.c
    · have H := hide (mvOk_yes (n := n) (m := m) (by omega))
      clear h2
      have h6' : decide (1 ≤ m.c) = true := by simpa using h6
      go_enter Try.func54, Try.ntmps54
      go_wp2_with fail
      refine (HT.out _).mono ?_; rintro e w' ⟨rfl, rfl⟩
      go_wp2_with fail
      go_ret
      exact ⟨by rw [H.out]; rfl, (Below.refl _ _).alloc (Nat.le_refl _) _⟩
    · have H := hide (mvOk_no (n := n) (m := m) (by omega))
      clear h2
      have h6' : decide (1 ≤ m.c) = false := by simpa using h6
      go_enter Try.func54, Try.ntmps54
      go_wp2_with fail
      refine (HT.out _).mono ?_; rintro e w' ⟨rfl, rfl⟩
      go_wp2_with fail
      go_ret
      exact ⟨by rw [H.out]; rfl, (Below.refl _ _).alloc (Nat.le_refl _) _⟩

def costOk1 (m : Mv) : Bool := mvOk 12 m && decide (m.c ≤ 1000)
def cost1 (m : Mv) : Int := m.c * size1 (m.f - m.t)
def costs : List Mv → Int
  | [] => 0
  | m :: ms => cost1 m + costs ms
theorem costs_append (a b : List Mv) : costs (a ++ b) = costs a + costs b := by
  induction a with
  | nil => simp [costs]
  | cons x xs ih => simp [costs, ih]; omega
theorem costs_take_succ (ms : List Mv) (k : Nat) (hk : k < ms.length) : costs (ms.take (k + 1)) = costs (ms.take k) + cost1 ms[k] := by
  rw [List.take_succ_eq_append_getElem hk, costs_append]; simp [costs]
theorem costOk1_bd {m : Mv} (h : costOk1 m = true) : (0 ≤ m.f ∧ m.f < 12 ∧ 0 ≤ m.t ∧ m.t < 12 ∧ m.f ≠ m.t ∧ 1 ≤ m.c) ∧ m.c ≤ 1000 := by
  unfold costOk1 mvOk at h; simpa using h
theorem cost1_bd {m : Mv} (h : costOk1 m = true) : 0 ≤ cost1 m ∧ cost1 m ≤ 11000 := by
  have hb := costOk1_bd h
  have hs : 0 ≤ size1 (m.f - m.t) ∧ size1 (m.f - m.t) ≤ 11 := size1_bd (by omega)
  unfold cost1
  have h1 := Int.mul_nonneg (show 0 ≤ m.c by omega) hs.1
  have h2 : m.c * size1 (m.f - m.t) ≤ 1000 * 11 := Int.mul_le_mul hb.2 hs.2 hs.1 (by omega)
  omega
theorem costs_bd (ms : List Mv) (h : ∀ m ∈ ms, costOk1 m = true) : 0 ≤ costs ms ∧ costs ms ≤ 11000 * ms.length := by
  induction ms with
  | nil => simp [costs]
  | cons x xs ih =>
    have h1 := cost1_bd (h x (by simp))
    have h2 := ih (fun m hm => h m (by simp [hm]))
    simp [costs]
    omega
def costOk (ms : List Mv) : Bool := decide (ms.length ≤ 100) && ms.all costOk1
def costN (ms : List Mv) : Int := if costOk ms then costs ms else 0
theorem costOk_long {ms : List Mv} (h : ¬ ms.length ≤ 100) : costOk ms = false := by unfold costOk; simp; omega
theorem costOk_yes {ms : List Mv} (h : ms.length ≤ 100) (ha : ∀ m ∈ ms, costOk1 m = true) : costOk ms = true := by
  unfold costOk; simp [h]; exact ha
theorem costOk_bad {ms : List Mv} (k : Nat) (hk : k < ms.length) (hb : costOk1 ms[k] = false) : costOk ms = false := by
  unfold costOk
  have : ms.all costOk1 = false := by
    rw [List.all_eq_false]
    exact ⟨ms[k], List.getElem_mem hk, by simp [hb]⟩
  rw [this, Bool.and_false]
theorem costN_yes {ms : List Mv} (h : costOk ms = true) : costN ms = costs ms := by simp [costN, h]
theorem costN_no {ms : List Mv} (h : costOk ms = false) : costN ms = 0 := by simp [costN, h]
theorem costOk1_f {m : Mv} (h : mvOk 12 m = false) : costOk1 m = false := by simp [costOk1, h]
theorem costOk1_c {m : Mv} (h : mvOk 12 m = true) : costOk1 m = decide (m.c ≤ 1000) := by simp [costOk1, h]
/-- The first k are in order. -/
def okTo (ms : List Mv) (k : Nat) : Prop := ∀ m ∈ ms.take k, costOk1 m = true
theorem okTo_succ {ms : List Mv} {k : Nat} (hk : k < ms.length) (h : okTo ms k) (h1 : costOk1 ms[k] = true) : okTo ms (k + 1) := by
  intro m hm
  rw [List.take_succ_eq_append_getElem hk] at hm
  rcases List.mem_append.1 hm with h2 | h2
  · exact h m h2
  · simp at h2; subst h2; exact h1
theorem okTo_bd {ms : List Mv} {k : Nat} (h : okTo ms k) (hl : ms.length ≤ 100) : 0 ≤ costs (ms.take k) ∧ costs (ms.take k) ≤ 1100000 := by
  have := costs_bd _ h
  have hl2 : (ms.take k).length ≤ 100 := by rw [List.length_take]; omega
  omega

/-- The program's CostOfMoves. -/
theorem CostOfMoves_any (A : Option Addr) (n c B : Nat) (ms : List Mv) (w : World) (hr : Mvs w B A n ms) (hB : B ≤ w.heap.size) (hn : n ≤ 1099511627776) :
    Calls Try.prog 31 #[.slice A n c] w fun e w' => e = .returned (.tuple #[.int .i64 (costN ms), .bool (costOk ms)]) ∧ Below w.heap.size w w' := by
  obtain rfl := hr.len
  by_cases hl : ms.length ≤ 100
  · go_enter Try.func31, Try.ntmps31
    go_wp2_with fail
    go_loopw [4, 12] (fun s i wr => ∃ k : Nat, k ≤ ms.length ∧ i = .int .i64 k ∧ s = .int .i64 (costs (ms.take k)) ∧ okTo ms k ∧ Below w.heap.size w wr)
      (fun _ i _ => ms.length - (intOf i).toNat)
    case atStart => exact ⟨0, Nat.zero_le _, rfl, rfl, fun m hm => by simp at hm, Below.refl _ _⟩
    case round =>
      obtain ⟨k, hk, rfl, rfl, hok, hb⟩ := hrel
      have hs := okTo_bd hok hl
      have HOk := hide hok
      clear hok
      by_cases hlt : k < ms.length
      · have Hs := hide (costs_take_succ ms k hlt)
        have Hbad := hide (fun h => costOk_bad (ms := ms) k hlt h)
        have Hnext := hide (fun h => okTo_succ hlt HOk.out h)
        have hsz := hb.size
        obtain ⟨b, off, rfl, hab, hc0, hc1, hc2⟩ := (hr.below hb hB).at_ hlt hlt
        generalize ms[k] = m at *
        generalize costs (ms.take k) = s0 at *
        cases hm : mvOk 12 m
        · have Hf := hide (costOk1_f hm)
          have hmb : mvOk 12 m = false := hm
          clear hm
          go_wp2_with fail
          refine (isMoveAmong_any _ m _).mono ?_
          rintro e w2 ⟨rfl, hb2⟩
          rw [hmb]
          go_wp2_with fail
          go_ret2
          have Hno := Hbad.out Hf.out
          exact ⟨by rw [costN_no Hno, Hno]; rfl, below_next (hb.alloc hsz _) hb2⟩
        · have Hc := hide (costOk1_c hm)
          have hmb : mvOk 12 m = true := hm
          clear hm
          by_cases hc : m.c ≤ 1000
          · have H1 : Hid (costOk1 m = true) := hide (Hc.out.trans (by simpa using hc))
            have hbd := costOk1_bd H1.out
            have hcb := cost1_bd H1.out
            have Hcost := hide (show cost1 m = m.c * size1 (m.f - m.t) from rfl)
            rw [Hcost.out] at hcb Hs
            obtain ⟨⟨q1, q2, q3, q4, _, q5⟩, _⟩ := hbd
            go_wp2_with fail
            refine (isMoveAmong_any _ m _).mono ?_
            rintro e w2 ⟨rfl, hb2⟩
            rw [hmb]
            have hb3 := below_next (hb.alloc hsz (.cells #[.int .i64 m.f, .int .i64 m.t, .int .i64 m.c] 43)) hb2
            have e0 := hb2.cell (p := ⟨wr.heap.size, 0, none⟩) (by simp)
            have e1 := hb2.cell (p := ⟨wr.heap.size, 1, none⟩) (by simp)
            have e2 := hb2.cell (p := ⟨wr.heap.size, 2, none⟩) (by simp)
            simp at e0 e1 e2
            have HA := hide (fun n => quiet_left (n := n) (sizeOf_any (m.f - m.t) (by omega) (by omega) (w2.drewN n)))
            generalize size1 (m.f - m.t) = sz at *
            go_wp2_with fail
            go_quiet ((go_at_call 50; exact HA.out _))
            go_wp2_with fail
            go_roundw
            case rel => exact ⟨k + 1, by omega, by go_num, by rw [Hs.out], Hnext.out H1.out, below_drewN hb3 _⟩
            case measure => simp [intOf]; omega
          · have H1 : Hid (costOk1 m = false) := hide (Hc.out.trans (by simpa using hc))
            go_wp2_with fail
            refine (isMoveAmong_any _ m _).mono ?_
            rintro e w2 ⟨rfl, hb2⟩
            rw [hmb]
            have e2 := hb2.cell (p := ⟨wr.heap.size, 2, none⟩) (by simp)
            simp at e2
            go_wp2_with fail
            go_ret2
            have Hno := Hbad.out H1.out
            exact ⟨by rw [costN_no Hno, Hno]; rfl, below_next (hb.alloc hsz _) hb2⟩
      · go_wp2_with fail
        go_ret2
        have Hy := costOk_yes hl (fun m hm => HOk.out m (by rw [List.take_of_length_le (by omega)]; exact hm))
        exact ⟨by rw [costN_yes Hy, Hy, List.take_of_length_le (by omega)]; rfl, hb⟩
  · have H1 := hide (costOk_long hl)
    have H2 := hide (costN_no H1.out)
    go_enter Try.func31, Try.ntmps31
    go_wp2_with fail
    go_ret2
    exact ⟨by rw [H1.out, H2.out]; rfl, Below.refl _ _⟩
end Go.Proofs.Ytediapekgbekeaa
