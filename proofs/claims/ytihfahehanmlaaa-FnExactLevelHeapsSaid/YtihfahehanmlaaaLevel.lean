
/-
  LEVEL HEAPS, BOTH WAYS, AND THE LAW'S WALK.
-/
import Derived.Test.YtihfahehanmlaaaFlows
import Derived.Test.YtihfahehanmlaaaMark
namespace Go.Proofs.Ytihfahehanmlaaa
open Go.RowKit Go.Deep

/-- The i-th of h level heaps with s stones. -/
def lev1 (s : Int) (h i : Nat) : Int := if (i : Int) < s % (h : Int) then s / (h : Int) + 1 else s / (h : Int)
def level (s : Int) (h : Nat) : List Int := (List.range h).map fun (i : Nat) => lev1 s h i
theorem level_length (s : Int) (h : Nat) : (level s h).length = h := by simp [level]
theorem level_take_succ (s : Int) (h k : Nat) (hk : k < h) : (level s h).take (k + 1) = (level s h).take k ++ [lev1 s h k] := by
  rw [List.take_succ_eq_append_getElem (by rw [level_length]; exact hk)]; simp [level]
theorem level_getD (s : Int) (h k : Nat) (hk : k < h) : (level s h).getD k 0 = lev1 s h k := by
  simp [List.getD, level, hk]
theorem lev1_yes {s : Int} {h i : Nat} (hc : (i : Int) < s % (h : Int)) : lev1 s h i = s / (h : Int) + 1 := by simp [lev1, hc]
theorem lev1_no {s : Int} {h i : Nat} (hc : ¬ (i : Int) < s % (h : Int)) : lev1 s h i = s / (h : Int) := by simp [lev1, hc]
theorem quo_bd {s : Int} (h0 : 0 ≤ s) (h1 : s ≤ 1000) (h : Nat) : 0 ≤ s / (h : Int) ∧ s / (h : Int) ≤ 1000 :=
  ⟨Int.ediv_nonneg h0 (by omega), Int.le_trans (Int.ediv_le_self _ h0) h1⟩
def levOk (s h : Int) : Bool := decide (0 ≤ s ∧ s ≤ 1000) && decide (1 ≤ h ∧ h ≤ 12)
def levR (s h : Int) : List Int := if levOk s h then level s h.toNat else []
theorem levOk_yes {s : Int} {h : Nat} (h1 : 0 ≤ s) (h2 : s ≤ 1000) (h3 : 1 ≤ h) (h4 : h ≤ 12) : levOk s h = true := by
  unfold levOk; simp; omega
theorem levOk_no {s h : Int} (hc : ¬ ((0 ≤ s ∧ s ≤ 1000) ∧ 1 ≤ h ∧ h ≤ 12)) : levOk s h = false := by
  unfold levOk; simp; omega
theorem levR_yes {s : Int} {h : Nat} (hc : levOk s h = true) : levR s h = level s h := by simp [levR, hc]
theorem levR_no {s h : Int} (hc : levOk s h = false) : levR s h = [] := by simp [levR, hc]
theorem levR_short (s h : Int) : (levR s h).length ≤ 1048576 := by
  cases hc : levOk s h
  · rw [levR_no hc]; simp
  · unfold levR
    rw [if_pos hc, level_length]
    unfold levOk at hc
    simp at hc
    omega

/-- The model's LevelHeaps. -/
theorem specLevelHeaps_any (s h : Int) (w : World) :
    Calls Try.prog 46 #[.int .i64 s, .int .i64 h] w (MadeR (levR s h) (levOk s h) w) := by
  by_cases h1 : 0 ≤ s ∧ s ≤ 1000
  · have hd1 : decide ((0 : Int) ≤ s ∧ s ≤ 1000) = true := by simpa using h1
    by_cases h2 : 1 ≤ h ∧ h ≤ 12
    · have hd2 : decide ((1 : Int) ≤ h ∧ h ≤ 12) = true := by simpa using h2
      obtain ⟨n, rfl⟩ := Int.eq_ofNat_of_zero_le (show 0 ≤ h by omega)
      have hok := levOk_yes (s := s) (h := n) h1.1 h1.2 (by omega) (by omega)
      rw [levR_yes hok, hok]
      clear hok
      have hq := quo_bd h1.1 h1.2 n
      obtain ⟨hs0, hs1⟩ := h1
      obtain ⟨hn0, hn1⟩ := h2
      have HL := hide (level_length s n)
      go_enter Try.func46, Try.ntmps46
      go_wp2_with fail
      refine (l1In_any _ _ _ _).mono ?_; rintro e w' ⟨rfl, rfl⟩; rw [hd1]
      go_wp2_with fail
      refine (l1In_any _ _ _ _).mono ?_; rintro e w' ⟨rfl, rfl⟩; rw [hd2]
      go_wp2_with fail
      go_loopw [6, 7] (fun v i wr => ∃ k : Nat, k ≤ n ∧ i = .int .i64 k ∧ Own wr w.heap.size 3 v ((level s n).take k) ∧ Below w.heap.size w wr)
        (fun _ i _ => n - (intOf i).toNat)
      case atStart => exact ⟨0, Nat.zero_le _, rfl, Own.nil _ _ _, Below.refl _ _⟩
      case round =>
        obtain ⟨k, hk, rfl, hown, hb⟩ := hrel
        have hsz := hb.size
        have hll : ((level s n).take k).length < 1000000 := by rw [List.length_take, HL.out]; omega
        by_cases hlt : k < n
        · have Hs := hide (level_take_succ s n k hlt)
          by_cases hc : (k : Int) < s % (n : Int)
          · have Hv := hide (lev1_yes (s := s) (h := n) (i := k) hc)
            go_wp2_with (at_builtin; refine wpList_app_int rfl _ _ 22 3 rfl Try.underlying22 infoInt w.heap.size _ _ rfl hown _ _ rfl hsz hll ?_; intro v' w' hown' hb')
            go_roundw
            case rel => exact ⟨k + 1, by omega, by go_num, by rw [Hs.out, Hv.out]; exact hown', hb.trans hb'⟩
            case measure => simp [intOf]; omega
          · have Hv := hide (lev1_no (s := s) (h := n) (i := k) hc)
            go_wp2_with (at_builtin; refine wpList_app_int rfl _ _ 22 3 rfl Try.underlying22 infoInt w.heap.size _ _ rfl hown _ _ rfl hsz hll ?_; intro v' w' hown' hb')
            go_roundw
            case rel => exact ⟨k + 1, by omega, by go_num, by rw [Hs.out, Hv.out]; exact hown', hb.trans hb'⟩
            case measure => simp [intOf]; omega
        · go_wp2_with fail
          go_ret2
          rw [List.take_of_length_le (by rw [HL.out]; omega)] at hown
          obtain ⟨A', c', rfl, h1, h2⟩ := hown.shape
          exact ⟨A', c', rfl, h1, h2, hown, hb⟩
    · have hd2 : decide ((1 : Int) ≤ h ∧ h ≤ 12) = false := by simp; omega
      have hok := levOk_no (s := s) (h := h) (by omega)
      rw [levR_no hok, hok]
      clear hok
      go_enter Try.func46, Try.ntmps46
      go_wp2_with fail
      refine (l1In_any _ _ _ _).mono ?_; rintro e w' ⟨rfl, rfl⟩; rw [hd1]
      go_wp2_with fail
      refine (l1In_any _ _ _ _).mono ?_; rintro e w' ⟨rfl, rfl⟩; rw [hd2]
      go_wp2_with fail
      go_ret2
      exact madeR_none (Below.refl _ _)
  · have hd1 : decide ((0 : Int) ≤ s ∧ s ≤ 1000) = false := by simp; omega
    have hok := levOk_no (s := s) (h := h) (by omega)
    rw [levR_no hok, hok]
    clear hok
    go_enter Try.func46, Try.ntmps46
    go_wp2_with fail
    refine (l1In_any _ _ _ _).mono ?_; rintro e w' ⟨rfl, rfl⟩; rw [hd1]
    go_wp2_with fail
    go_ret2
    exact madeR_none (Below.refl _ _)

/-- The program's LevelHeaps. -/
theorem LevelHeaps_any (s h : Int) (w : World) :
    Calls Try.prog 47 #[.int .i64 s, .int .i64 h] w (MadeR (levR s h) (levOk s h) w) := by
  by_cases hin : (0 ≤ s ∧ s ≤ 1000) ∧ 1 ≤ h ∧ h ≤ 12
  · obtain ⟨n, rfl⟩ := Int.eq_ofNat_of_zero_le (show 0 ≤ h by omega)
    have hok := levOk_yes (s := s) (h := n) hin.1.1 hin.1.2 (by omega) (by omega)
    rw [levR_yes hok, hok]
    clear hok
    have hq := quo_bd hin.1.1 hin.1.2 n
    obtain ⟨⟨hs0, hs1⟩, hn0, hn1⟩ := hin
    have HL := hide (level_length s n)
    have hmk := run_make_row' (P := Try.prog) 22 3 (.int .i64 0) 8 Try.underlying22 infoInt rfl .i64 .i64 n (by omega) (by omega)
    go_enter Try.func47, Try.ntmps47
    go_wp2_with fail
    go_loopw [26] (fun i wr => ∃ k : Nat, k ≤ n ∧ i = .int .i64 k ∧
        wr.rowIs w.heap.size 3 n (fun j => if j < k then .int .i64 ((level s n).getD j 0) else .int .i64 0) ∧ Below w.heap.size w wr)
      (fun i _ => n - (intOf i).toNat)
    case atStart => exact ⟨0, Nat.zero_le _, rfl, (World.rowIs_made w _ _ _).congr (fun i _ => by simp), (Below.refl _ _).alloc (Nat.le_refl _) _⟩
    case round =>
      obtain ⟨k, hk, rfl, hrow, hb⟩ := hrel
      by_cases hlt : k < n
      · have hold := hrow.cell hlt
        have hfz := hrow.frozen k
        have Hd := hide (level_getD s n k hlt)
        by_cases hc : (k : Int) < s % (n : Int)
        · have Hv := hide (lev1_yes (s := s) (h := n) (i := k) hc)
          go_wp2_with fail
          go_roundw
          case rel =>
            refine ⟨k + 1, by omega, by go_num, ((hrow.set k _).set k _).congr (fun i hi => ?_), (hb.setCell (Nat.le_refl _) _).setCell (Nat.le_refl _) _⟩
            by_cases e : i = k
            · subst e
              rw [if_pos rfl, if_pos (by omega), Hd.out, Hv.out]
            · simp [e, show (i < k + 1) ↔ i < k from by omega]
          case measure => simp [intOf]; omega
        · have Hv := hide (lev1_no (s := s) (h := n) (i := k) hc)
          go_wp2_with fail
          go_roundw
          case rel =>
            refine ⟨k + 1, by omega, by go_num, (hrow.set k _).congr (fun i hi => ?_), hb.setCell (Nat.le_refl _) _⟩
            by_cases e : i = k
            · subst e
              rw [if_pos rfl, if_pos (by omega), Hd.out, Hv.out]
            · simp [e, show (i < k + 1) ↔ i < k from by omega]
          case measure => simp [intOf]; omega
      · go_wp2_with fail
        go_ret2
        have hrow' : Row wr w.heap.size 3 (level s n) := by
          unfold Row; rw [HL.out]; exact hrow.congr (fun i hi => by rw [if_pos (by omega)])
        have ho := Own.of_row (base := w.heap.size) hrow' (Nat.le_refl _) (by rw [HL.out]; unfold maxLen; omega)
        refine ⟨some ⟨w.heap.size, 0, none⟩, (level s n).length, by rw [HL.out]; rfl, Nat.le_refl _, by rw [HL.out]; unfold maxLen; omega, ho, hb⟩
  · have hok := levOk_no hin
    rw [levR_no hok, hok]
    clear hok
    by_cases c1 : h < 1
    · go_enter Try.func47, Try.ntmps47
      go_wp2_with fail
      go_ret2
      exact madeR_none (Below.refl _ _)
    · by_cases c2 : 12 < h
      · go_enter Try.func47, Try.ntmps47
        go_wp2_with fail
        go_ret2
        exact madeR_none (Below.refl _ _)
      · by_cases c3 : s < 0
        · go_enter Try.func47, Try.ntmps47
          go_wp2_with fail
          go_ret2
          exact madeR_none (Below.refl _ _)
        · have c4 : 1000 < s := by omega
          go_enter Try.func47, Try.ntmps47
          go_wp2_with fail
          go_ret2
          exact madeR_none (Below.refl _ _)
end Go.Proofs.Ytihfahehanmlaaa
