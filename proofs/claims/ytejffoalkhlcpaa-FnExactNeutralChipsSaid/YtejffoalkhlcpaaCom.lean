
/-
  CHIPS THAT COME AGAIN AND HAVE A CLASS, BOTH WAYS: ComingChips, chComing, NeutralChips.
-/
import Derived.Test.YtejffoalkhlcpaaRep
import Derived.Test.YtejffoalkhlcpaaChB
import Derived.Test.YtejffoalkhlcpaaLaws0
import Derived.Test.YtejffoalkhlcpaaMark
import Derived.Test.YtejffoalkhlcpaaFlows
namespace Go.Proofs.Ytejffoalkhlcpaa
open Go.RowKit Go.Deep

/-- All have one, but the i-th place (told from 1; 0: all have one). -/
def onesBut (n i : Nat) : List Int := if i = 0 then ones n else (ones n).set (i - 1) 0
theorem onesBut_length (n i : Nat) : (onesBut n i).length = n := by unfold onesBut; split <;> simp [ones]
theorem onesBut_zero (n : Nat) : onesBut n 0 = ones n := rfl
theorem onesBut_succ (n i : Nat) : onesBut n (i + 1) = (ones n).set i 0 := rfl
def fullC (n : Nat) : Int := clsOf (ones n)
def lessN (n : Nat) (c : Int) : Int := (fullC n - c + (n : Int) + 1) % ((n : Int) + 1)
theorem full_tab : ∀ n : Fin 21, fullC n.val = (((n.val * (n.val + 1) / 2) % (n.val + 1) : Nat) : Int) := by decide +kernel
theorem good_tab : ∀ n : Fin 21, 1 ≤ n.val → ∀ i : Fin 21, hgood (onesBut n.val i.val) = true := by decide +kernel
theorem cls_tab : ∀ n : Fin 21, ∀ i : Fin 21, i.val ≤ n.val → clsOf (onesBut n.val i.val) = ((((n.val * (n.val + 1) / 2) % (n.val + 1) : Nat) : Int) - (i.val : Int)) % ((n.val : Int) + 1) := by decide +kernel
theorem less_tab : ∀ n : Fin 21, ∀ c : Fin 21, c.val ≤ n.val → ∀ i : Fin 21, i.val ≤ n.val →
    (decide (((((n.val * (n.val + 1) / 2) % (n.val + 1) : Nat) : Int) - (i.val : Int)) % ((n.val : Int) + 1) = (c.val : Int)) = decide ((i.val : Int) = ((((n.val * (n.val + 1) / 2) % (n.val + 1) : Nat) : Int) - (c.val : Int) + (n.val : Int) + 1) % ((n.val : Int) + 1))) := by decide +kernel
theorem lessN_bd (n : Nat) (c : Int) : 0 ≤ lessN n c ∧ lessN n c ≤ (n : Int) := by
  unfold lessN
  have h1 := Int.emod_nonneg (fullC n - c + (n : Int) + 1) (show ((n : Int) + 1) ≠ 0 by omega)
  have h2 := Int.emod_lt_of_pos (fullC n - c + (n : Int) + 1) (show 0 < ((n : Int) + 1) by omega)
  omega
theorem cls_iff {n c i : Nat} (hn : n ≤ 20) (hc : c ≤ n) (hi : i ≤ n) : (clsOf (onesBut n i) = (c : Int)) ↔ ((i : Int) = lessN n c) := by
  have h1 := cls_tab ⟨n, by omega⟩ ⟨i, by omega⟩ hi
  have h2 := less_tab ⟨n, by omega⟩ ⟨c, by omega⟩ hc ⟨i, by omega⟩ hi
  have h3 := full_tab ⟨n, by omega⟩
  simp only at h1 h2 h3
  unfold lessN
  rw [h1, h3]
  exact decide_eq_decide.1 h2
theorem fullC_bd {n : Nat} (hn : n ≤ 20) : 0 ≤ fullC n ∧ fullC n ≤ (n : Int) := by
  have h3 := full_tab ⟨n, by omega⟩
  simp only at h3
  rw [h3]
  have := Nat.mod_lt (n * (n + 1) / 2) (show 0 < n + 1 by omega)
  omega
theorem onesBut_good {n i : Nat} (h0 : 1 ≤ n) (hn : n ≤ 20) (hi : i ≤ n) : hgood (onesBut n i) = true := good_tab ⟨n, by omega⟩ h0 ⟨i, by omega⟩

/-- What ComingChips tells. -/
def comOk (p c : Int) : Bool := decide ((1 ≤ p ∧ p ≤ 20) ∧ 0 ≤ c ∧ c ≤ p)
def comR (p c : Int) : List Int := if comOk p c then onesBut p.toNat (lessN p.toNat c).toNat else []
theorem comOk_of {p c : Int} (h : comOk p c = true) : ∃ n k : Nat, p = (n : Int) ∧ c = (k : Int) ∧ 1 ≤ n ∧ n ≤ 20 ∧ k ≤ n := by
  unfold comOk at h
  simp at h
  exact ⟨p.toNat, c.toNat, by omega, by omega, by omega, by omega, by omega⟩
theorem comR_no {p c : Int} (h : comOk p c = false) : comR p c = [] := by simp [comR, h]
theorem comR_yes {n k : Nat} (h : comOk (n : Int) (k : Int) = true) : comR (n : Int) (k : Int) = onesBut n (lessN n k).toNat := by simp [comR, h]
theorem comR_short (p c : Int) : (comR p c).length ≤ 1048576 := by
  cases h : comOk p c
  · rw [comR_no h]; simp
  · obtain ⟨n, k, rfl, rfl, h1, h2, h3⟩ := comOk_of h
    rw [comR_yes h, onesBut_length]; omega

/-- The first j made one. -/
def onemix (j n i : Nat) : List Int := (ones n).take j ++ (onesBut n i).drop j
theorem onemix_zero (n i : Nat) : onemix 0 n i = onesBut n i := by simp [onemix]
theorem onemix_all (n i : Nat) : onemix n n i = ones n := by
  unfold onemix
  rw [List.take_of_length_le (by rw [ones_length]; exact Nat.le_refl _), List.drop_eq_nil_of_le (by rw [onesBut_length]; exact Nat.le_refl _), List.append_nil]
theorem onemix_length (j n i : Nat) (h : j ≤ n) : (onemix j n i).length = n := by
  simp [onemix, ones_length, onesBut_length]; omega
theorem onemix_some (j n i k : Nat) (h : j ≤ n) (hk : k < n) : ∃ z, (onemix j n i)[k]? = some z := by
  rw [List.getElem?_eq_getElem (by rw [onemix_length _ _ _ h]; exact hk)]; exact ⟨_, rfl⟩
theorem onemix_set (j n i : Nat) (h : j < n) : (onemix j n i).set j 1 = onemix (j + 1) n i := by
  have hl : ((ones n).take j).length = j := by rw [List.length_take, ones_length]; omega
  unfold onemix
  rw [List.set_append_right _ _ (by rw [hl]; exact Nat.le_refl _), hl, Nat.sub_self, List.drop_eq_getElem_cons (by rw [onesBut_length]; exact h), List.set_cons_zero, List.take_succ_eq_append_getElem (by rw [ones_length]; exact h)]
  simp [ones]

/-- The model's chComing. -/
theorem chComing_any (n k : Nat) (h0 : 1 ≤ n) (hn : n ≤ 20) (hk : k ≤ n) (w : World) :
    Calls Try.prog 13 #[.int .i64 n, .int .i64 k] w (Made1 (onesBut n (lessN n k).toNat) w) := by
  have HL := hide (onesBut_length n)
  have hmk := run_make_row' (P := Try.prog) 22 3 (.int .i64 0) 8 Try.underlying22 infoInt rfl .i64 .i64 n (by omega) (by omega)
  have hlb := lessN_bd n k
  have HI := hide (fun i (hi : i ≤ n) => cls_iff (n := n) (c := k) (i := i) hn hk hi)
  generalize lessN n k = less at *
  obtain ⟨l, rfl⟩ := Int.eq_ofNat_of_zero_le hlb.1
  rw [Int.toNat_natCast]
  have hln : l ≤ n := by omega
  clear hlb
  go_enter Try.func13, Try.ntmps13
  go_wp2_with fail
  go_loopw [13] (fun i wr => ∃ j : Nat, j ≤ n ∧ i = .int .i64 j ∧
      wr.rowIs w.heap.size 3 n (fun m => if m < j then .int .i64 1 else .int .i64 0) ∧ Below w.heap.size w wr)
    (fun i _ => n - (intOf i).toNat)
  case atStart => exact ⟨0, Nat.zero_le _, rfl, (World.rowIs_made w _ _ _).congr (fun i _ => by simp), (Below.refl _ _).alloc (Nat.le_refl _) _⟩
  case round =>
    obtain ⟨j, hj, rfl, hrow, hb⟩ := hrel
    by_cases hlt : j < n
    · have hold := hrow.cell hlt
      have hfz := hrow.frozen j
      go_wp2_with fail
      go_roundw
      case rel =>
        refine ⟨j + 1, by omega, by go_num, (hrow.set j _).congr (fun i hi => ?_), hb.setCell (Nat.le_refl _) _⟩
        by_cases e : i = j
        · subst e
          rw [if_pos rfl, if_pos (by omega)]
        · simp [e, show (i < j + 1) ↔ i < j from by omega]
      case measure => simp [intOf]; omega
    · have hrow' : Row wr w.heap.size 3 (onesBut n 0) := by
        unfold Row; rw [HL.out]; exact hrow.congr (fun i hi => by rw [if_pos (by omega), onesBut_zero]; simp [ones, List.getD, hi])
      have ho := Own.of_row (base := w.heap.size) hrow' (Nat.le_refl _) (by rw [HL.out]; unfold maxLen; omega)
      rw [HL.out] at ho
      have hsz : w.heap.size < wr.heap.size := by
        obtain ⟨cur, hg, _⟩ := hrow
        exact (Array.getElem?_eq_some_iff.1 hg).1
      clear hrow hrow'
      go_wp2_with fail
      go_loopw [7] (fun i wx => ∃ m : Nat, m ≤ l ∧ i = .int .i64 m ∧ Own wx w.heap.size 3 (.slice (some ⟨w.heap.size, 0, none⟩) n n) (onesBut n m) ∧ Below w.heap.size w wx ∧ w.heap.size < wx.heap.size)
        (fun i _ => l + 1 - (intOf i).toNat)
      case atStart => exact ⟨0, Nat.zero_le _, rfl, ho, hb, hsz⟩
      case round =>
        obtain ⟨m, hm, rfl, hom, hbm, hszm⟩ := hrel
        have hgm := onesBut_good (i := m) h0 hn (by omega)
        have him := HI.out m (by omega)
        have hrm := hom.ints
        rw [HL.out] at hrm
        have HC := hide (chClass_any _ _ n _ _ _ hrm hgm)
        generalize clsOf (onesBut n m) = cm at *
        by_cases he : m = l
        · subst he
          have hck : cm = (k : Int) := him.2 rfl
          subst hck
          go_wp2_with fail
          refine HC.out.mono ?_; rintro e w' ⟨rfl, rfl⟩
          clear HC
          go_wp2_with fail
          go_ret
          exact ⟨w.heap.size, n, by rw [HL.out]; rfl, Nat.le_refl _, hszm, by rw [HL.out]; exact Nat.le_refl _, by unfold maxLen; omega, by rw [HL.out]; exact hom, hbm⟩
        · have hck : ¬ cm = (k : Int) := fun h => he (by have := him.1 h; omega)
          have hlt : m < l := by omega
          clear him
          go_wp2_with fail
          refine HC.out.mono ?_; rintro e w' ⟨rfl, rfl⟩
          clear HC
          go_wp2_with fail
          go_loopw [28] (fun i wy => ∃ j : Nat, j ≤ n ∧ i = .int .i64 j ∧ Own wy w.heap.size 3 (.slice (some ⟨w.heap.size, 0, none⟩) n n) (onemix j n m) ∧ Below w.heap.size w wy ∧ w.heap.size < wy.heap.size)
            (fun i _ => n - (intOf i).toNat)
          case atStart => exact ⟨0, Nat.zero_le _, rfl, by rw [onemix_zero]; exact hom, hbm, hszm⟩
          case round =>
            obtain ⟨j, hj, rfl, hoj, hbj, hszj⟩ := hrel
            by_cases hlj : j < n
            · have HLj := hide (onemix_length j n m hj)
              have HS := hide (onemix_set j n m hlj)
              obtain ⟨z, hz⟩ := onemix_some j n m j hj hlj
              have ho' := hoj
              unfold Own at ho'
              rw [HLj.out] at ho'
              have hold := World.ownsRow.cellAt ho' j (by omega)
              rw [List.getElem?_map, hz, Option.map_some] at hold
              have hfz := World.ownsRow.frozenAt ho' j
              clear ho' hz
              go_wp2
              go_roundw
              case rel =>
                refine ⟨j + 1, by omega, by go_num, ?_, hbj.setCell (Nat.le_refl _) _, by simpa using hszj⟩
                have := Own.stored hoj HLj.out j 1
                rw [HS.out] at this
                exact this
              case measure => simp [intOf]; omega
            · obtain rfl : j = n := by omega
              rw [onemix_all] at hoj
              have HS := hide (onesBut_succ j m)
              have HL1 := hide (ones_length j)
              have ho' := hoj
              unfold Own at ho'
              rw [HL1.out] at ho'
              have hold := World.ownsRow.cellAt ho' m (by omega)
              rw [List.getElem?_map, List.getElem?_eq_getElem (by rw [HL1.out]; omega), Option.map_some] at hold
              have hfz := World.ownsRow.frozenAt ho' m
              clear ho'
              go_wp2
              go_roundw
              case rel =>
                refine ⟨m + 1, by omega, by go_num, ?_, hbj.setCell (Nat.le_refl _) _, by simpa using hszj⟩
                have := Own.stored hoj HL1.out m 0
                rw [HS.out]
                exact this
              case measure => simp [intOf]; omega

theorem ints_one (w : World) (t : TypeId) : Ints (w.alloc (.cells #[.int .i64 1] t)) (w.heap.size + 1) (some ⟨w.heap.size, 0, none⟩) 1 [1] := by
  refine ⟨rfl, fun _ => ⟨_, rfl, by simp, fun j hj => ?_⟩⟩
  obtain rfl : j = 0 := by omega
  rw [show (⟨w.heap.size, 0, none⟩ : Addr).add 0 = ⟨w.heap.size, 0, none⟩ from by simp [Addr.add]]
  simp

/-- The program's ComingChips. -/
theorem ComingChips_any (p c : Int) (w : World) :
    Calls Try.prog 6 #[.int .i64 p, .int .i64 c] w (MadeR (comR p c) (comOk p c) w) := by
  by_cases hin : (1 ≤ p ∧ p ≤ 20) ∧ 0 ≤ c ∧ c ≤ p
  · have hok : comOk p c = true := by unfold comOk; simp; omega
    obtain ⟨n, k, rfl, rfl, h1, h2, h3⟩ := comOk_of hok
    rw [comR_yes hok, hok]
    have HP := hide (fun W => isNumberOfPlaces_any (n : Int) W)
    rw [isNum_in (n := (n : Int)) (by omega)] at HP
    have HL := hide (onesBut_length n)
    have HL1 := hide (ones_length n)
    have hfb := fullC_bd h2
    have hlb := lessN_bd n k
    have hle : lessN n k = (fullC n - k + (n : Int) + 1) % ((n : Int) + 1) := rfl
    have HCl := hide (fun (A : Option Addr) (c B : Nat) (w : World) (hr : Ints w B A n (ones n)) => ClassOfChips_any A n c B (ones n) w hr (by omega))
    have hgo : hgood (ones n) = true := onesBut_good (i := 0) h1 h2 (by omega)
    rw [classN_yes hgo, hgo, show clsOf (ones n) = fullC n from rfl] at HCl
    have HR := hide (fun (A : Option Addr) (c B : Nat) (w : World) (hr : Ints w B A 1 [1]) (hB : B ≤ w.heap.size) => Repeat_any A c B n w hr hB (by omega) h2)
    have HO := hide (ints_one w 3)
    have hA0 : Below w.heap.size w (w.alloc (.cells #[.int .i64 1] 3)) := (Below.refl _ _).alloc (Nat.le_refl _) _
    have HA := hide hA0
    clear hA0
    have HLE := hide hle
    clear hle hgo hin hok
    generalize lessN n k = less at *
    generalize fullC n = full at *
    go_enter Try.func6, Try.ntmps6
    go_wp2_with fail
    refine (HP.out _).mono ?_; rintro e w' ⟨rfl, rfl⟩
    go_wp2_with fail
    refine (HR.out _ _ _ _ HO.out (by simp)).mono ?_
    rintro e w1 ⟨g, c1, rfl, hg1, hg2, hc1, hc2, hown, hb1⟩
    rw [HL1.out] at hown hc1
    rw [HL1.out]
    have hsz1 := hb1.size
    clear HR HO HP
    have hri := hown.ints
    rw [HL1.out] at hri
    have HC2 := hide (HCl.out _ c1 _ w1 hri)
    clear HCl
    have hbb := HA.out.trans (hb1.mono (by simp))
    have hgb : w.heap.size ≤ g := by have := HA.out.size; omega
    have HB := hide hbb
    clear hbb HA hb1
    go_wp2_with fail
    refine HC2.out.mono ?_; rintro e w' ⟨rfl, rfl⟩
    clear HC2
    have hown2 : Own w1 w.heap.size 3 (.slice (some ⟨g, 0, none⟩) n c1) (ones n) := hown.less (by simp)
    by_cases hl : 0 < less
    · obtain ⟨l, rfl⟩ := Int.eq_ofNat_of_zero_le hlb.1
      cases l with
      | zero => simp at hl
      | succ m =>
        have hmn : m < n := by omega
        have ho' := hown2
        unfold Own at ho'
        rw [HL1.out] at ho'
        have hold := World.ownsRow.cellAt ho' m (by omega)
        rw [List.getElem?_map, List.getElem?_eq_getElem (by rw [HL1.out]; omega), Option.map_some] at hold
        have hfz := World.ownsRow.frozenAt ho' m
        clear ho'
        have hls : (((m + 1 : Nat) : Int) - 1) = (m : Int) := by omega
        have hle2 := HLE.out.symm
        go_wp2_with fail
        go_ret2
        rw [Int.toNat_natCast]
        have ho2 := Own.stored hown2 HL1.out m 0
        exact ⟨some ⟨g, 0, none⟩, c1, by rw [HL.out]; rfl, by rw [HL.out]; exact hc1, hc2, by rw [HL.out]; exact ho2, HB.out.setCell hgb _⟩
    · have hl0 : less = 0 := by omega
      subst hl0
      have hle2 := HLE.out.symm
      go_wp2_with fail
      go_ret2
      exact ⟨some ⟨g, 0, none⟩, c1, by rw [HL.out]; rfl, by rw [HL.out]; exact hc1, hc2, by rw [HL.out]; exact hown2, HB.out⟩
  · have hok : comOk p c = false := by unfold comOk; rw [decide_eq_false_iff_not]; exact hin
    rw [comR_no hok, hok]
    have HP := hide (fun W => isNumberOfPlaces_any p W)
    by_cases h1 : 1 ≤ p ∧ p ≤ 20
    · rw [isNum_in h1] at HP
      by_cases h2 : c < 0
      · go_enter Try.func6, Try.ntmps6
        go_wp2_with fail
        refine (HP.out _).mono ?_; rintro e w' ⟨rfl, rfl⟩
        go_wp2_with fail
        go_ret2
        exact madeR_none (Below.refl _ _)
      · have h3 : p < c := by omega
        go_enter Try.func6, Try.ntmps6
        go_wp2_with fail
        refine (HP.out _).mono ?_; rintro e w' ⟨rfl, rfl⟩
        go_wp2_with fail
        go_ret2
        exact madeR_none (Below.refl _ _)
    · rw [isNum_out h1] at HP
      go_enter Try.func6, Try.ntmps6
      go_wp2_with fail
      refine (HP.out _).mono ?_; rintro e w' ⟨rfl, rfl⟩
      go_wp2_with fail
      go_ret2
      exact madeR_none (Below.refl _ _)

/-- The model's ComingChips. -/
theorem specComingChips_any (p c : Int) (w : World) :
    Calls Try.prog 5 #[.int .i64 p, .int .i64 c] w (MadeR (comR p c) (comOk p c) w) := by
  by_cases h1 : 1 ≤ p ∧ p ≤ 20
  · have d1 : decide ((1 : Int) ≤ p ∧ p ≤ 20) = true := by simpa using h1
    by_cases h2 : 0 ≤ c ∧ c ≤ p
    · have d2 : decide ((0 : Int) ≤ c ∧ c ≤ p) = true := by simpa using h2
      have hok : comOk p c = true := by unfold comOk; simp; omega
      obtain ⟨n, k, rfl, rfl, k1, k2, k3⟩ := comOk_of hok
      rw [comR_yes hok, hok]
      have HC := hide (fun W => chComing_any n k k1 k2 k3 W)
      go_enter Try.func5, Try.ntmps5
      go_wp2_with fail
      refine (l1In_any _ _ _ _).mono ?_; rintro e w' ⟨rfl, rfl⟩; rw [d1]
      go_wp2_with fail
      refine (l1In_any _ _ _ _).mono ?_; rintro e w' ⟨rfl, rfl⟩; rw [d2]
      go_wp2_with fail
      refine (HC.out _).mono ?_
      rintro e w1 ⟨g, c1, rfl, _, _, hc1, hc2, hown, hb1⟩
      go_wp2_with fail
      go_ret2
      exact ⟨some ⟨g, 0, none⟩, c1, rfl, hc1, hc2, hown, hb1⟩
    · have d2 : decide ((0 : Int) ≤ c ∧ c ≤ p) = false := by rw [decide_eq_false_iff_not]; exact h2
      have hok : comOk p c = false := by unfold comOk; rw [decide_eq_false_iff_not]; exact fun h => h2 h.2
      rw [comR_no hok, hok]
      clear h2 hok
      go_enter Try.func5, Try.ntmps5
      go_wp2_with fail
      refine (l1In_any _ _ _ _).mono ?_; rintro e w' ⟨rfl, rfl⟩; rw [d1]
      go_wp2_with fail
      refine (l1In_any _ _ _ _).mono ?_; rintro e w' ⟨rfl, rfl⟩; rw [d2]
      go_wp2_with fail
      go_ret2
      exact madeR_none (Below.refl _ _)
  · have d1 : decide ((1 : Int) ≤ p ∧ p ≤ 20) = false := by rw [decide_eq_false_iff_not]; exact h1
    have hok : comOk p c = false := by unfold comOk; rw [decide_eq_false_iff_not]; exact fun h => h1 h.1
    rw [comR_no hok, hok]
    clear h1 hok
    go_enter Try.func5, Try.ntmps5
    go_wp2_with fail
    refine (l1In_any _ _ _ _).mono ?_; rintro e w' ⟨rfl, rfl⟩; rw [d1]
    go_wp2_with fail
    go_ret2
    exact madeR_none (Below.refl _ _)

/-- What NeutralChips tells. -/
def neuOk (p : Int) : Bool := comOk p 0
def neuR (p : Int) : List Int := comR p 0
theorem neuR_short (p : Int) : (neuR p).length ≤ 1048576 := comR_short p 0

/-- The model's NeutralChips. -/
theorem specNeutralChips_any (p : Int) (w : World) :
    Calls Try.prog 10 #[.int .i64 p] w (MadeR (neuR p) (neuOk p) w) := by
  unfold neuR neuOk
  by_cases h1 : 1 ≤ p ∧ p ≤ 20
  · have d1 : decide ((1 : Int) ≤ p ∧ p ≤ 20) = true := by simpa using h1
    have hok : comOk p 0 = true := by unfold comOk; simp; omega
    obtain ⟨n, k, rfl, hk0, k1, k2, k3⟩ := comOk_of hok
    obtain rfl : k = 0 := by omega
    clear hk0
    have HY := comR_yes (n := n) (k := 0) hok
    rw [show ((0 : Nat) : Int) = 0 from rfl] at HY
    rw [HY, hok]
    have HC := hide (fun W => chComing_any n 0 k1 k2 (by omega) W)
    rw [show ((0 : Nat) : Int) = 0 from rfl] at HC
    clear h1 hok HY
    go_enter Try.func10, Try.ntmps10
    go_wp2_with fail
    refine (l1In_any _ _ _ _).mono ?_; rintro e w' ⟨rfl, rfl⟩; rw [d1]
    go_wp2_with fail
    refine (HC.out _).mono ?_
    rintro e w1 ⟨g, c1, rfl, _, _, hc1, hc2, hown, hb1⟩
    go_wp2_with fail
    go_ret2
    exact ⟨some ⟨g, 0, none⟩, c1, rfl, hc1, hc2, hown, hb1⟩
  · have d1 : decide ((1 : Int) ≤ p ∧ p ≤ 20) = false := by rw [decide_eq_false_iff_not]; exact h1
    have hok : comOk p 0 = false := by unfold comOk; rw [decide_eq_false_iff_not]; exact fun h => h1 h.1
    rw [comR_no hok, hok]
    clear h1 hok
    go_enter Try.func10, Try.ntmps10
    go_wp2_with fail
    refine (l1In_any _ _ _ _).mono ?_; rintro e w' ⟨rfl, rfl⟩; rw [d1]
    go_wp2_with fail
    go_ret2
    exact madeR_none (Below.refl _ _)

/-- The program's NeutralChips. -/
theorem NeutralChips_any (p : Int) (w : World) :
    Calls Try.prog 11 #[.int .i64 p] w (MadeR (neuR p) (neuOk p) w) := by
  unfold neuR neuOk
  have HC := hide (fun W => ComingChips_any p 0 W)
  generalize comR p 0 = fs at *
  generalize comOk p 0 = b at *
  go_enter Try.func11, Try.ntmps11
  go_wp2_with fail
  refine (HC.out _).mono ?_
  rintro e w1 ⟨A, c1, rfl, hc1, hc2, hown, hb1⟩
  go_wp2_with fail
  go_ret2
  exact ⟨A, c1, rfl, hc1, hc2, hown, hb1⟩
end Go.Proofs.Ytejffoalkhlcpaa
