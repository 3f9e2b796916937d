
/-
  SPLITS, BOTH WAYS, THE SECOND PART: splitGameOf, canMake; the model's slAsked, slMake.
-/
import Derived.Test.YtpeblkbbnkinaaaSl
import Derived.Test.YtpeblkbbnkinaaaApp
import Derived.Test.YtpeblkbbnkinaaaSums
import Derived.Deep.RegionHeld3
import Derived.Deep.RegionWith
namespace Go.Proofs.Ytpeblkbbnkinaaa
open Go.RowKit Go.Deep
set_option linter.unusedVariables false

theorem wrap_ok {n : Int} (h0 : -1000000000000 ≤ n) (h1 : n ≤ 1000000000000) : IntKind.i64.wrap n = n := by
  rw [IntKind.wrap_i64]; omega
theorem sask_no1 {r : Int} {zs : List Int} (h : srule r = false) : sask r zs = false := by simp [sask, h]
theorem sask_yes1 {r : Int} {zs : List Int} (h : srule r = true) : sask r zs = sgood zs := by simp [sask, h]

/-- The model's slRule. -/
theorem slRule_any (r : Int) (w : World) :
    Calls Try.prog 41 #[.int .i64 r] w fun e w' => e = .returned (.bool (srule r)) ∧ w = w' := by
  have HA := hide (fun W => l1In_any r 0 2 W)
  have HE := show srule r = decide (0 ≤ r ∧ r ≤ 2) from rfl
  rw [← HE] at HA
  clear HE
  generalize srule r = b at *
  go_enter Try.func41, Try.ntmps41
  go_wp2_with fail
  refine (HA.out _).mono ?_; rintro e w' ⟨rfl, rfl⟩
  go_wp2_with fail
  go_ret
  exact ⟨rfl, rfl⟩

/-- The model's slAsked. -/
theorem slAsked_any (r : Int) (A : Option Addr) (n c B : Nat) (zs : List Int) (w : World) (hr : Ints w B A n zs) (hn : n ≤ 17592186044416) :
    Calls Try.prog 32 #[.int .i64 r, .slice A n c] w fun e w' => e = .returned (.bool (sask r zs)) ∧ w = w' := by
  have HR := hide (fun W => slRule_any r W)
  have HG := hide (slGood_any A n c B zs w hr hn)
  cases h : srule r
  · have HE := hide (sask_no1 (zs := zs) h)
    rw [h] at HR
    go_enter Try.func32, Try.ntmps32
    go_wp2_with fail
    refine (HR.out _).mono ?_; rintro e w' ⟨rfl, rfl⟩
    go_wp2_with fail
    go_ret
    exact ⟨by rw [HE.out]; rfl, rfl⟩
  · have HE := hide (sask_yes1 (zs := zs) h)
    rw [h] at HR
    go_enter Try.func32, Try.ntmps32
    go_wp2_with fail
    refine (HR.out _).mono ?_; rintro e w' ⟨rfl, rfl⟩
    go_wp2_with fail
    refine HG.out.mono ?_; rintro e w' ⟨rfl, rfl⟩
    go_wp2_with fail
    go_ret
    exact ⟨by rw [HE.out]; rfl, rfl⟩

/-- A game as a value: its rule, and the very heaps that came. -/
def gameV (b : Bool) (r : Int) (A : Option Addr) (n c : Nat) : Value := if b then .agg #[.int .i64 r, .slice A n c] else .agg #[.int .i64 0, .slice none 0 0]

theorem splitGameOf_any (r : Int) (A : Option Addr) (n c B : Nat) (zs : List Int) (w : World) (hr : Ints w B A n zs) (hB : B ≤ w.heap.size) (hn : n ≤ 17592186044416) :
    Calls Try.prog 35 #[.int .i64 r, .slice A n c] w fun e w' => e = .returned (.tuple #[gameV (sask r zs) r A n c, .bool (sask r zs)]) ∧ Below w.heap.size w w' := by
  have HR := hide (fun W => isSplitRule_any r W)
  have HG := hide (fun W (h : Ints W B A n zs) => AreSplitHeaps_any A n c B zs W h hn)
  have hro : ∀ o, Ints (w.alloc o) B A n zs := fun o => hr.alloc hB o
  cases h : srule r
  · have HE := hide (sask_no1 (zs := zs) h)
    rw [h] at HR
    go_enter Try.func35, Try.ntmps35
    go_wp2_with fail
    refine (HR.out _).mono ?_; rintro e w' ⟨rfl, rfl⟩
    go_wp2_with fail
    rw [HE.out]
    exact bodyPost_ret (v := .tuple #[.agg #[.int .i64 0, .slice none 0 0], .bool false]) (by simp [results, Try.results35, go_sem]) rfl
      ⟨rfl, (Below.refl _ _).alloc (Nat.le_refl _) _⟩
  · have HE := hide (sask_yes1 (zs := zs) h)
    rw [h] at HR
    cases hg : sgood zs
    · rw [hg] at HG HE
      go_enter Try.func35, Try.ntmps35
      go_wp2_with fail
      refine (HR.out _).mono ?_; rintro e w' ⟨rfl, rfl⟩
      go_wp2_with fail
      refine (HG.out _ (hro _)).mono ?_; rintro e w' ⟨rfl, rfl⟩
      go_wp2_with fail
      rw [HE.out]
      exact bodyPost_ret (v := .tuple #[.agg #[.int .i64 0, .slice none 0 0], .bool false]) (by simp [results, Try.results35, go_sem]) rfl
        ⟨rfl, (Below.refl _ _).alloc (Nat.le_refl _) _⟩
    · rw [hg] at HG HE
      go_enter Try.func35, Try.ntmps35
      go_wp2_with fail
      refine (HR.out _).mono ?_; rintro e w' ⟨rfl, rfl⟩
      go_wp2_with fail
      refine (HG.out _ (hro _)).mono ?_; rintro e w' ⟨rfl, rfl⟩
      go_wp2_with fail
      rw [HE.out]
      exact bodyPost_ret (v := .tuple #[.agg #[.int .i64 r, .slice A n c], .bool true]) (by simp [results, Try.results35, go_sem]) rfl
        ⟨rfl, (Below.refl _ _).alloc (Nat.le_refl _) _⟩

/-- The program's canMake. -/
theorem canMake_any (r : Int) (A : Option Addr) (n c B : Nat) (zs : List Int) (i p : Int) (w : World) (hr : Ints w B A n zs) (hB : B ≤ w.heap.size) (hn : n ≤ 1000) (hrule : srule r = true) (hz : within 1 60 zs = true) :
    Calls Try.prog 36 #[.agg #[.int .i64 r, .slice A n c], .agg #[.int .i64 i, .int .i64 p]] w fun e w' => e = .returned (.bool (smay r zs i p)) ∧ Below w.heap.size w w' := by
  obtain rfl := hr.len
  have HO := hide (fun W => isOneAmong_any zs.length i W)
  by_cases hi : 0 ≤ i ∧ i < zs.length
  · obtain ⟨k, rfl⟩ := Int.eq_ofNat_of_zero_le hi.1
    have hk : k < zs.length := by omega
    rw [isOne_yes hi] at HO
    obtain ⟨ad, rfl, hab, hcell⟩ := hr.at_ hk
    have hcell' : ∀ o o', ((w.alloc o).alloc o').cell? (ad.add k) = some (.int .i64 (zs.getD k 0)) := fun o o' => by
      rw [World.cell?_alloc_lt _ o' (ad.add k) (by rw [block_of_add]; simp; omega), World.cell?_alloc_lt w o (ad.add k) (by rw [block_of_add]; omega)]; exact hcell
    have hzk := within_get hz k hk
    have e : zs.getD k 0 = zs[k] := by simp [List.getD, hk]
    rw [← e] at hzk
    have HM := hide (show smay r zs (k : Int) p = decide (leastP r ≤ p ∧ p ≤ mostP r (zs.getD k 0)) from by rw [smay_in hi, Int.toNat_natCast, scan_parts hrule hzk.1])
    clear e hz hcell
    generalize zs.getD k 0 = h at *
    have HP := hide (fun W => partsOf_any r h hrule hzk.1 hzk.2 W)
    rw [HM.out]
    clear HM hrule hr hi hzk
    generalize leastP r = a at *
    generalize mostP r h = b at *
    have hki : (k : Int) < (zs.length : Int) := by omega
    clear hk
    obtain ⟨t, ht⟩ : ∃ t, t = decide (a ≤ p ∧ p ≤ b) := ⟨_, rfl⟩
    rw [← ht]
    have HT := hide ht
    clear ht
    go_enter Try.func36, Try.ntmps36
    go_wp2_with fail
    have hA : Below w.heap.size w ((w.alloc (.cells #[.int .i64 r, .slice (some ad) zs.length c] 54)).alloc (.cells #[.int .i64 (k : Int), .int .i64 p] 33)) := ((Below.refl _ _).alloc (Nat.le_refl _) _).alloc (by simp) _
    have X0 : Bx ((w.alloc (.cells #[.int .i64 r, .slice (some ad) zs.length c] 54)).alloc (.cells #[.int .i64 (k : Int), .int .i64 p] 33)) w.heap.size 54 (.int .i64 r) (.slice (some ad) zs.length c) := (Bx.new w _ _ _).alloc _
    have X1 : Bx ((w.alloc (.cells #[.int .i64 r, .slice (some ad) zs.length c] 54)).alloc (.cells #[.int .i64 (k : Int), .int .i64 p] 33)) (w.heap.size + 1) 33 (.int .i64 (k : Int)) (.int .i64 p) := by
      have := Bx.new (w.alloc (.cells #[.int .i64 r, .slice (some ad) zs.length c] 54)) 33 (.int .i64 (k : Int)) (.int .i64 p)
      simpa using this
    have hcw := hcell' (.cells #[.int .i64 r, .slice (some ad) zs.length c] 54) (.cells #[.int .i64 (k : Int), .int .i64 p] 33)
    clear hcell'
    generalize ((w.alloc (.cells #[.int .i64 r, .slice (some ad) zs.length c] 54)).alloc (.cells #[.int .i64 (k : Int), .int .i64 p] 33)) = W0 at *
    have c0 := X0.c0
    have c1 := X0.c1
    have d0 := X1.c0
    have d1 := X1.c1
    refine (HO.out _).mono ?_; rintro e w' ⟨rfl, rfl⟩
    go_wp2_with fail
    go_region_held3 (fun W => W.cell? ⟨w.heap.size, 0, none⟩ = some (.int .i64 r) ∧ W.cell? ⟨w.heap.size, 1, none⟩ = some (.slice (some ad) zs.length c) ∧ W.cell? ⟨w.heap.size + 1, 0, none⟩ = some (.int .i64 (k : Int)) ∧ W.cell? (ad.add k) = some (.int .i64 h))
      (first | exact ⟨c0, c1, d0, hcw⟩ | go_keep)
      (first | (go_at_call 46; (with_reducible refine (HP.out _).mono ?_); rintro e w' ⟨rfl, rfl⟩))
    by_cases ha : a ≤ p
    · have HE := hide (show t = decide (p ≤ b) from by rw [HT.out]; simp [ha])
      go_wp2_with fail
      go_ret
      exact ⟨by rw [HE.out]; rfl, below_drewN hA _⟩
    · have HE := hide (show t = false from by rw [HT.out]; simp [ha])
      go_wp2_with fail
      go_ret
      exact ⟨by rw [HE.out]; rfl, below_drewN hA _⟩
  · rw [isOne_no hi] at HO
    have HM := hide (smay_out (r := r) (p := p) hi)
    rw [HM.out]
    clear hi
    go_enter Try.func36, Try.ntmps36
    go_wp2_with fail
    refine (HO.out _).mono ?_; rintro e w' ⟨rfl, rfl⟩
    go_wp2_with fail
    go_ret
    exact ⟨rfl, ((Below.refl _ _).alloc (Nat.le_refl _) _).alloc (by simp) _⟩

/-- WHAT IS LEFT BEHIND A SPLIT: heaps of the call's own, at the head of a new block. -/
def SMade (zs : List Int) (w : World) (e : Ending) (w' : World) : Prop :=
  ∃ g c, e = .returned (.tuple #[.slice (some ⟨g, 0, none⟩) zs.length c, .bool true]) ∧ w.heap.size ≤ g ∧ g < w'.heap.size ∧ zs.length ≤ c ∧ c ≤ maxLen ∧ Own w' w.heap.size 3 (.slice (some ⟨g, 0, none⟩) zs.length c) zs ∧ Below w.heap.size w w'

/-- The model's slMake, a split that cannot be made. -/
theorem slMake_no (r : Int) (A : Option Addr) (n c B : Nat) (zs : List Int) (i p : Int) (w : World) (hr : Ints w B A n zs) (hB : B ≤ w.heap.size) (h1 : 1 ≤ n) (hn : n ≤ 1000) (hrule : srule r = true) (hz : within 1 60 zs = true)
    (hm : smay r zs i p = false) :
    Calls Try.prog 33 #[.int .i64 r, .slice A n c, .agg #[.int .i64 i, .int .i64 p]] w fun e w' => e = .returned (.tuple #[.slice none 0 0, .bool false]) ∧ Below w.heap.size w w' := by
  obtain rfl := hr.len
  have hn1 : (zs.length : Int) - 1 = ((zs.length - 1 : Nat) : Int) := by omega
  have HI := hide (fun W => l1In_any i 0 ((zs.length - 1 : Nat) : Int) W)
  have hwr : IntKind.i64.wrap ((zs.length - 1 : Nat) : Int) = ((zs.length - 1 : Nat) : Int) := wrap_ok (by omega) (by omega)
  by_cases hi : 0 ≤ i ∧ i < zs.length
  · obtain ⟨k, rfl⟩ := Int.eq_ofNat_of_zero_le hi.1
    have hk : k < zs.length := by omega
    rw [show decide ((0 : Int) ≤ (k : Int) ∧ (k : Int) ≤ ((zs.length - 1 : Nat) : Int)) = true from decide_eq_true (by omega)] at HI
    obtain ⟨ad, rfl, hab, hcell⟩ := hr.at_ hk
    have hzk := within_get hz k hk
    have e : zs.getD k 0 = zs[k] := by simp [List.getD, hk]
    rw [← e] at hzk
    have HM : scan r (zs.getD k 0) p = false := by rw [smay_in hi, Int.toNat_natCast] at hm; exact hm
    have HP := hide (fun W => slCan_any r (zs.getD k 0) p hrule hzk.1 hzk.2 W)
    rw [HM] at HP
    clear e hz HM hm hrule hi hzk
    generalize zs.getD k 0 = h at *
    have hki : (k : Int) < (zs.length : Int) := by omega
    clear hk
    have hcw : ∀ o, (w.alloc o).cell? (ad.add k) = some (.int .i64 h) := fun o => by
      rw [World.cell?_alloc_lt w _ (ad.add k) (by rw [block_of_add]; omega)]; exact hcell
    go_enter Try.func33, Try.ntmps33
    go_wp2_with fail
    go_quiet ((first | (go_at_call 29; with_reducible exact quiet_left (HI.out _)) | (go_at_call 42; with_reducible exact quiet_left (HP.out _))))
    go_wp2_with fail
    go_ret2
    exact ⟨rfl, below_drewN ((Below.refl _ _).alloc (Nat.le_refl _) _) _⟩
  · rw [show decide ((0 : Int) ≤ i ∧ i ≤ ((zs.length - 1 : Nat) : Int)) = false from decide_eq_false (by omega)] at HI
    clear hi hm
    go_enter Try.func33, Try.ntmps33
    go_wp2_with fail
    go_quiet ((go_at_call 29; with_reducible exact quiet_left (HI.out _)))
    go_wp2_with fail
    go_ret2
    exact ⟨rfl, below_drewN ((Below.refl _ _).alloc (Nat.le_refl _) _) _⟩
end Go.Proofs.Ytpeblkbbnkinaaa
