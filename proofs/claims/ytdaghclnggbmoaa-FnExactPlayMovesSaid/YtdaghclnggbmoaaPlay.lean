
/-
  MOVES AMONG HEAPS: the program's carry, the model's hpMove.
-/
import Derived.Test.YtdaghclnggbmoaaCost
import Derived.Test.YtdaghclnggbmoaaPlayP
import Derived.Test.YtdaghclnggbmoaaCopy
import Derived.Test.YtdaghclnggbmoaaMark
import Derived.RegionTactic
namespace Go.Proofs.Ytdaghclnggbmoaa
open Go.RowKit Go.Deep
set_option linter.unusedVariables false

theorem two_stores {w : World} {g i j h : Nat} (u v : Value) {o : Obj} (hh : h < w.heap.size) (hne : h ≠ g) : ((((w.setCell ⟨g, i, none⟩ u).setCell ⟨g, j, none⟩ v).alloc o).drew.drew).heap[h]? = w.heap[h]? := by
  show (((w.setCell ⟨g, i, none⟩ u).setCell ⟨g, j, none⟩ v).alloc o).heap[h]? = w.heap[h]?
  rw [Below.heap_alloc _ _ _ (by simpa [World.setCell] using hh), Below.heap_setCell _ _ _ _ hne, Below.heap_setCell _ _ _ _ hne]

/-- WHAT carry LEAVES: the row behind the move; no other block that was there has turned. -/
def Carried (base g n c : Nat) (zs : List Int) (w : World) (e : Ending) (w' : World) : Prop :=
  e = .returned (.tuple #[]) ∧ Own w' base 3 (.slice (some ⟨g, 0, none⟩) n c) zs ∧ Below base w w' ∧ ∀ h, h < w.heap.size → h ≠ g → w'.heap[h]? = w.heap[h]?

theorem carry_any (base g n cap : Nat) (zs : List Int) (i j : Nat) (c : Int) (w : World) (hown : Own w base 3 (.slice (some ⟨g, 0, none⟩) n cap) zs) (hlen : zs.length = n) (hn : n ≤ 1000000)
    (hi : i < n) (hj : j < n) (hij : i ≠ j) (hcalm : calm zs) (hc0 : 0 ≤ c) (hc1 : c ≤ 12000) :
    Calls Try.prog 40 #[.slice (some ⟨g, 0, none⟩) n cap, .agg #[.int .i64 (i : Int), .int .i64 (j : Int), .int .i64 c]] w (Carried base g n cap (moved i j c zs) w) := by
  subst hlen
  rcases hown.form with ⟨h1, _⟩ | ⟨g', c', h1, hb, hg, hcl, hm⟩
  · cases h1
  cases h1
  have zi := calm_get hcalm i hi
  have zj := calm_get hcalm j hj
  have e1 : ∀ o, (w.alloc o).cell? ⟨g, i, none⟩ = some (.int .i64 zs[i]) := by
    intro o
    have := World.ownsRow.cellAt (hown.alloc o) i (by omega)
    rw [this]; simp [hi]
  have f1 : ∀ o, (w.alloc o).frozen? ⟨g, i, none⟩ = false := fun o => World.ownsRow.frozenAt (hown.alloc o) i
  have own1 : Own (w.setCell ⟨g, i, none⟩ (.int .i64 (zs[i] - c))) base 3 (.slice (some ⟨g, 0, none⟩) zs.length cap) (zs.set i (zs[i] - c)) := Own.stored hown rfl i _
  have e2 : ∀ o, ((w.setCell ⟨g, i, none⟩ (.int .i64 (zs[i] - c))).alloc o).cell? ⟨g, j, none⟩ = some (.int .i64 zs[j]) := by
    intro o
    have h := own1.alloc o
    unfold Own at h
    rw [List.length_set] at h
    have := World.ownsRow.cellAt h j (by omega)
    rw [this]; simp [hj, List.getElem_set_ne hij]
  have f2 : ∀ o, ((w.setCell ⟨g, i, none⟩ (.int .i64 (zs[i] - c))).alloc o).frozen? ⟨g, j, none⟩ = false := by
    intro o
    have h := own1.alloc o
    unfold Own at h
    rw [List.length_set] at h
    exact World.ownsRow.frozenAt h j
  have ai : (i : Int) < (zs.length : Int) := by omega
  have aj : (j : Int) < (zs.length : Int) := by omega
  go_enter Try.func40, Try.ntmps40
  go_wp2_with fail
  go_region
  go_wp2_with fail
  go_region
  go_wp2_with fail
  go_end0
  have own2 : Own ((w.setCell ⟨g, i, none⟩ (.int .i64 (zs[i] - c))).setCell ⟨g, j, none⟩ (.int .i64 (zs[j] + c))) base 3 (.slice (some ⟨g, 0, none⟩) zs.length cap) (moved i j c zs) := by
    rw [moved_eq i j c zs hij hi hj]
    exact Own.stored own1 (by rw [List.length_set]) j _
  have hbel : Below base w ((w.setCell ⟨g, i, none⟩ (.int .i64 (zs[i] - c))).setCell ⟨g, j, none⟩ (.int .i64 (zs[j] + c))) := ((Below.refl _ _).setCell hb _).setCell hb _
  refine ⟨rfl, (own2.alloc _).drewN 2, below_drewN (hbel.alloc (by simp; omega) _) 2, fun h hh hne => ?_⟩
  exact two_stores _ _ hh hne

/-- The model's hpMove, a move that can be made. -/
theorem hpMove_yes (A : Option Addr) (n cap B : Nat) (zs : List Int) (i j : Nat) (c : Int) (w : World) (hr : Ints w B A n zs) (hB : B ≤ w.heap.size) (hn : n ≤ 12)
    (hi : i < n) (hj : j < n) (hij : i ≠ j) (hcalm : calm zs) (hc0 : 1 ≤ c) (hcz : c ≤ zs.getD i 0) :
    Calls Try.prog 36 #[.slice A n cap, .agg #[.int .i64 (i : Int), .int .i64 (j : Int), .int .i64 c]] w (MadeR (moved i j c zs) true w) := by
  obtain rfl := hr.len
  have ezi : zs.getD i 0 = zs[i] := by simp [List.getD, hi]
  rw [ezi] at hcz
  have zi := calm_get hcalm i hi
  have zj := calm_get hcalm j hj
  obtain ⟨ad, rfl, hab, hcell⟩ := hr.at_ hi
  rw [ezi] at hcell
  clear ezi
  have hn1 : (zs.length : Int) - 1 = ((zs.length - 1 : Nat) : Int) := by omega
  have d1 : decide ((0 : Int) ≤ (i : Int) ∧ (i : Int) ≤ ((zs.length - 1 : Nat) : Int)) = true := by simp; omega
  have d2 : decide ((0 : Int) ≤ (j : Int) ∧ (j : Int) ≤ ((zs.length - 1 : Nat) : Int)) = true := by simp; omega
  have d3 : ((i : Int) == (j : Int)) = false := by simp; omega
  have d4 : decide (c < 1) = false := by simp; omega
  have d5 : decide (zs[i] < c) = false := by simp; omega
  have hcell' : ∀ o, (w.alloc o).cell? (ad.add i) = some (.int .i64 zs[i]) := fun o => by
    rw [World.cell?_alloc_lt w o (ad.add i) (by rw [block_of_add]; omega)]; exact hcell
  have ai : (i : Int) < (zs.length : Int) := by omega
  have aj : (j : Int) < (zs.length : Int) := by omega
  have HA := hide (fun (W : World) => l1In_any (i : Int) 0 ((zs.length - 1 : Nat) : Int) W)
  have HB := hide (fun (W : World) => l1In_any (j : Int) 0 ((zs.length - 1 : Nat) : Int) W)
  rw [d1] at HA
  rw [d2] at HB
  go_enter Try.func36, Try.ntmps36
  go_wp2_with fail
  go_quiet ((go_at_call 30; first | (with_reducible exact quiet_left (HA.out _)) | (with_reducible exact quiet_left (HB.out _))))
  go_wp2_with fail
  have hb1 : Below w.heap.size w ((w.alloc (.cells #[.int .i64 (i : Int), .int .i64 (j : Int), .int .i64 c] 44)).drewN nq) := below_drewN ((Below.refl _ _).alloc (Nat.le_refl _) _) nq
  have k0 : ((w.alloc (.cells #[.int .i64 (i : Int), .int .i64 (j : Int), .int .i64 c] 44)).drewN nq).cell? ⟨w.heap.size, 0, none⟩ = some (.int .i64 (i : Int)) := by simp
  have k1 : ((w.alloc (.cells #[.int .i64 (i : Int), .int .i64 (j : Int), .int .i64 c] 44)).drewN nq).cell? ⟨w.heap.size, 1, none⟩ = some (.int .i64 (j : Int)) := by simp
  have k2 : ((w.alloc (.cells #[.int .i64 (i : Int), .int .i64 (j : Int), .int .i64 c] 44)).drewN nq).cell? ⟨w.heap.size, 2, none⟩ = some (.int .i64 c) := by simp
  have hs1 : w.heap.size < ((w.alloc (.cells #[.int .i64 (i : Int), .int .i64 (j : Int), .int .i64 c] 44)).drewN nq).heap.size := by simp
  generalize ((w.alloc (.cells #[.int .i64 (i : Int), .int .i64 (j : Int), .int .i64 c] 44)).drewN nq) = w1 at *
  have hr1 := hr.below hb1 hB
  refine (l1Own_any _ _ _ _ zs _ hr1 (by omega) (by omega) (by omega)).mono ?_
  rintro e w2 ⟨g, cap2, rfl, hga, hgb, hca, hcb, hown, hb2⟩
  have b0 := (hb2.cell (p := ⟨w.heap.size, 0, none⟩) hs1).trans k0
  have b1 := (hb2.cell (p := ⟨w.heap.size, 1, none⟩) hs1).trans k1
  have b2 := (hb2.cell (p := ⟨w.heap.size, 2, none⟩) hs1).trans k2
  clear k0 k1 k2 hcell hcell'
  have hb02 : Below w.heap.size w w2 := below_next hb1 hb2
  have e1 : w2.cell? ⟨g, i, none⟩ = some (.int .i64 zs[i]) := by
    rw [World.ownsRow.cellAt hown i (by omega)]; simp [hi]
  have f1 : w2.frozen? ⟨g, i, none⟩ = false := World.ownsRow.frozenAt hown i
  have own1 : Own (w2.setCell ⟨g, i, none⟩ (.int .i64 (zs[i] - c))) w.heap.size 3 (.slice (some ⟨g, 0, none⟩) zs.length cap2) (zs.set i (zs[i] - c)) := Own.stored (hown.less (by omega)) rfl i _
  have e2 : (w2.setCell ⟨g, i, none⟩ (.int .i64 (zs[i] - c))).cell? ⟨g, j, none⟩ = some (.int .i64 zs[j]) := by
    have h := own1
    unfold Own at h
    rw [List.length_set] at h
    rw [World.ownsRow.cellAt h j (by omega)]; simp [hj, List.getElem_set_ne hij]
  have f2 : (w2.setCell ⟨g, i, none⟩ (.int .i64 (zs[i] - c))).frozen? ⟨g, j, none⟩ = false := by
    have h := own1
    unfold Own at h
    rw [List.length_set] at h
    exact World.ownsRow.frozenAt h j
  have hne : ¬ w.heap.size = g := by omega
  have b1' : (w2.setCell ⟨g, i, none⟩ (.int .i64 (zs[i] - c))).cell? ⟨w.heap.size, 1, none⟩ = some (.int .i64 (j : Int)) := by
    rw [World.cell?_setCell_other _ _ _ _ (by simp)]; exact b1
  have b2' : (w2.setCell ⟨g, i, none⟩ (.int .i64 (zs[i] - c))).cell? ⟨w.heap.size, 2, none⟩ = some (.int .i64 c) := by
    rw [World.cell?_setCell_other _ _ _ _ (by simp)]; exact b2
  go_wp2_with fail
  go_region
  go_wp2_with fail
  go_region
  go_wp2_with fail
  go_ret2
  have own2 : Own ((w2.setCell ⟨g, i, none⟩ (.int .i64 (zs[i] - c))).setCell ⟨g, j, none⟩ (.int .i64 (zs[j] + c))) w.heap.size 3 (.slice (some ⟨g, 0, none⟩) zs.length cap2) (moved i j c zs) := by
    rw [moved_eq i j c zs hij hi hj]
    exact Own.stored own1 (by rw [List.length_set]) j _
  have hbel : Below w.heap.size w ((w2.setCell ⟨g, i, none⟩ (.int .i64 (zs[i] - c))).setCell ⟨g, j, none⟩ (.int .i64 (zs[j] + c))) := (hb02.setCell (show w.heap.size ≤ g by omega) _).setCell (show w.heap.size ≤ g by omega) _
  exact ⟨_, cap2, by rw [moved_length]; rfl, by rw [moved_length]; exact hca, hcb, by rw [moved_length]; exact own2.drewN 2, below_drewN hbel 2⟩

theorem hpMove_no1 (A : Option Addr) (n cap B : Nat) (zs : List Int) (f t c : Int) (w : World) (hr : Ints w B A n zs) (hB : B ≤ w.heap.size) (h1 : 1 ≤ n) (hn : n ≤ 12) (hf : ¬ (0 ≤ f ∧ f < n)) :
    Calls Try.prog 36 #[.slice A n cap, .agg #[.int .i64 f, .int .i64 t, .int .i64 c]] w (MadeR [] false w) := by
  obtain rfl := hr.len
  have hn1 : (zs.length : Int) - 1 = ((zs.length - 1 : Nat) : Int) := by omega
  have d1 : decide ((0 : Int) ≤ f ∧ f ≤ ((zs.length - 1 : Nat) : Int)) = false := by simp; omega
  have HA := hide (fun (W : World) => l1In_any f 0 ((zs.length - 1 : Nat) : Int) W)
  rw [d1] at HA
  go_enter Try.func36, Try.ntmps36
  go_wp2_with fail
  go_quiet ((go_at_call 30; with_reducible exact quiet_left (HA.out _)))
  go_wp2_with fail
  go_ret2
  exact madeR_none (below_drewN ((Below.refl _ _).alloc (Nat.le_refl _) _) _)

theorem hpMove_no2 (A : Option Addr) (n cap B : Nat) (zs : List Int) (f t c : Int) (w : World) (hr : Ints w B A n zs) (hB : B ≤ w.heap.size) (h1 : 1 ≤ n) (hn : n ≤ 12) (hf : 0 ≤ f ∧ f < n) (ht : ¬ (0 ≤ t ∧ t < n)) :
    Calls Try.prog 36 #[.slice A n cap, .agg #[.int .i64 f, .int .i64 t, .int .i64 c]] w (MadeR [] false w) := by
  obtain rfl := hr.len
  have hn1 : (zs.length : Int) - 1 = ((zs.length - 1 : Nat) : Int) := by omega
  have d1 : decide ((0 : Int) ≤ f ∧ f ≤ ((zs.length - 1 : Nat) : Int)) = true := by simp; omega
  have d2 : decide ((0 : Int) ≤ t ∧ t ≤ ((zs.length - 1 : Nat) : Int)) = false := by simp; omega
  have HA := hide (fun (W : World) => l1In_any f 0 ((zs.length - 1 : Nat) : Int) W)
  have HB := hide (fun (W : World) => l1In_any t 0 ((zs.length - 1 : Nat) : Int) W)
  rw [d1] at HA
  rw [d2] at HB
  go_enter Try.func36, Try.ntmps36
  go_wp2_with fail
  go_quiet ((go_at_call 30; first | (with_reducible exact quiet_left (HA.out _)) | (with_reducible exact quiet_left (HB.out _))))
  go_wp2_with fail
  go_ret2
  exact madeR_none (below_drewN ((Below.refl _ _).alloc (Nat.le_refl _) _) _)

theorem hpMove_no3 (A : Option Addr) (n cap B : Nat) (zs : List Int) (f t c : Int) (w : World) (hr : Ints w B A n zs) (hB : B ≤ w.heap.size) (h1 : 1 ≤ n) (hn : n ≤ 12) (hf : 0 ≤ f ∧ f < n) (ht : 0 ≤ t ∧ t < n) (he : f = t) :
    Calls Try.prog 36 #[.slice A n cap, .agg #[.int .i64 f, .int .i64 t, .int .i64 c]] w (MadeR [] false w) := by
  obtain rfl := hr.len
  have hn1 : (zs.length : Int) - 1 = ((zs.length - 1 : Nat) : Int) := by omega
  have d1 : decide ((0 : Int) ≤ f ∧ f ≤ ((zs.length - 1 : Nat) : Int)) = true := by simp; omega
  have d3 : (f == t) = true := by simpa using he
  have HA := hide (fun (W : World) => l1In_any f 0 ((zs.length - 1 : Nat) : Int) W)
  rw [d1] at HA
  subst he
  go_enter Try.func36, Try.ntmps36
  go_wp2_with fail
  go_quiet ((go_at_call 30; with_reducible exact quiet_left (HA.out _)))
  go_wp2_with fail
  go_ret2
  exact madeR_none (below_drewN ((Below.refl _ _).alloc (Nat.le_refl _) _) _)

theorem hpMove_no4 (A : Option Addr) (n cap B : Nat) (zs : List Int) (f t c : Int) (w : World) (hr : Ints w B A n zs) (hB : B ≤ w.heap.size) (h1 : 1 ≤ n) (hn : n ≤ 12) (hf : 0 ≤ f ∧ f < n) (ht : 0 ≤ t ∧ t < n) (he : f ≠ t) (hc : c < 1) :
    Calls Try.prog 36 #[.slice A n cap, .agg #[.int .i64 f, .int .i64 t, .int .i64 c]] w (MadeR [] false w) := by
  obtain rfl := hr.len
  have hn1 : (zs.length : Int) - 1 = ((zs.length - 1 : Nat) : Int) := by omega
  have d1 : decide ((0 : Int) ≤ f ∧ f ≤ ((zs.length - 1 : Nat) : Int)) = true := by simp; omega
  have d2 : decide ((0 : Int) ≤ t ∧ t ≤ ((zs.length - 1 : Nat) : Int)) = true := by simp; omega
  have d3 : (f == t) = false := by simpa using he
  have d4 : decide (c < 1) = true := by simpa using hc
  have HA := hide (fun (W : World) => l1In_any f 0 ((zs.length - 1 : Nat) : Int) W)
  have HB := hide (fun (W : World) => l1In_any t 0 ((zs.length - 1 : Nat) : Int) W)
  rw [d1] at HA
  rw [d2] at HB
  go_enter Try.func36, Try.ntmps36
  go_wp2_with fail
  go_quiet ((go_at_call 30; first | (with_reducible exact quiet_left (HA.out _)) | (with_reducible exact quiet_left (HB.out _))))
  go_wp2_with fail
  go_ret2
  exact madeR_none (below_drewN ((Below.refl _ _).alloc (Nat.le_refl _) _) _)

theorem hpMove_no5 (A : Option Addr) (n cap B : Nat) (zs : List Int) (i : Nat) (t c : Int) (w : World) (hr : Ints w B A n zs) (hB : B ≤ w.heap.size) (hn : n ≤ 12)
    (hi : i < n) (ht : 0 ≤ t ∧ t < n) (he : (i : Int) ≠ t) (hc : 1 ≤ c) (hz : zs.getD i 0 < c) :
    Calls Try.prog 36 #[.slice A n cap, .agg #[.int .i64 (i : Int), .int .i64 t, .int .i64 c]] w (MadeR [] false w) := by
  obtain rfl := hr.len
  have hn1 : (zs.length : Int) - 1 = ((zs.length - 1 : Nat) : Int) := by omega
  have ezi : zs.getD i 0 = zs[i] := by simp [List.getD, hi]
  rw [ezi] at hz
  obtain ⟨ad, rfl, hab, hcell⟩ := hr.at_ hi
  rw [ezi] at hcell
  clear ezi
  have hcell' : ∀ o, (w.alloc o).cell? (ad.add i) = some (.int .i64 zs[i]) := fun o => by
    rw [World.cell?_alloc_lt w o (ad.add i) (by rw [block_of_add]; omega)]; exact hcell
  have ai : (i : Int) < (zs.length : Int) := by omega
  have d1 : decide ((0 : Int) ≤ (i : Int) ∧ (i : Int) ≤ ((zs.length - 1 : Nat) : Int)) = true := by simp; omega
  have d2 : decide ((0 : Int) ≤ t ∧ t ≤ ((zs.length - 1 : Nat) : Int)) = true := by simp; omega
  have d3 : ((i : Int) == t) = false := by simpa using he
  have d4 : decide (c < 1) = false := by simp; omega
  have d5 : decide (zs[i] < c) = true := by simpa using hz
  have HA := hide (fun (W : World) => l1In_any (i : Int) 0 ((zs.length - 1 : Nat) : Int) W)
  have HB := hide (fun (W : World) => l1In_any t 0 ((zs.length - 1 : Nat) : Int) W)
  rw [d1] at HA
  rw [d2] at HB
  go_enter Try.func36, Try.ntmps36
  go_wp2_with fail
  go_quiet ((go_at_call 30; first | (with_reducible exact quiet_left (HA.out _)) | (with_reducible exact quiet_left (HB.out _))))
  go_wp2_with fail
  go_ret2
  exact madeR_none (below_drewN ((Below.refl _ _).alloc (Nat.le_refl _) _) _)

/-- The model's hpMove, any move. -/
theorem hpMove_any (A : Option Addr) (n cap B : Nat) (zs : List Int) (f t c : Int) (w : World) (hr : Ints w B A n zs) (hB : B ≤ w.heap.size) (h1 : 1 ≤ n) (hn : n ≤ 12) (hcalm : calm zs) :
    Calls Try.prog 36 #[.slice A n cap, .agg #[.int .i64 f, .int .i64 t, .int .i64 c]] w (MadeR (movedR zs f t c) (canMv zs f t c) w) := by
  have hl := hr.len
  by_cases hf : 0 ≤ f ∧ f < n
  · by_cases ht : 0 ≤ t ∧ t < n
    · by_cases he : f = t
      · have hno := canMv_no (zs := zs) (f := f) (t := t) (c := c) (fun h => h.2.2.1 he)
        rw [movedR_no hno, hno]
        exact hpMove_no3 A n cap B zs f t c w hr hB h1 hn hf ht he
      · by_cases hc : 1 ≤ c
        · obtain ⟨i, rfl⟩ := Int.eq_ofNat_of_zero_le hf.1
          by_cases hz : c ≤ zs.getD i 0
          · obtain ⟨j, rfl⟩ := Int.eq_ofNat_of_zero_le ht.1
            have hyes := canMv_yes (zs := zs) (f := (i : Int)) (t := (j : Int)) (c := c) ⟨by omega, by omega, he, hc, by simpa using hz⟩
            rw [movedR_yes hyes, hyes]
            exact hpMove_yes A n cap B zs i j c w hr hB hn (by omega) (by omega) (by omega) hcalm hc hz
          · have hno := canMv_no (zs := zs) (f := (i : Int)) (t := t) (c := c) (fun h => hz (by simpa using h.2.2.2.2))
            rw [movedR_no hno, hno]
            exact hpMove_no5 A n cap B zs i t c w hr hB hn (by omega) ht he hc (by omega)
        · have hno := canMv_no (zs := zs) (f := f) (t := t) (c := c) (fun h => hc h.2.2.2.1)
          rw [movedR_no hno, hno]
          exact hpMove_no4 A n cap B zs f t c w hr hB h1 hn hf ht he (by omega)
    · have hno := canMv_no (zs := zs) (f := f) (t := t) (c := c) (fun h => ht (by have := h.2.1; omega))
      rw [movedR_no hno, hno]
      exact hpMove_no2 A n cap B zs f t c w hr hB h1 hn hf ht
  · have hno := canMv_no (zs := zs) (f := f) (t := t) (c := c) (fun h => hf (by have := h.1; omega))
    rw [movedR_no hno, hno]
    exact hpMove_no1 A n cap B zs f t c w hr hB h1 hn hf
end Go.Proofs.Ytdaghclnggbmoaa
