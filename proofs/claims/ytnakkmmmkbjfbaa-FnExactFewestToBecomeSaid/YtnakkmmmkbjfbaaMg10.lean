import Derived.Test.YtnakkmmmkbjfbaaMg04
import Derived.Test.YtnakkmmmkbjfbaaMg09
import Derived.Test.YtnakkmmmkbjfbaaMg03
import Derived.Test.YtnakkmmmkbjfbaaMg01
import Derived.RegionTactic
import Derived.Test.YtnakkmmmkbjfbaaMg05

/-
  DOUBLINGS, THE MODEL's WAY: dbCan, dbMake.
-/
namespace Go.Proofs.Ytnakkmmmkbjfbaa
open Go.RowKit Go.Deep
set_option linter.unusedVariables false

theorem dbCan_no1 (A : Option Addr) (n cap B : Nat) (zs : List Int) (f t : Int) (w : World) (hr : Ints w B A n zs) (hB : B ≤ w.heap.size) (h1 : 1 ≤ n) (hn : n ≤ 12) (hf : ¬ (0 ≤ f ∧ f < n)) :
    Calls Try.prog 40 #[.slice A n cap, .agg #[.int .i64 f, .int .i64 t]] w fun e w' => e = .returned (.bool false) ∧ Below w.heap.size w w' := by
  obtain rfl := hr.len
  have hn1 : (zs.length : Int) - 1 = ((zs.length - 1 : Nat) : Int) := by omega
  have d1 : decide ((0 : Int) ≤ f ∧ f ≤ ((zs.length - 1 : Nat) : Int)) = false := by simp; omega
  have HA := hide (fun (W : World) => l1In_any f 0 ((zs.length - 1 : Nat) : Int) W)
  rw [d1] at HA
  go_enter Try.func40, Try.ntmps40
  go_wp2_with fail
  go_quiet ((go_at_call 36; with_reducible exact quiet_left (HA.out _)))
  go_wp2_with fail
  go_ret
  exact ⟨rfl, below_drewN ((Below.refl _ _).alloc (Nat.le_refl _) _) _⟩

theorem dbCan_no2 (A : Option Addr) (n cap B : Nat) (zs : List Int) (f t : Int) (w : World) (hr : Ints w B A n zs) (hB : B ≤ w.heap.size) (h1 : 1 ≤ n) (hn : n ≤ 12) (hf : 0 ≤ f ∧ f < n) (ht : ¬ (0 ≤ t ∧ t < n)) :
    Calls Try.prog 40 #[.slice A n cap, .agg #[.int .i64 f, .int .i64 t]] w fun e w' => e = .returned (.bool false) ∧ Below w.heap.size w w' := by
  obtain rfl := hr.len
  have hn1 : (zs.length : Int) - 1 = ((zs.length - 1 : Nat) : Int) := by omega
  have d1 : decide ((0 : Int) ≤ f ∧ f ≤ ((zs.length - 1 : Nat) : Int)) = true := by simp; omega
  have d2 : decide ((0 : Int) ≤ t ∧ t ≤ ((zs.length - 1 : Nat) : Int)) = false := by simp; omega
  have HA := hide (fun (W : World) => l1In_any f 0 ((zs.length - 1 : Nat) : Int) W)
  have HB := hide (fun (W : World) => l1In_any t 0 ((zs.length - 1 : Nat) : Int) W)
  rw [d1] at HA
  rw [d2] at HB
  go_enter Try.func40, Try.ntmps40
  go_wp2_with fail
  go_quiet ((go_at_call 36; first | (with_reducible exact quiet_left (HA.out _)) | (with_reducible exact quiet_left (HB.out _))))
  go_wp2_with fail
  go_ret
  exact ⟨rfl, below_drewN ((Below.refl _ _).alloc (Nat.le_refl _) _) _⟩

theorem dbCan_no3 (A : Option Addr) (n cap B : Nat) (zs : List Int) (f t : Int) (w : World) (hr : Ints w B A n zs) (hB : B ≤ w.heap.size) (h1 : 1 ≤ n) (hn : n ≤ 12) (hf : 0 ≤ f ∧ f < n) (ht : 0 ≤ t ∧ t < n) (he : f = t) :
    Calls Try.prog 40 #[.slice A n cap, .agg #[.int .i64 f, .int .i64 t]] w fun e w' => e = .returned (.bool false) ∧ Below w.heap.size w w' := by
  obtain rfl := hr.len
  have hn1 : (zs.length : Int) - 1 = ((zs.length - 1 : Nat) : Int) := by omega
  have d1 : decide ((0 : Int) ≤ f ∧ f ≤ ((zs.length - 1 : Nat) : Int)) = true := by simp; omega
  have d3 : (f != t) = false := by simpa using he
  have HA := hide (fun (W : World) => l1In_any f 0 ((zs.length - 1 : Nat) : Int) W)
  rw [d1] at HA
  subst he
  go_enter Try.func40, Try.ntmps40
  go_wp2_with fail
  go_quiet ((go_at_call 36; with_reducible exact quiet_left (HA.out _)))
  go_wp2_with fail
  go_ret
  exact ⟨rfl, below_drewN ((Below.refl _ _).alloc (Nat.le_refl _) _) _⟩

theorem dbCan_no4 (A : Option Addr) (n cap B : Nat) (zs : List Int) (f : Int) (j : Nat) (w : World) (hr : Ints w B A n zs) (hB : B ≤ w.heap.size) (hn : n ≤ 12) (hf : 0 ≤ f ∧ f < n) (hj : j < n) (he : f ≠ (j : Int)) (hz : ¬ 0 < zs.getD j 0) :
    Calls Try.prog 40 #[.slice A n cap, .agg #[.int .i64 f, .int .i64 (j : Int)]] w fun e w' => e = .returned (.bool false) ∧ Below w.heap.size w w' := by
  obtain rfl := hr.len
  have ezj : zs.getD j 0 = zs[j] := by simp [List.getD, hj]
  rw [ezj] at hz
  obtain ⟨ad, rfl, hab, hcell⟩ := hr.at_ hj
  rw [ezj] at hcell
  clear ezj
  have hcell' : ∀ o, (w.alloc o).cell? (ad.add j) = some (.int .i64 zs[j]) := fun o => by
    rw [World.cell?_alloc_lt w o (ad.add j) (by rw [block_of_add]; omega)]; exact hcell
  have hn1 : (zs.length : Int) - 1 = ((zs.length - 1 : Nat) : Int) := by omega
  have aj : (j : Int) < (zs.length : Int) := by omega
  have d1 : decide ((0 : Int) ≤ f ∧ f ≤ ((zs.length - 1 : Nat) : Int)) = true := by simp; omega
  have d2 : decide ((0 : Int) ≤ (j : Int) ∧ (j : Int) ≤ ((zs.length - 1 : Nat) : Int)) = true := by simp; omega
  have d3 : (f != (j : Int)) = true := by simpa using he
  have d4 : decide (0 < zs[j]) = false := by simp <;> omega
  have HA := hide (fun (W : World) => l1In_any f 0 ((zs.length - 1 : Nat) : Int) W)
  have HB := hide (fun (W : World) => l1In_any (j : Int) 0 ((zs.length - 1 : Nat) : Int) W)
  rw [d1] at HA
  rw [d2] at HB
  go_enter Try.func40, Try.ntmps40
  go_wp2_with fail
  go_quiet ((go_at_call 36; first | (with_reducible exact quiet_left (HA.out _)) | (with_reducible exact quiet_left (HB.out _))))
  go_wp2_with fail
  go_ret
  exact ⟨rfl, below_drewN ((Below.refl _ _).alloc (Nat.le_refl _) _) _⟩

theorem dbCan_go (A : Option Addr) (n cap B : Nat) (zs : List Int) (i j : Nat) (w : World) (hr : Ints w B A n zs) (hB : B ≤ w.heap.size) (hn : n ≤ 12) (hi : i < n) (hj : j < n) (he : i ≠ j) (hz : 0 < zs.getD j 0) :
    Calls Try.prog 40 #[.slice A n cap, .agg #[.int .i64 (i : Int), .int .i64 (j : Int)]] w fun e w' => e = .returned (.bool (decide (zs.getD j 0 ≤ zs.getD i 0))) ∧ Below w.heap.size w w' := by
  obtain rfl := hr.len
  have ezj : zs.getD j 0 = zs[j] := by simp [List.getD, hj]
  have ezi : zs.getD i 0 = zs[i] := by simp [List.getD, hi]
  rw [ezj] at hz
  obtain ⟨ad, rfl, hab, hcell⟩ := hr.at_ hj
  obtain ⟨ad', had, _, hcelli⟩ := hr.at_ hi
  obtain rfl : ad = ad' := by injection had
  clear had
  rw [ezj] at hcell
  rw [ezi] at hcelli
  rw [ezi, ezj]
  clear ezj ezi
  have hcell' : ∀ o, (w.alloc o).cell? (ad.add j) = some (.int .i64 zs[j]) := fun o => by
    rw [World.cell?_alloc_lt w o (ad.add j) (by rw [block_of_add]; omega)]; exact hcell
  have hcelli' : ∀ o, (w.alloc o).cell? (ad.add i) = some (.int .i64 zs[i]) := fun o => by
    rw [World.cell?_alloc_lt w o (ad.add i) (by rw [block_of_add]; omega)]; exact hcelli
  have hn1 : (zs.length : Int) - 1 = ((zs.length - 1 : Nat) : Int) := by omega
  have aj : (j : Int) < (zs.length : Int) := by omega
  have ai : (i : Int) < (zs.length : Int) := by omega
  have d1 : decide ((0 : Int) ≤ (i : Int) ∧ (i : Int) ≤ ((zs.length - 1 : Nat) : Int)) = true := by simp; omega
  have d2 : decide ((0 : Int) ≤ (j : Int) ∧ (j : Int) ≤ ((zs.length - 1 : Nat) : Int)) = true := by simp; omega
  have d3 : ((i : Int) != (j : Int)) = true := by simp; omega
  have d4 : decide (0 < zs[j]) = true := by simpa using hz
  have HA := hide (fun (W : World) => l1In_any (i : Int) 0 ((zs.length - 1 : Nat) : Int) W)
  have HB := hide (fun (W : World) => l1In_any (j : Int) 0 ((zs.length - 1 : Nat) : Int) W)
  rw [d1] at HA
  rw [d2] at HB
  go_enter Try.func40, Try.ntmps40
  go_wp2_with fail
  go_quiet ((go_at_call 36; first | (with_reducible exact quiet_left (HA.out _)) | (with_reducible exact quiet_left (HB.out _))))
  go_wp2_with fail
  go_ret
  exact ⟨rfl, below_drewN ((Below.refl _ _).alloc (Nat.le_refl _) _) _⟩

theorem dbCan_any (A : Option Addr) (n cap B : Nat) (zs : List Int) (f t : Int) (w : World) (hr : Ints w B A n zs) (hB : B ≤ w.heap.size) (h1 : 1 ≤ n) (hn : n ≤ 12) :
    Calls Try.prog 40 #[.slice A n cap, .agg #[.int .i64 f, .int .i64 t]] w fun e w' => e = .returned (.bool (canD zs f t)) ∧ Below w.heap.size w w' := by
  have hl := hr.len
  by_cases hf : 0 ≤ f ∧ f < n
  · by_cases ht : 0 ≤ t ∧ t < n
    · by_cases he : f = t
      · rw [canD_no (fun h => h.2.2.2.2.1 he)]
        exact dbCan_no3 A n cap B zs f t w hr hB h1 hn hf ht he
      · obtain ⟨i, rfl⟩ := Int.eq_ofNat_of_zero_le hf.1
        obtain ⟨j, rfl⟩ := Int.eq_ofNat_of_zero_le ht.1
        by_cases hz : 0 < zs.getD j 0
        · have e : canD zs (i : Int) (j : Int) = decide (zs.getD j 0 ≤ zs.getD i 0) := by
            unfold canD
            rw [Int.toNat_natCast, Int.toNat_natCast]
            by_cases hc : zs.getD j 0 ≤ zs.getD i 0
            · rw [decide_eq_true hc]; exact decide_eq_true ⟨by omega, by omega, by omega, by omega, he, hz, hc⟩
            · rw [decide_eq_false hc]; exact decide_eq_false (fun h => hc h.2.2.2.2.2.2)
          rw [e]
          exact dbCan_go A n cap B zs i j w hr hB hn (by omega) (by omega) (by omega) hz
        · rw [canD_no (fun h => hz (by have := h.2.2.2.2.2.1; rwa [Int.toNat_natCast] at this))]
          exact dbCan_no4 A n cap B zs (i : Int) j w hr hB hn hf (by omega) he hz
    · rw [canD_no (fun h => ht ⟨h.2.2.1, by omega⟩)]
      exact dbCan_no2 A n cap B zs f t w hr hB h1 hn hf ht
  · rw [canD_no (fun h => hf ⟨h.1, by omega⟩)]
    exact dbCan_no1 A n cap B zs f t w hr hB h1 hn hf

/-- The model's dbMake. -/
theorem dbMake_any (A : Option Addr) (n cap B : Nat) (zs : List Int) (i j : Nat) (w : World) (hr : Ints w B A n zs) (hB : B ≤ w.heap.size) (hn : n ≤ 12) (hs : small zs) (hi : i < n) (hj : j < n) (hij : i ≠ j) (hle : zs.getD j 0 ≤ zs.getD i 0) :
    Calls Try.prog 25 #[.slice A n cap, .agg #[.int .i64 (i : Int), .int .i64 (j : Int)]] w (Made1 (dmade i j zs) w) := by
  obtain rfl := hr.len
  have ezj : zs.getD j 0 = zs[j] := by simp [List.getD, hj]
  have ezi : zs.getD i 0 = zs[i] := by simp [List.getD, hi]
  rw [ezi, ezj] at hle
  have zi := small_get hs i hi
  have zj := small_get hs j hj
  obtain ⟨ad, rfl, hab, hcell⟩ := hr.at_ hj
  rw [ezj] at hcell
  have ai : (i : Int) < (zs.length : Int) := by omega
  have aj : (j : Int) < (zs.length : Int) := by omega
  have HM := hide (show dmade i j zs = (zs.set i (zs[i] - zs[j])).set j (2 * zs[j]) from by unfold dmade; rw [ezi, ezj])
  clear ezi ezj
  go_enter Try.func25, Try.ntmps25
  go_wp2_with fail
  have hb1 : Below w.heap.size w (w.alloc (.cells #[.int .i64 (i : Int), .int .i64 (j : Int)] 38)) := (Below.refl _ _).alloc (Nat.le_refl _) _
  have k0 : (w.alloc (.cells #[.int .i64 (i : Int), .int .i64 (j : Int)] 38)).cell? ⟨w.heap.size, 0, none⟩ = some (.int .i64 (i : Int)) := by simp
  have k1 : (w.alloc (.cells #[.int .i64 (i : Int), .int .i64 (j : Int)] 38)).cell? ⟨w.heap.size, 1, none⟩ = some (.int .i64 (j : Int)) := by simp
  have hs1 : w.heap.size < (w.alloc (.cells #[.int .i64 (i : Int), .int .i64 (j : Int)] 38)).heap.size := by simp
  generalize (w.alloc (.cells #[.int .i64 (i : Int), .int .i64 (j : Int)] 38)) = w1 at *
  have hr1 := hr.below hb1 hB
  refine (l1Own_any _ _ _ _ zs _ hr1 (by omega) (by omega) (by omega)).mono ?_
  rintro e w2 ⟨g, cap2, rfl, hga, hgb, hca, hcb, hown, hb2⟩
  have b0 := (hb2.cell (p := ⟨w.heap.size, 0, none⟩) hs1).trans k0
  have b1 := (hb2.cell (p := ⟨w.heap.size, 1, none⟩) hs1).trans k1
  have hcell2 := ((below_next hb1 hb2).cell (p := ad.add j) (by rw [block_of_add]; omega)).trans hcell
  clear k0 k1 hcell hr1
  have hb02 : Below w.heap.size w w2 := below_next hb1 hb2
  have e1 : w2.cell? ⟨g, i, none⟩ = some (.int .i64 zs[i]) := by
    rw [World.ownsRow.cellAt hown i (by omega)]; simp [hi]
  have f1 : w2.frozen? ⟨g, i, none⟩ = false := World.ownsRow.frozenAt hown i
  have own1 : Own (w2.setCell ⟨g, i, none⟩ (.int .i64 (zs[i] - zs[j]))) w.heap.size 3 (.slice (some ⟨g, 0, none⟩) zs.length cap2) (zs.set i (zs[i] - zs[j])) := Own.stored (hown.less (by omega)) rfl i _
  have e2 : (w2.setCell ⟨g, i, none⟩ (.int .i64 (zs[i] - zs[j]))).cell? ⟨g, j, none⟩ = some (.int .i64 zs[j]) := by
    have h := own1
    unfold Own at h
    rw [List.length_set] at h
    rw [World.ownsRow.cellAt h j (by omega)]; simp [hj, List.getElem_set_ne hij]
  have f2 : (w2.setCell ⟨g, i, none⟩ (.int .i64 (zs[i] - zs[j]))).frozen? ⟨g, j, none⟩ = false := by
    have h := own1
    unfold Own at h
    rw [List.length_set] at h
    exact World.ownsRow.frozenAt h j
  have b1' : (w2.setCell ⟨g, i, none⟩ (.int .i64 (zs[i] - zs[j]))).cell? ⟨w.heap.size, 1, none⟩ = some (.int .i64 (j : Int)) := by
    rw [World.cell?_setCell_other _ _ _ _ (by simp <;> omega)]; exact b1
  have hcell3 : (w2.setCell ⟨g, i, none⟩ (.int .i64 (zs[i] - zs[j]))).cell? (ad.add j) = some (.int .i64 zs[j]) := by
    rw [World.cell?_setCell_other _ _ _ _ (by
      intro e
      have := congrArg Addr.block e
      rw [block_of_add] at this
      simp at this; omega)]; exact hcell2
  go_wp2_with fail
  go_region
  go_wp2_with fail
  go_region
  go_wp2_with fail
  go_ret
  have own2 : Own ((w2.setCell ⟨g, i, none⟩ (.int .i64 (zs[i] - zs[j]))).setCell ⟨g, j, none⟩ (.int .i64 (2 * zs[j]))) w.heap.size 3 (.slice (some ⟨g, 0, none⟩) zs.length cap2) (dmade i j zs) := by
    rw [HM.out]
    exact Own.stored own1 (by rw [List.length_set]) j _
  have hbel : Below w.heap.size w ((w2.setCell ⟨g, i, none⟩ (.int .i64 (zs[i] - zs[j]))).setCell ⟨g, j, none⟩ (.int .i64 (2 * zs[j]))) := (hb02.setCell (show w.heap.size ≤ g by omega) _).setCell (show w.heap.size ≤ g by omega) _
  exact ⟨g, cap2, by rw [dmade_length]; rfl, by omega, by simp; omega, by rw [dmade_length]; exact hca, hcb, by rw [dmade_length]; exact own2.drewN 2, below_drewN hbel 2⟩
end Go.Proofs.Ytnakkmmmkbjfbaa

/-
  MARKS IN A LIST OF STRUCTS OF 2 NUMBERS (impl.Doubling): markDoublingS, heldDoublingS. Printed by structs.py.
-/
namespace Go.Proofs.Ytnakkmmmkbjfbaa
open Go.RowKit Go.Deep
set_option linter.unusedVariables false

/-- Nil, or a row of the call's own of n structs whose cells are the numbers xs. -/
def OwnIDb (w : World) (base : Nat) (v : Value) (n : Nat) (xs : List Int) : Prop := w.ownsRow base 38 2 v n (xs.map (Value.int .i64)) ∧ xs.length = n * 2

section
variable {w w' : World} {base n : Nat} {v : Value} {xs : List Int}
theorem OwnIDb.keep (h : OwnIDb w base v n xs) (hk : ∀ g, base ≤ g → g < w.heap.size → w'.heap[g]? = w.heap[g]?) : OwnIDb w' base v n xs := by
  refine ⟨⟨h.1.1, ?_⟩, h.2⟩
  rcases h.1.2 with h2 | ⟨g, cap, cur, hv, hb, hg, r⟩
  · exact .inl h2
  · obtain ⟨hlt, _⟩ := Array.getElem?_eq_some_iff.1 hg
    exact .inr ⟨g, cap, cur, hv, hb, (hk g hb hlt).trans hg, r⟩
theorem OwnIDb.below (h : OwnIDb w base v n xs) (hb : Below w.heap.size w w') : OwnIDb w' base v n xs := h.keep fun g _ hg => hb.block g hg
theorem OwnIDb.less {base' : Nat} (h : OwnIDb w base v n xs) (hb : base' ≤ base) : OwnIDb w base' v n xs := by
  refine ⟨⟨h.1.1, ?_⟩, h.2⟩
  rcases h.1.2 with h2 | ⟨g, cap, cur, hv, hb', r⟩
  · exact .inl h2
  · exact .inr ⟨g, cap, cur, hv, by omega, r⟩
theorem OwnIDb.form (h : OwnIDb w base v n xs) : (v = .slice none 0 0 ∧ n = 0) ∨ ∃ g c, v = .slice (some ⟨g, 0, none⟩) n c ∧ base ≤ g ∧ g < w.heap.size := by
  rcases h.1.2 with ⟨rfl, h0⟩ | ⟨g, cap, cur, rfl, hb, hg, hn, hm, _⟩
  · exact .inl ⟨rfl, h0⟩
  · refine .inr ⟨g, cap, rfl, hb, ?_⟩
    obtain ⟨hlt, _⟩ := Array.getElem?_eq_some_iff.1 hg
    exact hlt

/-- One more is marked. -/
theorem OwnIDb.mark {g c : Nat} {k0 : Int} {j : Nat} (h : OwnIDb w base (.slice (some ⟨g, 0, none⟩) n c) n (mixed k0 (j * 2) xs)) (hl : xs.length = n * 2) (hj : j < n) {a b : Int}
    (ha : a = k0 + ((j * 2 : Nat) : Int)) (hb : b = k0 + ((j * 2 + 1 : Nat) : Int)) :
    OwnIDb ((w.setCell ⟨g, j * 2, none⟩ (.int .i64 a)).setCell ⟨g, j * 2 + 1, none⟩ (.int .i64 b)) base (.slice (some ⟨g, 0, none⟩) n c) n (mixed k0 ((j + 1) * 2) xs) := by
  subst ha; subst hb
  refine ⟨?_, by rw [mixed_length _ _ _ (by omega)]; exact hl⟩
  have h1 := (World.ownsRow.stored (World.ownsRow.stored h.1 (j * 2) (.int .i64 (k0 + ((j * 2 : Nat) : Int)))).1 (j * 2 + 1) (.int .i64 (k0 + ((j * 2 + 1 : Nat) : Int)))).1
  rw [← List.map_set, mixed_set k0 (j * 2) xs (by omega), ← List.map_set, mixed_set k0 (j * 2 + 1) xs (by omega),
    show j * 2 + 1 + 1 = (j + 1) * 2 from by omega] at h1
  exact h1
theorem OwnIDb.at_ {g c k : Nat} (h : OwnIDb w base (.slice (some ⟨g, 0, none⟩) n c) n xs) (hk : k < n * 2) (hk' : k < xs.length) : w.cell? ⟨g, k, none⟩ = some (.int .i64 xs[k]) := by
  rw [World.ownsRow.cellAt h.1 k hk, List.getElem?_map, List.getElem?_eq_getElem hk', Option.map_some]
end

def numsDb (ms : List Db) : List Int := (List.range (ms.length * 2)).map (numDb ms)
theorem numsDb_length (ms : List Db) : (numsDb ms).length = ms.length * 2 := by simp [numsDb]
theorem OwnIDb.of_row {w : World} {base g : Nat} {ms : List Db} (h : RowDb w g ms) (hb : base ≤ g) (hm : ms.length ≤ maxLen) : OwnIDb w base (.slice (some ⟨g, 0, none⟩) ms.length ms.length) ms.length (numsDb ms) := by
  obtain ⟨cur, h1, h2, h3⟩ := h
  refine ⟨⟨by simp [numsDb], .inr ⟨g, ms.length, cur, rfl, hb, h1, Nat.le_refl _, hm, by omega, ?_⟩⟩, by simp [numsDb]⟩
  apply List.ext_getElem?
  intro i
  by_cases hi : i < ms.length * 2
  · rw [List.getElem?_take, if_pos (by omega), Array.getElem?_toList, h3 i hi, List.getElem?_map]
    simp [numsDb, hi, cellDb]
  · rw [List.getElem?_eq_none (by simp; omega), List.getElem?_eq_none (by simp [numsDb]; omega)]
/-- It reads as ms. -/
theorem OwnIDb.list {w : World} {base n c : Nat} {A : Option Addr} {ms : List Db} (h : OwnIDb w base (.slice A n c) n (numsDb ms)) : Dbs w w.heap.size A n ms := by
  have hl := h.2
  rw [numsDb_length] at hl
  have hn : ms.length = n := by omega
  rcases h.form with ⟨h1, h0⟩ | ⟨g, c', h1, hb, hlt⟩
  · exact ⟨hn, fun h => by omega⟩
  · injection h1 with hA _ _
    subst hA
    refine ⟨hn, fun _ => ⟨g, 0, rfl, hlt, fun i hi => ?_⟩⟩
    have hi' : i < (numsDb ms).length := by rw [numsDb_length]; omega
    rw [Nat.zero_add, World.ownsRow.cellAt h.1 i hi, List.getElem?_map, List.getElem?_eq_getElem hi']
    simp [numsDb, cellDb]

theorem numsDb_get (ms : List Db) (i : Nat) : (numsDb ms)[i]? = if i < ms.length * 2 then some (numDb ms i) else none := by
  unfold numsDb
  rw [List.getElem?_map]
  by_cases h : i < ms.length * 2
  · rw [List.getElem?_range h, if_pos h]; rfl
  · rw [List.getElem?_eq_none (by simpa using h), if_neg h]; rfl
theorem numsDb_cons (d : Db) (ms : List Db) : numsDb (d :: ms) = [d.x0, d.x1] ++ numsDb ms := by
  apply List.ext_getElem?
  intro i
  rw [numsDb_get]
  by_cases hi : i < 2
  · rw [List.getElem?_append_left (by simpa using hi), if_pos (by simp; omega)]
    match i, hi with
    | 0, _ => rfl
    | 1, _ => rfl
  · obtain ⟨j, rfl⟩ : ∃ j, i = j + 2 := ⟨i - 2, by omega⟩
    rw [List.getElem?_append_right (by simp), numsDb_get]
    have e : numDb (d :: ms) (j + 2) = numDb ms j := by
      unfold numDb
      simp [show (j + 2) / 2 = j / 2 + 1 from by omega]
    rw [e]
    simp only [List.length_cons, List.length_nil]
    by_cases h : j < ms.length * 2
    · rw [if_pos (by omega), if_pos (by omega)]; congr 2
    · rw [if_neg (by omega), if_neg (by omega)]
theorem numsDb_append (a b : List Db) : numsDb (a ++ b) = numsDb a ++ numsDb b := by
  induction a with
  | nil => rfl
  | cons d ms ih => rw [List.cons_append, numsDb_cons, numsDb_cons, ih, List.append_assoc]
theorem OwnIDb.nil (w : World) (base : Nat) : OwnIDb w base (.slice none 0 0) 0 (numsDb []) := ⟨World.ownsRow_nil _ _ _ _, rfl⟩
theorem OwnIDb.shape {w : World} {base n : Nat} {v : Value} {xs : List Int} (h : OwnIDb w base v n xs) : ∃ A c, v = .slice A n c := by
  rcases h.form with ⟨rfl, rfl⟩ | ⟨g, c, rfl, _, _⟩
  · exact ⟨_, _, rfl⟩
  · exact ⟨_, _, rfl⟩

/-- 'out = append(out, d)' onto a list of the call's own: d lies in a new block. -/
theorem wpList_app_Db {wr : World} {ops : Array Oper} {rest : List Oper} {o : Oper} {a : Act} {Q : Exit → Act → World → Prop} (hgd : o.guard = none) (s x : Operand) (t : TypeId)
    (ho : o.op = .call { callee := .builtin .append, args := #[s, x], argTypes := #[t, t] }) (ht : Try.prog.underlying t = some (.slice 38))
    (base : Nat) (v : Value) (ms : List Db) (hs : a.eval s = v) (hown : OwnIDb wr base v ms.length (numsDb ms)) (d : Db) (c : Nat) (hx : a.eval x = .slice (some ⟨wr.heap.size, 0, none⟩) 1 c)
    (hbase : base ≤ wr.heap.size) (hlen : ms.length < 1000000)
    (h : ∀ v' w', OwnIDb w' base v' (ms ++ [d]).length (numsDb (ms ++ [d])) → Below base wr w' → wpList Try.prog ops Q rest (a.put o.dst v') w') :
    wpList Try.prog ops Q (o :: rest) a (wr.alloc (.cells #[.int .i64 d.x0, .int .i64 d.x1] 38)) := by
  obtain ⟨i0, hi, hz0, hz1, hz2⟩ := info_parts infoDb
  refine wpList_append_own _ hgd s x t ho base 38 i0 (.agg #[.int .i64 0, .int .i64 0]) 2 16 ht hi hz0 hz1 hz2 rfl (by decide) v ms.length ((numsDb ms).map (Value.int .i64)) hs ((hown.keep fun _ _ hg => Below.heap_alloc _ _ _ hg).1)
    ⟨wr.heap.size, 0, none⟩ 1 c [.int .i64 d.x0, .int .i64 d.x1] hx rfl ?_ ?_ (by unfold maxLen; omega) (by omega) (by simp; omega) ?_
  · intro j u hj
    match j, hj with
    | 0, hj => simp at hj; subst hj; rw [add_head]; simp
    | 1, hj => simp at hj; subst hj; rw [add_head]; simp
  · intro u hu; simp at hu; rcases hu with rfl | rfl <;> rfl
  · intro v' w' h1 h2 _
    refine h v' w' ⟨?_, ?_⟩ ?_
    · rw [numsDb_append, List.length_append, List.map_append, show numsDb [d] = [d.x0, d.x1] from by rw [numsDb_cons]; rfl]
      exact h1
    · rw [numsDb_length]
    · refine (((Below.refl base wr).alloc hbase _).grown h2 (by simp; omega) ?_)
      intro k hk
      exact (World.ownsRow.lt hown.1 k hk).1

/-- A LIST OF STRUCTS BESIDE A BOOL. -/
def MadeRDb (ms : List Db) (b : Bool) (w : World) (e : Ending) (w' : World) : Prop :=
  ∃ A c, e = .returned (.tuple #[.slice A ms.length c, .bool b]) ∧ OwnIDb w' w.heap.size (.slice A ms.length c) ms.length (numsDb ms) ∧ Below w.heap.size w w'
theorem madeRDb_none {w w' : World} (h : Below w.heap.size w w') : MadeRDb [] false w (.returned (.tuple #[.slice none 0 0, .bool false])) w' :=
  ⟨none, 0, rfl, OwnIDb.nil _ _, h⟩

/-- WHAT markDoublingS LEAVES. -/
def MarkedDb (base : Nat) (A : Option Addr) (n c : Nat) (k0 : Int) (w : World) (e : Ending) (w' : World) : Prop :=
  e = .returned (.int .i64 (k0 + 2 * (n : Int))) ∧ OwnIDb w' base (.slice A n c) n (marks k0 (n * 2)) ∧ Below base w w' ∧ ∀ h, h < w.heap.size → (∀ ad, A = some ad → h ≠ ad.block) → w'.heap[h]? = w.heap[h]?

set_option maxRecDepth 1000000 in
theorem markDoublingS_any (base : Nat) (A : Option Addr) (n c : Nat) (xs : List Int) (k0 : Int) (w : World) (hown : OwnIDb w base (.slice A n c) n xs) (hn : n ≤ 1048576) (hk0 : 0 ≤ k0) (hk1 : k0 ≤ 2000000) :
    Calls Try.prog 15 #[.slice A n c, .int .i64 k0] w (MarkedDb base A n c k0 w) := by
  have hl := hown.2
  rcases hown.form with ⟨h1, rfl⟩ | ⟨g, c', h1, hb, hg⟩
  · injection h1 with h1 h2 h3
    subst h1; subst h3
    have hx : xs = [] := List.eq_nil_of_length_eq_zero (by omega)
    subst hx
    go_enter Try.func15, Try.ntmps15
    go_wp2
    refine wp_loop_rounds 1 ?_
    rw [rounds_succ]
    go_wp2
    go_ret
    exact ⟨ret_int (by simp), hown, Below.refl _ _, fun _ _ _ => rfl⟩
  · injection h1 with h1 h2 h3
    subst h1; subst h3
    clear h2
    go_enter Try.func15, Try.ntmps15
    go_wp2
    go_loopw [1, 5] (fun kv i wr => ∃ j : Nat, j ≤ n ∧ i = .int .i64 j ∧ kv = .int .i64 (k0 + 2 * (j : Int)) ∧ OwnIDb wr base (.slice (some ⟨g, 0, none⟩) n c) n (mixed k0 (j * 2) xs) ∧
        Below base w wr ∧ ∀ h, h < w.heap.size → h ≠ g → wr.heap[h]? = w.heap[h]?)
      (fun _ i _ => n - (intOf i).toNat)
    case atStart => exact ⟨0, Nat.zero_le _, rfl, by simp, by rw [Nat.zero_mul, mixed_zero]; exact hown, Below.refl _ _, fun _ _ _ => rfl⟩
    case round =>
      obtain ⟨j, hj, rfl, rfl, ho, hbl, hoth⟩ := hrel
      have HO := hide hoth
      clear hoth
      by_cases hlt : j < n
      · have HL := hide (show (mixed k0 (j * 2) xs).length = n * 2 from by rw [mixed_length k0 (j * 2) xs (by omega)]; exact hl)
        have o0 := ho.at_ (k := j * 2) (by omega) (by rw [HL.out]; omega)
        have o1 := ho.at_ (k := j * 2 + 1) (by omega) (by rw [HL.out]; omega)
        have f0 := World.ownsRow.frozenAt ho.1 (j * 2)
        have f1 := World.ownsRow.frozenAt ho.1 (j * 2 + 1)
        have HS := hide (fun a b => OwnIDb.mark (a := a) (b := b) ho hl hlt)
        go_wp2
        go_roundw
        case rel =>
          refine ⟨j + 1, by omega, by go_num, by go_num, HS.out _ _ (by omega) (by omega), ((hbl.setCell hb _).setCell hb _), fun h hh hne => ?_⟩
          rw [Below.heap_setCell _ _ _ _ hne, Below.heap_setCell _ _ _ _ hne]
          exact HO.out h hh hne
        case measure => simp [intOf]; omega
      · obtain rfl : j = n := by omega
        rw [← hl, mixed_all, hl] at ho
        go_wp2
        go_ret
        exact ⟨rfl, ho, hbl, fun h hh hne => HO.out h hh (fun e => hne _ rfl e)⟩

set_option maxRecDepth 1000000 in
/-- The marks are there. -/
theorem heldDoublingS_any (base : Nat) (A : Option Addr) (n c : Nat) (k0 : Int) (w : World) (hown : OwnIDb w base (.slice A n c) n (marks k0 (n * 2))) (hn : n ≤ 1048576) (hk0 : 0 ≤ k0) (hk1 : k0 ≤ 2000000) :
    Calls Try.prog 16 #[.slice A n c, .int .i64 k0] w fun e w' => e = .returned (.int .i64 (k0 + 2 * (n : Int))) ∧ Below w.heap.size w w' := by
  have hl := hown.2
  rcases hown.form with ⟨h1, rfl⟩ | ⟨g, c', h1, hb, hg⟩
  · injection h1 with h1 h2 h3
    subst h1; subst h3
    go_enter Try.func16, Try.ntmps16
    go_wp2
    refine wp_loop_rounds 1 ?_
    rw [rounds_succ]
    go_wp2
    go_ret
    exact ⟨ret_int (by simp), Below.refl _ _⟩
  · injection h1 with h1 h2 h3
    subst h1; subst h3
    clear h2
    go_enter Try.func16, Try.ntmps16
    go_wp2
    go_loopw [1, 5] (fun kv i wr => ∃ j : Nat, j ≤ n ∧ i = .int .i64 j ∧ kv = .int .i64 (k0 + 2 * (j : Int)) ∧ Below w.heap.size w wr)
      (fun _ i _ => n - (intOf i).toNat)
    case atStart => exact ⟨0, Nat.zero_le _, rfl, by simp, Below.refl _ _⟩
    case round =>
      obtain ⟨j, hj, rfl, rfl, hbl⟩ := hrel
      by_cases hlt : j < n
      · have ho := hown.below hbl
        have o0 := ho.at_ (k := j * 2) (by omega) (by rw [marks_length]; omega)
        have o1 := ho.at_ (k := j * 2 + 1) (by omega) (by rw [marks_length]; omega)
        rw [marks_get k0 (n * 2) _ (by omega), show k0 + ((j * 2 : Nat) : Int) = k0 + 2 * (j : Int) from by omega] at o0
        rw [marks_get k0 (n * 2) _ (by omega), show k0 + ((j * 2 + 1 : Nat) : Int) = k0 + 2 * (j : Int) + 1 from by omega] at o1
        go_wp2
        go_roundw
        case rel => exact ⟨j + 1, by omega, by go_num, by go_num, hbl⟩
        case measure => simp [intOf]; omega
      · obtain rfl : j = n := by omega
        go_wp2
        go_ret
        exact ⟨rfl, hbl⟩
end Go.Proofs.Ytnakkmmmkbjfbaa
