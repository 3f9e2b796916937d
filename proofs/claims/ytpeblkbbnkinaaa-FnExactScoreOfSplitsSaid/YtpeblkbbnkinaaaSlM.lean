
/-
  A SPLIT THAT IS MADE: the model's slMake, the program's behind.
-/
import Derived.Test.YtpeblkbbnkinaaaSlB
import Derived.Deep.RegionLaw
namespace Go.Proofs.Ytpeblkbbnkinaaa
open Go.RowKit Go.Deep
set_option linter.unusedVariables false

theorem one_ints (w : World) (p : Int) (t : TypeId) : Ints (w.alloc (.cells #[.int .i64 p] t)) (w.heap.size + 1) (some ⟨w.heap.size, 0, none⟩) 1 [p] :=
  ⟨rfl, fun _ => ⟨_, rfl, Nat.lt_succ_self _, fun k hk => by
    obtain rfl : k = 0 := by omega
    simp [Addr.add]⟩⟩
theorem smade_set (k : Nat) (p : Int) (zs : List Int) (hk : k < zs.length) : smade k p zs = (zs ++ [p]).set k (zs[k] - p) := by
  unfold smade; rw [show zs.getD k 0 = zs[k] from by simp [List.getD, hk]]

set_option maxHeartbeats 1000000 in
/-- The model's slMake, a split that can be made. -/
theorem slMake_yes (r : Int) (A : Option Addr) (n c B : Nat) (zs : List Int) (k : Nat) (p : Int) (w : World) (hr : Ints w B A n zs) (hB : B ≤ w.heap.size) (hn : n ≤ 1000) (hrule : srule r = true) (hz : within 1 60 zs = true)
    (hm : smay r zs (k : Int) p = true) :
    Calls Try.prog 33 #[.int .i64 r, .slice A n c, .agg #[.int .i64 (k : Int), .int .i64 p]] w (SMade (smade k p zs) w) := by
  obtain rfl := hr.len
  have hi := smay_of hm
  have hk : k < zs.length := by omega
  have hn1 : (zs.length : Int) - 1 = ((zs.length - 1 : Nat) : Int) := by omega
  have HI := hide (fun W => l1In_any (k : Int) 0 ((zs.length - 1 : Nat) : Int) W)
  have hwr : IntKind.i64.wrap ((zs.length - 1 : Nat) : Int) = ((zs.length - 1 : Nat) : Int) := wrap_ok (by omega) (by omega)
  rw [show decide ((0 : Int) ≤ (k : Int) ∧ (k : Int) ≤ ((zs.length - 1 : Nat) : Int)) = true from decide_eq_true (by omega)] at HI
  obtain ⟨ad, rfl, hab, hcell⟩ := hr.at_ hk
  have hzk := within_get hz k hk
  have e : zs.getD k 0 = zs[k] := by simp [List.getD, hk]
  have hsc := hi.2.2
  rw [Int.toNat_natCast, e] at hsc
  have hp := scan_of hsc
  have HP := hide (fun W => slCan_any r zs[k] p hrule hzk.1 hzk.2 W)
  rw [hsc] at HP
  rw [e] at hcell
  have HM := hide (smade_set k p zs hk)
  have HL := hide (smade_length k p zs)
  have HGet := hide (show ((zs ++ [p]).map (Value.int .i64))[k]? = some (.int .i64 zs[k]) from by rw [List.getElem?_map, List.getElem?_append_left hk, List.getElem?_eq_getElem hk]; rfl)
  clear e hz hm hsc hrule hi
  have hki : (k : Int) < (zs.length : Int) := by omega
  have hp1 := hp.1
  have hp2 := hp.2.1
  clear hp
  have hA : Below w.heap.size w (w.alloc (.cells #[.int .i64 (k : Int), .int .i64 p] 33)) := (Below.refl _ _).alloc (Nat.le_refl _) _
  have X1 : Bx (w.alloc (.cells #[.int .i64 (k : Int), .int .i64 p] 33)) w.heap.size 33 (.int .i64 (k : Int)) (.int .i64 p) := Bx.new _ _ _ _
  have hcw : (w.alloc (.cells #[.int .i64 (k : Int), .int .i64 p] 33)).cell? (ad.add k) = some (.int .i64 zs[k]) := by
    rw [World.cell?_alloc_lt w _ (ad.add k) (by rw [block_of_add]; omega)]; exact hcell
  have hr0 := hr.alloc hB (.cells #[.int .i64 (k : Int), .int .i64 p] 33)
  go_enter Try.func33, Try.ntmps33
  go_wp2_with fail
  generalize (w.alloc (.cells #[.int .i64 (k : Int), .int .i64 p] 33)) = W0 at *
  have d0 := X1.c0
  have d1 := X1.c1
  go_quiet ((first | (go_at_call 29; with_reducible exact quiet_left (HI.out _)) | (go_at_call 42; with_reducible exact quiet_left (HP.out _))))
  go_wp2_with fail
  have hA1 := below_drewN hA nq
  have X2 := X1.drewN nq
  have hr1 : Ints (W0.drewN nq) B (some ad) zs.length zs := hr0
  clear d0 d1 hcw hA X1 hr0 hcell HI HP hwr hn1
  generalize W0.drewN nq = W1 at *
  have s1 := hA1.size
  obtain ⟨bx, hbx⟩ : ∃ bx, bx = w.heap.size := ⟨_, rfl⟩
  have HBX := hide hbx
  rw [← hbx] at X2 hA1 s1 hB ⊢
  clear hbx
  have HS : Hid (∀ W', Below W1.heap.size W1 W' → (Below W1.heap.size W1 W' ∧ W'.cell? ⟨bx, 1, none⟩ = some (.int .i64 p))) := hide (fun W' h => ⟨h, (X2.next h).c1⟩)
  have HOw := hide (fun W (h : Below W1.heap.size W1 W) => l1Own_any (some ad) zs.length c B zs W (hr1.below h (by omega)) (by have := h.size; omega) (by omega) (by omega))
  go_region_held3 (fun W => Below W1.heap.size W1 W ∧ W.cell? ⟨bx, 1, none⟩ = some (.int .i64 p))
    (first | exact HS.out _ (Below.refl _ _).drew | exact HS.out _ (Below.trans (And.left (by assumption)) (hb'.mono (by first | exact Nat.le_refl _ | (simp; done)))) | exact HS.out _ (Below.trans (And.left (by assumption)) (hb2.mono (by first | exact Nat.le_refl _ | (simp; done)))) | exact HS.out _ (Below.alloc (And.left (by assumption)) (Below.size (And.left (by assumption))) _) | go_keep)
    (first
    | (go_at_call 43; (with_reducible refine (HOw.out _ (And.left (by assumption))).mono ?_); rintro e w2 ⟨g, c2, rfl, hga, hgb, hca, hcb, hown, hb2⟩)
    | (refine step_app_ints rfl _ _ 22 3 rfl Try.underlying22 infoInt _ _ zs rfl (hown.alloc _) _ 1 _ _ [p] rfl (one_ints w2 p _) ?_ (by omega) ?_; (have := hb2.size; simp at this ⊢; omega); intro v' w' hown' hb')
    | (refine step_app_ints rfl _ _ 22 3 rfl Try.underlying22 infoInt _ _ zs rfl hown _ 1 _ _ [p] rfl ((one_ints W1 p _).drew.below hb2 ?_) ?_ (by omega) ?_; (simp); (exact hb2.size); intro v' w' hown' hb'))
  all_goals
    have FB : Below W1.heap.size W1 w' := And.left (by assumption : Below W1.heap.size W1 w' ∧ w'.cell? ⟨bx, 1, none⟩ = some (.int .i64 p))
    have FO : Own w' w.heap.size 3 v' (zs ++ [p]) := hown'.less (by have := HBX.out; simp <;> omega)
    clear hown' hb' hown hb2 hga hgb hca hcb HS HOw
    rcases FO.form with ⟨_, hbad⟩ | ⟨g', c', rfl, hg1, hg2, hc1, hc2⟩
    · simp at hbad
    have X3 := X2.next FB
    have d0 := X3.c0
    have d1 := X3.c1
    have e1 : w'.cell? ⟨g', k, none⟩ = some (.int .i64 zs[k]) := by
      rw [World.ownsRow.cellAt FO k (by simp; omega)]; exact (HGet.out).trans rfl
    have f1 : w'.frozen? ⟨g', k, none⟩ = false := World.ownsRow.frozenAt FO k
    have own2 := Own.stored FO rfl k (zs[k] - p)
    rw [← HM.out] at own2
    rw [List.length_append, List.length_singleton] at own2 hc1 ⊢
    have FG := (hA1.trans (FB.mono s1)).setCell (p := ⟨g', k, none⟩) (by have := HBX.out; simp; omega) (.int .i64 (zs[k] - p))
    have hki2 : (k : Int) < ((zs.length + 1 : Nat) : Int) := by omega
    clear X3 FO hr1
    have HG := hide (And.intro hg1 (And.intro hg2 (And.intro hc1 (And.intro hc2 (And.intro own2 FG)))))
    clear hg1 hg2 hc1 hc2 own2 FG
    go_wp2_with fail
    go_region
    go_wp2_with fail
    go_ret2
    obtain ⟨hg1, hg2, hc1, hc2, own2, FG⟩ := HG.out
    have := HBX.out
    subst this
    exact ⟨g', c', by rw [HL.out]; rfl, hg1, by simpa using hg2, by rw [HL.out]; exact hc1, hc2, by rw [HL.out]; exact own2.drewN _, below_drewN FG _⟩

/-- WHAT IS LEFT BEHIND A SPLIT BY THE PROGRAM: a game with heaps of the call's own. -/
def GMade (r : Int) (zs : List Int) (w : World) (e : Ending) (w' : World) : Prop :=
  ∃ g c, e = .returned (.agg #[.int .i64 r, .slice (some ⟨g, 0, none⟩) zs.length c]) ∧ w.heap.size ≤ g ∧ g < w'.heap.size ∧ zs.length ≤ c ∧ c ≤ maxLen ∧ Own w' w.heap.size 3 (.slice (some ⟨g, 0, none⟩) zs.length c) zs ∧ Below w.heap.size w w'

set_option maxHeartbeats 2000000 in
/-- The program's behind. -/
theorem behind_any (r : Int) (A : Option Addr) (n c B : Nat) (zs : List Int) (k : Nat) (p : Int) (w : World) (hr : Ints w B A n zs) (hB : B ≤ w.heap.size) (hn : n ≤ 1000) (hz : within 1 60 zs = true) (hk : k < n) (hp1 : 1 ≤ p) (hp2 : p ≤ 60) :
    Calls Try.prog 37 #[.agg #[.int .i64 r, .slice A n c], .agg #[.int .i64 (k : Int), .int .i64 p]] w (GMade r (smade k p zs) w) := by
  obtain rfl := hr.len
  have hzk := within_get hz k hk
  have HM := hide (smade_set k p zs hk)
  have HL := hide (smade_length k p zs)
  have hki : (k : Int) < (zs.length : Int) := by omega
  have HGet := hide (show ((zs ++ [p]).map (Value.int .i64))[k]? = some (.int .i64 zs[k]) from by rw [List.getElem?_map, List.getElem?_append_left hk, List.getElem?_eq_getElem hk]; rfl)
  clear hz
  have hA : Below w.heap.size w (((w.alloc (.cells #[.int .i64 r, .slice A zs.length c] 54)).alloc (.cells #[.int .i64 (k : Int), .int .i64 p] 33)).alloc (.cells #[.int .i64 0, .slice none 0 0] 54)) := (((Below.refl _ _).alloc (Nat.le_refl _) _).alloc (by simp) _).alloc (by simp; omega) _
  have X0 : Bx (((w.alloc (.cells #[.int .i64 r, .slice A zs.length c] 54)).alloc (.cells #[.int .i64 (k : Int), .int .i64 p] 33)).alloc (.cells #[.int .i64 0, .slice none 0 0] 54)) w.heap.size 54 (.int .i64 r) (.slice A zs.length c) := ((Bx.new w _ _ _).alloc _).alloc _
  have X1 : Bx (((w.alloc (.cells #[.int .i64 r, .slice A zs.length c] 54)).alloc (.cells #[.int .i64 (k : Int), .int .i64 p] 33)).alloc (.cells #[.int .i64 0, .slice none 0 0] 54)) (w.heap.size + 1) 33 (.int .i64 (k : Int)) (.int .i64 p) := by
    have := (Bx.new (w.alloc (.cells #[.int .i64 r, .slice A zs.length c] 54)) 33 (.int .i64 (k : Int)) (.int .i64 p)).alloc (.cells #[.int .i64 0, .slice none 0 0] 54)
    simpa using this
  have X2 : Bx (((w.alloc (.cells #[.int .i64 r, .slice A zs.length c] 54)).alloc (.cells #[.int .i64 (k : Int), .int .i64 p] 33)).alloc (.cells #[.int .i64 0, .slice none 0 0] 54)) (w.heap.size + 2) 54 (.int .i64 0) (.slice none 0 0) := by
    have := (Bx.new ((w.alloc (.cells #[.int .i64 r, .slice A zs.length c] 54)).alloc (.cells #[.int .i64 (k : Int), .int .i64 p] 33)) 54 (.int .i64 0) (.slice none 0 0))
    simpa using this
  have hr0 := ((hr.alloc hB (.cells #[.int .i64 r, .slice A zs.length c] 54)).alloc (by simp; omega) (.cells #[.int .i64 (k : Int), .int .i64 p] 33)).alloc (by simp; omega) (.cells #[.int .i64 0, .slice none 0 0] 54)
  go_enter Try.func37, Try.ntmps37
  go_wp2_with fail
  generalize (((w.alloc (.cells #[.int .i64 r, .slice A zs.length c] 54)).alloc (.cells #[.int .i64 (k : Int), .int .i64 p] 33)).alloc (.cells #[.int .i64 0, .slice none 0 0] 54)) = W0 at *
  obtain ⟨b0, hb0⟩ : ∃ b0, b0 = w.heap.size := ⟨_, rfl⟩
  obtain ⟨b1, hb1⟩ : ∃ b1, b1 = w.heap.size + 1 := ⟨_, rfl⟩
  obtain ⟨b2, hb2⟩ : ∃ b2, b2 = w.heap.size + 2 := ⟨_, rfl⟩
  rw [← hb2] at X2 ⊢
  rw [← hb1] at X1 ⊢
  have HBX := hide (And.intro hb0 (And.intro hb1 hb2))
  rw [← hb0] at X0 hA hB ⊢
  have hb01 : b0 < b1 := by omega
  have hb12 : b1 < b2 := by omega
  clear hb0 hb1 hb2 hr
  have z0 := X0.lt
  have z1 := X1.lt
  have z2 := X2.lt
  have c1 := X0.c1
  have d1 := X1.c1
  have HCl := hide (fun W (h : Ints W B A zs.length zs) (hB : B ≤ W.heap.size) => Clone_any A zs.length c B zs W h hB (by omega) (by omega))
  go_region_law (first
    | (refine step_app_ints rfl _ _ 22 3 rfl Try.underlying22 infoInt _ _ zs rfl (hown.alloc _) _ 1 _ _ [p] rfl (one_ints w2 p _) ?_ (by omega) ?_; (have := hbw.size; simp at this ⊢; omega); intro v' w' hown' hb'; obtain ⟨A', c', rfl, hc1, hc2⟩ := hown'.shape; have FB : Below W0.heap.size W0 w' := (by first | exact Below.trans (Below.alloc (Below.trans (Below.refl _ _).drew hbw) hbw.size _) hb' | exact Below.trans (Below.alloc (Below.trans (Below.refl _ _).drew.drew hbw) hbw.size _).drew hb' | exact Below.trans (Below.alloc (Below.trans (Below.refl _ _).drew hbw) hbw.size _).drew hb'); have q0 := X0.next FB; have q3 := q0.c1; have q4 := q0.f 1)
    | (refine step_app_ints rfl _ _ 22 3 rfl Try.underlying22 infoInt _ _ zs rfl hown _ 1 _ _ [p] rfl ((one_ints W0 p _).drew.below hbw ?_) ?_ (by omega) ?_; (simp); (exact hbw.size); intro v' w' hown' hb'; obtain ⟨A', c', rfl, hc1, hc2⟩ := hown'.shape; have FB : Below W0.heap.size W0 w' := (by first | exact Below.trans ((Below.refl _ _).alloc (Nat.le_refl _) _).drew ((hbw.trans hb').mono (by simp)) | exact Below.trans ((Below.refl _ _).alloc (Nat.le_refl _) _).drew.drew ((hbw.trans hb').mono (by simp))); have q0 := X0.next FB; have q3 := q0.c1; have q4 := q0.f 1)
    | (go_simp; go_at_call 38; (with_reducible refine (HCl.out _ ?_ ?_).mono ?_); (first | exact hr0 | exact hr0.alloc (by omega) _); (first | omega | (simp; omega)); rintro e w2 ⟨g, c2, rfl, hga, hgb, hca, hcb, hown, hbw⟩; (have q1 : Bx w2 b1 33 (.int .i64 (k : Int)) (.int .i64 p) := by unfold Bx; rw [hbw.block _ (by first | exact z1 | (simp; omega))]; first | exact X1 | exact X1.alloc _); have q2 := q1.c1; go_wp2_with fail))
  all_goals
    have FO : Own w' W0.heap.size 3 (.slice A' (zs ++ [p]).length c') (zs ++ [p]) := hown'.less (by simp <;> omega)
    clear hown' hb' hown hbw hga hgb hca hcb HCl q0 q1 q2 q3 q4 c1 d1
    obtain ⟨g', rfl, hg1, hg2⟩ := FO.head (by simp)
    have Y0 := (X0.next FB).set1 (.slice (some ⟨g', 0, none⟩) (zs ++ [p]).length c')
    have Y1 := (X1.next FB).setOther (a := ⟨b0, 1, none⟩) (by simp; omega) (.slice (some ⟨g', 0, none⟩) (zs ++ [p]).length c')
    have Y2 := (X2.next FB).setOther (a := ⟨b0, 1, none⟩) (by simp; omega) (.slice (some ⟨g', 0, none⟩) (zs ++ [p]).length c')
    have FO2 : Own (w'.setCell ⟨b0, 1, none⟩ (.slice (some ⟨g', 0, none⟩) (zs ++ [p]).length c')) W0.heap.size 3 (.slice (some ⟨g', 0, none⟩) (zs ++ [p]).length c') (zs ++ [p]) := FO.keep fun h hh _ => Below.heap_setCell _ _ _ _ (by simp; omega)
    have FB2 : Below b0 w (w'.setCell ⟨b0, 1, none⟩ (.slice (some ⟨g', 0, none⟩) (zs ++ [p]).length c')) := (hA.trans (FB.mono (by omega))).setCell (Nat.le_refl _) _
    have hg3 : g' < (w'.setCell ⟨b0, 1, none⟩ (.slice (some ⟨g', 0, none⟩) (zs ++ [p]).length c')).heap.size := by simpa using hg2
    clear FB FO hg2 X0 X1 X2 hr0
    rw [List.length_append, List.length_singleton] at Y0 Y1 Y2 FO2 FB2 hg3 hc1
    generalize (w'.setCell ⟨b0, 1, none⟩ (.slice (some ⟨g', 0, none⟩) (zs.length + 1) c')) = W3 at *
    have l0 := Y0.c1
    have l1 := Y1.c0
    have l2 := Y1.c1
    have FO3 := FO2
    unfold Own at FO3
    rw [List.length_append, List.length_singleton] at FO3
    have e1 : W3.cell? ⟨g', k, none⟩ = some (.int .i64 zs[k]) := by
      rw [World.ownsRow.cellAt FO3 k (by omega)]; exact HGet.out
    have f1 : W3.frozen? ⟨g', k, none⟩ = false := World.ownsRow.frozenAt FO3 k
    clear FO3
    have own2 := Own.stored FO2 (by simp) k (zs[k] - p)
    rw [← HM.out] at own2
    have FG := FB2.setCell (p := ⟨g', k, none⟩) (by simp; omega) (.int .i64 (zs[k] - p))
    have Z0 := Y0.setOther (a := ⟨g', k, none⟩) (by simp; omega) (.int .i64 (zs[k] - p))
    have Z2 := Y2.setOther (a := ⟨g', k, none⟩) (by simp; omega) (.int .i64 (zs[k] - p))
    have m0 := Z0.c0
    have m1 := Z0.c1
    have n0 := Z2.c0
    have n1 := Z2.c1
    have p0 := Z2.f 0
    have p1 := Z2.f 1
    have V2 := (Z2.set0 (.int .i64 r)).set1 (.slice (some ⟨g', 0, none⟩) (zs.length + 1) c')
    have r0 := V2.c0
    have r1 := V2.c1
    have hki2 : (k : Int) < ((zs.length + 1 : Nat) : Int) := by omega
    clear FO2 Y0 Y1 Y2 Z0 Z2 FB2 V2
    have HG := hide (And.intro hg1 (And.intro hg3 (And.intro hc1 (And.intro hc2 (And.intro own2 FG)))))
    clear hg3 hc1 hc2 own2 FG
    go_wp2_with fail
    go_region
    go_wp2_with fail
    obtain ⟨hg1, hg3, hc1, hc2, own2, FG⟩ := HG.out
    refine bodyPost_ret (v := .agg #[.int .i64 r, .slice (some ⟨g', 0, none⟩) (zs.length + 1) c']) (by simp [results, Try.results37, go_sem, r0, r1]) rfl ?_
    have hW0 : b0 ≤ W0.heap.size := by omega
    have HB := HBX.out.1
    subst HB
    exact ⟨g', c', by rw [HL.out], by omega, by simpa using hg3, by rw [HL.out]; exact hc1, hc2, by
      rw [HL.out]
      exact ((((own2.drewN _).keep fun h hh _ => (Below.heap_setCell _ _ _ _ (by simp <;> omega)).trans (Below.heap_setCell _ _ _ _ (by simp <;> omega))).less hW0)), ((below_drewN FG _).setCell (by simp <;> omega) _).setCell (by simp <;> omega) _⟩
end Go.Proofs.Ytpeblkbbnkinaaa
