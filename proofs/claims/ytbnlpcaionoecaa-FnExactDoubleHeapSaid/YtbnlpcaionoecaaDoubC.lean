
/-
  ONE DOUBLING, BOTH WAYS: DoubleHeap.
-/
import Derived.Test.YtbnlpcaionoecaaDoubB
namespace Go.Proofs.Ytbnlpcaionoecaa
open Go.RowKit Go.Deep
set_option linter.unusedVariables false

theorem specDoubleHeap_any (A : Option Addr) (n c B : Nat) (zs : List Int) (m : Db) (w : World) (hr : Ints w B A n zs) (hB : B ≤ w.heap.size) (hn : n ≤ 17592186044416) :
    Calls Try.prog 5 #[.slice A n c, .agg #[.int .i64 m.x0, .int .i64 m.x1]] w (MadeR (dplayL zs [m]) (dplayOk zs [m]) w) := by
  obtain rfl := hr.len
  have HG := hide (fun W (h : Ints W B A zs.length zs) => dbGood_any A zs.length c B zs W h hn)
  have hro : ∀ o, Ints (w.alloc o) B A zs.length zs := fun o => hr.alloc hB o
  cases hf : few zs
  · have H := hide (dplayOk_bad (ds := [m]) hf)
    rw [hf] at HG
    rw [dplayL_no H.out, H.out]
    clear hf
    go_enter Try.func5, Try.ntmps5
    go_wp2_with fail
    refine (HG.out _ (hro _)).mono ?_; rintro e w' ⟨rfl, rfl⟩
    go_wp2_with fail
    go_ret2
    exact madeR_none ((Below.refl _ _).alloc (Nat.le_refl _) _)
  · have hs := few_small hf
    have HF := hide hf
    rw [dplayL_one hf, dplayOk_one hf]
    rw [hf] at HG
    have hl1 : 1 ≤ zs.length := by omega
    have hl4 : zs.length ≤ 4 := by omega
    have HSm := hide hs.1
    have HC := hide (fun W (h : Ints W B A zs.length zs) (h' : B ≤ W.heap.size) => dbCan_any A zs.length c B zs m.x0 m.x1 W h h' hl1 (by omega))
    clear hf hs
    cases hcan : canD zs m.x0 m.x1
    · rw [hcan] at HC
      clear hcan
      go_enter Try.func5, Try.ntmps5
      go_wp2_with fail
      refine (HG.out _ (hro _)).mono ?_; rintro e w' ⟨rfl, rfl⟩
      go_wp2_with fail
      refine (HC.out _ (hro _) (by simp; omega)).mono ?_; rintro e w2 ⟨rfl, hb2⟩
      go_wp2_with fail
      go_ret2
      exact madeR_none (below_next ((Below.refl _ _).alloc (Nat.le_refl _) _) hb2)
    · obtain ⟨i, j, e0, e1, hi, hj, hij, hz, hle⟩ := canD_ix hcan
      rw [hcan] at HC
      obtain ⟨mf, mt⟩ := m
      simp only at e0 e1 HC ⊢
      subst e0 e1
      simp only [Int.toNat_natCast, if_true]
      have HM := hide (fun W (h : Ints W B A zs.length zs) (h' : B ≤ W.heap.size) => dbMake_any A zs.length c B zs i j W h h' (by omega) HSm.out hi hj hij (by rw [getD_get hi, getD_get hj]; exact hle))
      clear hcan hz hle
      go_enter Try.func5, Try.ntmps5
      go_wp2_with fail
      refine (HG.out _ (hro _)).mono ?_; rintro e w' ⟨rfl, rfl⟩
      go_wp2_with fail
      have hA : Below w.heap.size w (w.alloc (.cells #[.int .i64 (i : Int), .int .i64 (j : Int)] 28)) := (Below.refl _ _).alloc (Nat.le_refl _) _
      have k0 : (w.alloc (.cells #[.int .i64 (i : Int), .int .i64 (j : Int)] 28)).cell? ⟨w.heap.size, 0, none⟩ = some (.int .i64 (i : Int)) := by simp
      have k1 : (w.alloc (.cells #[.int .i64 (i : Int), .int .i64 (j : Int)] 28)).cell? ⟨w.heap.size, 1, none⟩ = some (.int .i64 (j : Int)) := by simp
      have z0 : w.heap.size < (w.alloc (.cells #[.int .i64 (i : Int), .int .i64 (j : Int)] 28)).heap.size := by simp
      have hI0 := hro (.cells #[.int .i64 (i : Int), .int .i64 (j : Int)] 28)
      clear hro
      generalize (w.alloc (.cells #[.int .i64 (i : Int), .int .i64 (j : Int)] 28)) = W0 at *
      refine (HC.out _ hI0 (by omega)).mono ?_; rintro e w2 ⟨rfl, hb2⟩
      have q0 := (hb2.cell (p := ⟨w.heap.size, 0, none⟩) z0).trans k0
      have q1 := (hb2.cell (p := ⟨w.heap.size, 1, none⟩) z0).trans k1
      have s2 := hb2.size
      have hI2 := hI0.below hb2 (by omega)
      clear k0 k1
      go_wp2_with fail
      refine (HM.out _ hI2 (by omega)).mono ?_; rintro e w5 ⟨g5, c5, rfl, hg5, hz5, hc5, hm5, hown5, hb5⟩
      go_wp2_with fail
      go_ret2
      exact ⟨_, c5, rfl, hc5, hm5, hown5.less (by omega), below_next (below_next hA hb2) hb5⟩

theorem one_dbs (W : World) (T : TypeId) (m : Db) : Dbs (W.alloc (.cells #[.int .i64 m.x0, .int .i64 m.x1] T)) (W.heap.size + 1) (some ⟨W.heap.size, 0, none⟩) 1 [m] := by
  refine ⟨rfl, fun _ => ⟨W.heap.size, 0, rfl, by omega, fun i hi => ?_⟩⟩
  match i, hi with
  | 0, _ => rw [show cellDb [m] 0 = .int .i64 m.x0 from rfl]; simp
  | 1, _ => rw [show cellDb [m] 1 = .int .i64 m.x1 from rfl]; simp

theorem DoubleHeap_any (A : Option Addr) (n c B : Nat) (zs : List Int) (m : Db) (w : World) (hr : Ints w B A n zs) (hB : B ≤ w.heap.size) (hn : n ≤ 17592186044416) :
    Calls Try.prog 8 #[.slice A n c, .agg #[.int .i64 m.x0, .int .i64 m.x1]] w (MadeR (dplayL zs [m]) (dplayOk zs [m]) w) := by
  obtain rfl := hr.len
  go_enter Try.func8, Try.ntmps8
  go_wp2_with fail
  have hmv := one_dbs (w.alloc (.cells #[.int .i64 m.x0, .int .i64 m.x1] 28)) 28 m
  rw [show (w.alloc (.cells #[.int .i64 m.x0, .int .i64 m.x1] 28)).heap.size = w.heap.size + 1 from by simp] at hmv
  refine (PlayDoublings_any _ _ _ _ _ _ _ _ zs [m] _ (((hr.alloc hB _).alloc (by simp; omega) _)) (by simp; omega) hn hmv (by simp) (by omega)).mono ?_
  rintro e w3 ⟨A3, c3, rfl, h31, h32, hown3, hb3⟩
  go_wp2_with fail
  go_ret2
  exact madeR_below (((Below.refl _ _).alloc (Nat.le_refl _) _).alloc (by simp) _) ⟨A3, c3, rfl, h31, h32, hown3, hb3⟩
end Go.Proofs.Ytbnlpcaionoecaa
