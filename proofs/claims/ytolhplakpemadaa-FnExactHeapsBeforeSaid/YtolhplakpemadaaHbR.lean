
/-
  A DOUBLING TAKEN BACK, THE PROGRAM's WAY: halved; rows compared.
-/
import Derived.Test.YtolhplakpemadaaHbP
import Derived.Test.YtolhplakpemadaaRow
import Derived.ChangeKeysEq
import Derived.Deep.Cut
namespace Go.Proofs.Ytolhplakpemadaa
open Go.RowKit Go.Deep
set_option linter.unusedVariables false

/-- Half of heap t, none behind the last one. -/
def halfOf (zs : List Int) (t : Nat) : Int := if t < zs.length then zs.getD t 0 / 2 else 0
def half4 (zs : List Int) (f t : Nat) : List Int := (List.range 4).map fun k => if k = t then halfOf zs t else if k = f then pd zs f + halfOf zs t else pd zs k
theorem half4_length (zs : List Int) (f t : Nat) : (half4 zs f t).length = 4 := by simp [half4]
theorem half4_pd (zs : List Int) (f t k : Nat) (hk : k < 4) : pd (half4 zs f t) k = if k = t then halfOf zs t else if k = f then pd zs f + halfOf zs t else pd zs k := by
  rw [pd_lt (by rw [half4_length]; exact hk)]
  simp [half4]

theorem halved_any (zs : List Int) (f t : Nat) (w : World) (hs : small zs) (hn : zs.length ≤ 4) (hf : f < 4) (ht : t < 4) (hft : f ≠ t) :
    Calls Try.prog 19 #[.agg #[.int .i64 (pd zs 0), .int .i64 (pd zs 1), .int .i64 (pd zs 2), .int .i64 (pd zs 3)], .agg #[.int .i64 (f : Int), .int .i64 (t : Int)]] w fun e w' => e = .returned (.agg #[.int .i64 (pd (half4 zs f t) 0), .int .i64 (pd (half4 zs f t) 1), .int .i64 (pd (half4 zs f t) 2), .int .i64 (pd (half4 zs f t) 3)]) ∧ Below w.heap.size w w' := by
  have hfi : (f : Int) < 4 := by omega
  have hti : (t : Int) < 4 := by omega
  have HP := hide (fun k (hk : k < 4) => half4_pd zs f t k hk)
  have hpf : -1 ≤ pd zs f ∧ pd zs f ≤ 40 := by
    by_cases h : f < zs.length
    · rw [pd_lt h]; have := small_get hs f h; omega
    · rw [pd_ge (by omega)]; omega
  have hpt : (0 ≤ pd zs t ∧ pd zs t ≤ 40 ∧ halfOf zs t = pd zs t / 2) ∨ (pd zs t = -1 ∧ halfOf zs t = 0) := by
    by_cases h : t < zs.length
    · left
      rw [pd_lt h]; have := small_get hs t h
      exact ⟨this.1, this.2, by unfold halfOf; rw [if_pos h, getD_get h]⟩
    · right
      exact ⟨pd_ge (by omega), by unfold halfOf; rw [if_neg h]⟩
  have hq0 : 0 ≤ halfOf zs t ∧ halfOf zs t ≤ 20 := by rcases hpt with h | h <;> omega
  have HH := hide hpt
  clear hpt
  go_enter Try.func19, Try.ntmps19
  go_upto_region 1 with fail
  have hA : Below w.heap.size w (((w.alloc (.cells #[.int .i64 (pd zs 0), .int .i64 (pd zs 1), .int .i64 (pd zs 2), .int .i64 (pd zs 3)] 33)).alloc (.cells #[.int .i64 (f : Int), .int .i64 (t : Int)] 38)).alloc (.cells #[.int .i64 0, .int .i64 0, .int .i64 0, .int .i64 0] 33)) := (((Below.refl _ _).alloc (Nat.le_refl _) _).alloc (by simp) _).alloc (by simp; omega) _
  have d0 : (((w.alloc (.cells #[.int .i64 (pd zs 0), .int .i64 (pd zs 1), .int .i64 (pd zs 2), .int .i64 (pd zs 3)] 33)).alloc (.cells #[.int .i64 (f : Int), .int .i64 (t : Int)] 38)).alloc (.cells #[.int .i64 0, .int .i64 0, .int .i64 0, .int .i64 0] 33)).cell? ⟨w.heap.size + 1, 0, none⟩ = some (.int .i64 (f : Int)) := (World.cell?_alloc_lt _ _ ⟨w.heap.size + 1, 0, none⟩ (by simp)).trans (by simp)
  have d1 : (((w.alloc (.cells #[.int .i64 (pd zs 0), .int .i64 (pd zs 1), .int .i64 (pd zs 2), .int .i64 (pd zs 3)] 33)).alloc (.cells #[.int .i64 (f : Int), .int .i64 (t : Int)] 38)).alloc (.cells #[.int .i64 0, .int .i64 0, .int .i64 0, .int .i64 0] 33)).cell? ⟨w.heap.size + 1, 1, none⟩ = some (.int .i64 (t : Int)) := (World.cell?_alloc_lt _ _ ⟨w.heap.size + 1, 1, none⟩ (by simp)).trans (by simp)
  have hrw : (((w.alloc (.cells #[.int .i64 (pd zs 0), .int .i64 (pd zs 1), .int .i64 (pd zs 2), .int .i64 (pd zs 3)] 33)).alloc (.cells #[.int .i64 (f : Int), .int .i64 (t : Int)] 38)).alloc (.cells #[.int .i64 0, .int .i64 0, .int .i64 0, .int .i64 0] 33)).rowIs w.heap.size 33 4 (fun j => .int .i64 (pd zs j)) := by
    have a : ((w.alloc (.cells #[.int .i64 (pd zs 0), .int .i64 (pd zs 1), .int .i64 (pd zs 2), .int .i64 (pd zs 3)] 33)).alloc (.cells #[.int .i64 (f : Int), .int .i64 (t : Int)] 38)).rowIs w.heap.size 33 4 (fun j => .int .i64 (pd zs j)) := (row4_alloc w zs _).of_block (Below.heap_alloc _ _ _ (by simp))
    exact a.of_block (Below.heap_alloc _ _ _ (by simp; omega))
  have hres : (((w.alloc (.cells #[.int .i64 (pd zs 0), .int .i64 (pd zs 1), .int .i64 (pd zs 2), .int .i64 (pd zs 3)] 33)).alloc (.cells #[.int .i64 (f : Int), .int .i64 (t : Int)] 38)).alloc (.cells #[.int .i64 0, .int .i64 0, .int .i64 0, .int .i64 0] 33)).rowIs (w.heap.size + 1 + 1) 33 4 (fun _ => .int .i64 0) := by
    have := zero4 ((w.alloc (.cells #[.int .i64 (pd zs 0), .int .i64 (pd zs 1), .int .i64 (pd zs 2), .int .i64 (pd zs 3)] 33)).alloc (.cells #[.int .i64 (f : Int), .int .i64 (t : Int)] 38)) 33
    simpa using this
  generalize (((w.alloc (.cells #[.int .i64 (pd zs 0), .int .i64 (pd zs 1), .int .i64 (pd zs 2), .int .i64 (pd zs 3)] 33)).alloc (.cells #[.int .i64 (f : Int), .int .i64 (t : Int)] 38)).alloc (.cells #[.int .i64 0, .int .i64 0, .int .i64 0, .int .i64 0] 33)) = W0 at *
  have ct := hrw.cell ht
  have ft := hrw.frozen t
  have hrw1 := hrw.set t (.int .i64 (halfOf zs t))
  have cf1 := hrw1.cell hf
  rw [if_neg hft] at cf1
  have ct1 := hrw1.cell ht
  rw [if_pos rfl] at ct1
  have ff1 := hrw1.frozen f
  have d0' : (W0.setCell ⟨w.heap.size, t, none⟩ (.int .i64 (halfOf zs t))).cell? ⟨w.heap.size + 1, 0, none⟩ = some (.int .i64 (f : Int)) := by
    rw [World.cell?_setCell_other _ _ _ _ (by simp)]; exact d0
  have d1' : (W0.setCell ⟨w.heap.size, t, none⟩ (.int .i64 (halfOf zs t))).cell? ⟨w.heap.size + 1, 1, none⟩ = some (.int .i64 (t : Int)) := by
    rw [World.cell?_setCell_other _ _ _ _ (by simp)]; exact d1
  have hrw2 := (hrw1.set f (.int .i64 (pd zs f + halfOf zs t))).congr (g := fun k => Value.int .i64 (pd (half4 zs f t) k)) (fun k hk => by
    show _ = Value.int .i64 (pd (half4 zs f t) k)
    rw [HP.out k hk]
    by_cases h1 : k = t
    · subst h1; simp [Ne.symm hft]
    · by_cases h2 : k = f
      · subst h2; simp [hft]
      · simp [h1, h2])
  obtain ⟨r0, r1, r2, r3⟩ := four_cells hrw2
  have hres2 := (hres.of_block (w' := (W0.setCell ⟨w.heap.size, t, none⟩ (.int .i64 (halfOf zs t))).setCell ⟨w.heap.size, f, none⟩ (.int .i64 (pd zs f + halfOf zs t))) (by
    rw [Below.heap_setCell _ _ _ _ (by show w.heap.size + 1 + 1 ≠ w.heap.size; omega), Below.heap_setCell _ _ _ _ (by show w.heap.size + 1 + 1 ≠ w.heap.size; omega)]))
  obtain ⟨s0, s1, s2, s3⟩ := four_cells hres2
  obtain ⟨f0, f1, f2, f3⟩ := four_free hres2
  have HF := hide (four_store hres2 (fun k => Value.int .i64 (pd (half4 zs f t) k)))
  have HB := hide ((hA.setCell (Nat.le_refl _) (.int .i64 (halfOf zs t)) (p := ⟨w.heap.size, t, none⟩)).setCell (Nat.le_refl _) (.int .i64 (pd zs f + halfOf zs t)) (p := ⟨w.heap.size, f, none⟩))
  clear hrw hrw1 hrw2 hres hres2 hA
  rcases HH.out with ⟨h0, h1, hh⟩ | ⟨h0, hh⟩
  · rw [hh] at d0' d1' cf1 ct1 ff1 r0 r1 r2 r3 s0 s1 s2 s3 f0 f1 f2 f3 HF HB hq0
    clear HH HP hh hs
    generalize pd zs f = y at *
    generalize pd zs t = z at *
    go_wp2_with fail
    go_region
    go_wp2_with fail
    obtain ⟨g0, g1, g2, g3⟩ := four_cells HF.out
    exact bodyPost_ret (v := .agg #[.int .i64 (pd (half4 zs f t) 0), .int .i64 (pd (half4 zs f t) 1), .int .i64 (pd (half4 zs f t) 2), .int .i64 (pd (half4 zs f t) 3)]) (by simp [results, Try.results19, go_sem, g0, g1, g2, g3]) rfl
      ⟨rfl, ((((HB.out.setCell (show w.heap.size ≤ w.heap.size + 1 + 1 by omega) _ (p := ⟨w.heap.size + 1 + 1, 0, none⟩)).setCell (show w.heap.size ≤ w.heap.size + 1 + 1 by omega) _ (p := ⟨w.heap.size + 1 + 1, 1, none⟩)).setCell (show w.heap.size ≤ w.heap.size + 1 + 1 by omega) _ (p := ⟨w.heap.size + 1 + 1, 2, none⟩)).setCell (show w.heap.size ≤ w.heap.size + 1 + 1 by omega) _ (p := ⟨w.heap.size + 1 + 1, 3, none⟩)).drew⟩
  · rw [h0] at ct
    rw [hh] at d0' d1' cf1 ct1 ff1 r0 r1 r2 r3 s0 s1 s2 s3 f0 f1 f2 f3 HF HB hq0
    have e0 : (-1 : Int).tdiv 2 = 0 := by decide
    have e1 : pd zs f + 0 = pd zs f := Int.add_zero _
    rw [e1] at r0 r1 r2 r3 s0 s1 s2 s3 f0 f1 f2 f3 HF HB
    clear HH HP hh hs
    generalize pd zs f = y at *
    skip
    go_wp2_with fail
    try simp only [e0]
    go_wp2_with fail
    go_region
    go_wp2_with fail
    obtain ⟨g0, g1, g2, g3⟩ := four_cells HF.out
    exact bodyPost_ret (v := .agg #[.int .i64 (pd (half4 zs f t) 0), .int .i64 (pd (half4 zs f t) 1), .int .i64 (pd (half4 zs f t) 2), .int .i64 (pd (half4 zs f t) 3)]) (by simp [results, Try.results19, go_sem, g0, g1, g2, g3]) rfl
      ⟨rfl, ((((HB.out.setCell (show w.heap.size ≤ w.heap.size + 1 + 1 by omega) _ (p := ⟨w.heap.size + 1 + 1, 0, none⟩)).setCell (show w.heap.size ≤ w.heap.size + 1 + 1 by omega) _ (p := ⟨w.heap.size + 1 + 1, 1, none⟩)).setCell (show w.heap.size ≤ w.heap.size + 1 + 1 by omega) _ (p := ⟨w.heap.size + 1 + 1, 2, none⟩)).setCell (show w.heap.size ≤ w.heap.size + 1 + 1 by omega) _ (p := ⟨w.heap.size + 1 + 1, 3, none⟩)).drew⟩
end Go.Proofs.Ytolhplakpemadaa
