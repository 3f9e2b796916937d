import Derived.Test.YtnakkmmmkbjfbaaMg06
import Derived.Test.YtnakkmmmkbjfbaaMg13
import Derived.ChangeKeysEq
import Derived.Deep.Cut
import Derived.Test.YtnakkmmmkbjfbaaMg16
import Derived.Deep.LoopGhost
import Derived.WalkMore
import Derived.Shelf.RegionOpenPlain

/-
  A DOUBLING TAKEN BACK, THE PROGRAM's WAY: halved.
-/
namespace Go.Proofs.Ytnakkmmmkbjfbaa
open Go.RowKit Go.Deep
set_option linter.unusedVariables false

/-- Half of heap t, none behind the last one. -/
def halfOf (zs : List Int) (t : Nat) : Int := if t < zs.length then zs.getD t 0 / 2 else 0
def half4 (zs : List Int) (f t : Nat) : List Int := (List.range 4).map fun k => if k = t then halfOf zs t else if k = f then pd zs f + halfOf zs t else pd zs k
theorem half4_length (zs : List Int) (f t : Nat) : (half4 zs f t).length = 4 := by simp [half4]
theorem half4_pd (zs : List Int) (f t k : Nat) (hk : k < 4) : pd (half4 zs f t) k = if k = t then halfOf zs t else if k = f then pd zs f + halfOf zs t else pd zs k := by
  rw [pd_lt (by rw [half4_length]; exact hk)]
  simp [half4]

theorem halved_any (zs : List Int) (f t : Nat) (w : World) (hs : small zs) (hn : zs.length ≤ 4) (hf : f < 4) (ht : t < 4) (hft : f ≠ t) :
    Calls Try.prog 42 #[.agg #[.int .i64 (pd zs 0), .int .i64 (pd zs 1), .int .i64 (pd zs 2), .int .i64 (pd zs 3)], .agg #[.int .i64 (f : Int), .int .i64 (t : Int)]] w fun e w' => e = .returned (.agg #[.int .i64 (pd (half4 zs f t) 0), .int .i64 (pd (half4 zs f t) 1), .int .i64 (pd (half4 zs f t) 2), .int .i64 (pd (half4 zs f t) 3)]) ∧ Below w.heap.size w w' := by
  have hfi : (f : Int) < 4 := by omega
  have hti : (t : Int) < 4 := by omega
  have HP := hide (fun k (hk : k < 4) => half4_pd zs f t k hk)
  have hpf : -1 ≤ pd zs f ∧ pd zs f ≤ 40 := by
    by_cases h : f < zs.length
    · rw [pd_lt h]; have := small_get hs f h; omega
    · rw [pd_ge (by omega)]; omega
  have hpt : (0 ≤ pd zs t ∧ pd zs t ≤ 40 ∧ halfOf zs t = pd zs t / 2) ∨ (pd zs t = -1 ∧ halfOf zs t = 0) := by
    by_cases h : t < zs.length
    · left
      rw [pd_lt h]; have := small_get hs t h
      exact ⟨this.1, this.2, by unfold halfOf; rw [if_pos h, getD_get h]⟩
    · right
      exact ⟨pd_ge (by omega), by unfold halfOf; rw [if_neg h]⟩
  have hq0 : 0 ≤ halfOf zs t ∧ halfOf zs t ≤ 20 := by rcases hpt with h | h <;> omega
  have HH := hide hpt
  clear hpt
  go_enter Try.func42, Try.ntmps42
  go_upto_region 1 with fail
  have hA : Below w.heap.size w (((w.alloc (.cells #[.int .i64 (pd zs 0), .int .i64 (pd zs 1), .int .i64 (pd zs 2), .int .i64 (pd zs 3)] 42)).alloc (.cells #[.int .i64 (f : Int), .int .i64 (t : Int)] 38)).alloc (.cells #[.int .i64 0, .int .i64 0, .int .i64 0, .int .i64 0] 42)) := (((Below.refl _ _).alloc (Nat.le_refl _) _).alloc (by simp) _).alloc (by simp; omega) _
  have d0 : (((w.alloc (.cells #[.int .i64 (pd zs 0), .int .i64 (pd zs 1), .int .i64 (pd zs 2), .int .i64 (pd zs 3)] 42)).alloc (.cells #[.int .i64 (f : Int), .int .i64 (t : Int)] 38)).alloc (.cells #[.int .i64 0, .int .i64 0, .int .i64 0, .int .i64 0] 42)).cell? ⟨w.heap.size + 1, 0, none⟩ = some (.int .i64 (f : Int)) := (World.cell?_alloc_lt _ _ ⟨w.heap.size + 1, 0, none⟩ (by simp)).trans (by simp)
  have d1 : (((w.alloc (.cells #[.int .i64 (pd zs 0), .int .i64 (pd zs 1), .int .i64 (pd zs 2), .int .i64 (pd zs 3)] 42)).alloc (.cells #[.int .i64 (f : Int), .int .i64 (t : Int)] 38)).alloc (.cells #[.int .i64 0, .int .i64 0, .int .i64 0, .int .i64 0] 42)).cell? ⟨w.heap.size + 1, 1, none⟩ = some (.int .i64 (t : Int)) := (World.cell?_alloc_lt _ _ ⟨w.heap.size + 1, 1, none⟩ (by simp)).trans (by simp)
  have hrw : (((w.alloc (.cells #[.int .i64 (pd zs 0), .int .i64 (pd zs 1), .int .i64 (pd zs 2), .int .i64 (pd zs 3)] 42)).alloc (.cells #[.int .i64 (f : Int), .int .i64 (t : Int)] 38)).alloc (.cells #[.int .i64 0, .int .i64 0, .int .i64 0, .int .i64 0] 42)).rowIs w.heap.size 42 4 (fun j => .int .i64 (pd zs j)) := by
    have a : ((w.alloc (.cells #[.int .i64 (pd zs 0), .int .i64 (pd zs 1), .int .i64 (pd zs 2), .int .i64 (pd zs 3)] 42)).alloc (.cells #[.int .i64 (f : Int), .int .i64 (t : Int)] 38)).rowIs w.heap.size 42 4 (fun j => .int .i64 (pd zs j)) := (row4_alloc w zs _).of_block (Below.heap_alloc _ _ _ (by simp))
    exact a.of_block (Below.heap_alloc _ _ _ (by simp; omega))
  have hres : (((w.alloc (.cells #[.int .i64 (pd zs 0), .int .i64 (pd zs 1), .int .i64 (pd zs 2), .int .i64 (pd zs 3)] 42)).alloc (.cells #[.int .i64 (f : Int), .int .i64 (t : Int)] 38)).alloc (.cells #[.int .i64 0, .int .i64 0, .int .i64 0, .int .i64 0] 42)).rowIs (w.heap.size + 1 + 1) 42 4 (fun _ => .int .i64 0) := by
    have := zero4 ((w.alloc (.cells #[.int .i64 (pd zs 0), .int .i64 (pd zs 1), .int .i64 (pd zs 2), .int .i64 (pd zs 3)] 42)).alloc (.cells #[.int .i64 (f : Int), .int .i64 (t : Int)] 38)) 42
    simpa using this
  generalize (((w.alloc (.cells #[.int .i64 (pd zs 0), .int .i64 (pd zs 1), .int .i64 (pd zs 2), .int .i64 (pd zs 3)] 42)).alloc (.cells #[.int .i64 (f : Int), .int .i64 (t : Int)] 38)).alloc (.cells #[.int .i64 0, .int .i64 0, .int .i64 0, .int .i64 0] 42)) = W0 at *
  have ct := hrw.cell ht
  have ft := hrw.frozen t
  have hrw1 := hrw.set t (.int .i64 (halfOf zs t))
  have cf1 := hrw1.cell hf
  rw [if_neg hft] at cf1
  have ct1 := hrw1.cell ht
  rw [if_pos rfl] at ct1
  have ff1 := hrw1.frozen f
  have d0' : (W0.setCell ⟨w.heap.size, t, none⟩ (.int .i64 (halfOf zs t))).cell? ⟨w.heap.size + 1, 0, none⟩ = some (.int .i64 (f : Int)) := by
    rw [World.cell?_setCell_other _ _ _ _ (by simp)]; exact d0
  have d1' : (W0.setCell ⟨w.heap.size, t, none⟩ (.int .i64 (halfOf zs t))).cell? ⟨w.heap.size + 1, 1, none⟩ = some (.int .i64 (t : Int)) := by
    rw [World.cell?_setCell_other _ _ _ _ (by simp)]; exact d1
  have hrw2 := (hrw1.set f (.int .i64 (pd zs f + halfOf zs t))).congr (g := fun k => Value.int .i64 (pd (half4 zs f t) k)) (fun k hk => by
    show _ = Value.int .i64 (pd (half4 zs f t) k)
    rw [HP.out k hk]
    by_cases h1 : k = t
    · subst h1; simp [Ne.symm hft]
    · by_cases h2 : k = f
      · subst h2; simp [hft]
      · simp [h1, h2])
  obtain ⟨r0, r1, r2, r3⟩ := four_cells hrw2
  have hres2 := (hres.of_block (w' := (W0.setCell ⟨w.heap.size, t, none⟩ (.int .i64 (halfOf zs t))).setCell ⟨w.heap.size, f, none⟩ (.int .i64 (pd zs f + halfOf zs t))) (by
    rw [Below.heap_setCell _ _ _ _ (by show w.heap.size + 1 + 1 ≠ w.heap.size; omega), Below.heap_setCell _ _ _ _ (by show w.heap.size + 1 + 1 ≠ w.heap.size; omega)]))
  obtain ⟨s0, s1, s2, s3⟩ := four_cells hres2
  obtain ⟨f0, f1, f2, f3⟩ := four_free hres2
  have HF := hide (four_store hres2 (fun k => Value.int .i64 (pd (half4 zs f t) k)))
  have HB := hide ((hA.setCell (Nat.le_refl _) (.int .i64 (halfOf zs t)) (p := ⟨w.heap.size, t, none⟩)).setCell (Nat.le_refl _) (.int .i64 (pd zs f + halfOf zs t)) (p := ⟨w.heap.size, f, none⟩))
  clear hrw hrw1 hrw2 hres hres2 hA
  rcases HH.out with ⟨h0, h1, hh⟩ | ⟨h0, hh⟩
  · rw [hh] at d0' d1' cf1 ct1 ff1 r0 r1 r2 r3 s0 s1 s2 s3 f0 f1 f2 f3 HF HB hq0
    clear HH HP hh hs
    generalize pd zs f = y at *
    generalize pd zs t = z at *
    go_wp2_with fail
    go_region
    go_wp2_with fail
    obtain ⟨g0, g1, g2, g3⟩ := four_cells HF.out
    exact bodyPost_ret (v := .agg #[.int .i64 (pd (half4 zs f t) 0), .int .i64 (pd (half4 zs f t) 1), .int .i64 (pd (half4 zs f t) 2), .int .i64 (pd (half4 zs f t) 3)]) (by simp [results, Try.results42, go_sem, g0, g1, g2, g3]) rfl
      ⟨rfl, ((((HB.out.setCell (show w.heap.size ≤ w.heap.size + 1 + 1 by omega) _ (p := ⟨w.heap.size + 1 + 1, 0, none⟩)).setCell (show w.heap.size ≤ w.heap.size + 1 + 1 by omega) _ (p := ⟨w.heap.size + 1 + 1, 1, none⟩)).setCell (show w.heap.size ≤ w.heap.size + 1 + 1 by omega) _ (p := ⟨w.heap.size + 1 + 1, 2, none⟩)).setCell (show w.heap.size ≤ w.heap.size + 1 + 1 by omega) _ (p := ⟨w.heap.size + 1 + 1, 3, none⟩)).drew⟩
  · rw [h0] at ct
    rw [hh] at d0' d1' cf1 ct1 ff1 r0 r1 r2 r3 s0 s1 s2 s3 f0 f1 f2 f3 HF HB hq0
    have e0 : (-1 : Int).tdiv 2 = 0 := by decide
    have e1 : pd zs f + 0 = pd zs f := Int.add_zero _
    rw [e1] at r0 r1 r2 r3 s0 s1 s2 s3 f0 f1 f2 f3 HF HB
    clear HH HP hh hs
    generalize pd zs f = y at *
    skip
    go_wp2_with fail
    try simp only [e0]
    go_wp2_with fail
    go_region
    go_wp2_with fail
    obtain ⟨g0, g1, g2, g3⟩ := four_cells HF.out
    exact bodyPost_ret (v := .agg #[.int .i64 (pd (half4 zs f t) 0), .int .i64 (pd (half4 zs f t) 1), .int .i64 (pd (half4 zs f t) 2), .int .i64 (pd (half4 zs f t) 3)]) (by simp [results, Try.results42, go_sem, g0, g1, g2, g3]) rfl
      ⟨rfl, ((((HB.out.setCell (show w.heap.size ≤ w.heap.size + 1 + 1 by omega) _ (p := ⟨w.heap.size + 1 + 1, 0, none⟩)).setCell (show w.heap.size ≤ w.heap.size + 1 + 1 by omega) _ (p := ⟨w.heap.size + 1 + 1, 1, none⟩)).setCell (show w.heap.size ≤ w.heap.size + 1 + 1 by omega) _ (p := ⟨w.heap.size + 1 + 1, 2, none⟩)).setCell (show w.heap.size ≤ w.heap.size + 1 + 1 by omega) _ (p := ⟨w.heap.size + 1 + 1, 3, none⟩)).drew⟩
end Go.Proofs.Ytnakkmmmkbjfbaa

/-
  A LIST OF DOUBLINGS TURNED ROUND: slices.Reverse.
-/
namespace Go.Proofs.Ytnakkmmmkbjfbaa
open Go.RowKit Go.Deep
set_option linter.unusedVariables false

/-- i of both ends are exchanged. -/
def rvAt (ms : List Db) (i : Nat) : List Db := (List.range ms.length).map fun k => if k < i ∨ ms.length ≤ k + i then ms.getD (ms.length - 1 - k) ⟨0, 0⟩ else ms.getD k ⟨0, 0⟩
theorem rvAt_length (ms : List Db) (i : Nat) : (rvAt ms i).length = ms.length := by simp [rvAt]
theorem rvAt_get (ms : List Db) (i k : Nat) : (rvAt ms i)[k]? = if k < ms.length then some (if k < i ∨ ms.length ≤ k + i then ms.getD (ms.length - 1 - k) ⟨0, 0⟩ else ms.getD k ⟨0, 0⟩) else none := by
  unfold rvAt
  rw [List.getElem?_map]
  by_cases h : k < ms.length
  · rw [List.getElem?_range h, if_pos h]; rfl
  · rw [List.getElem?_eq_none (by simpa using h), if_neg h]; rfl
theorem rvAt_zero (ms : List Db) : rvAt ms 0 = ms := by
  apply List.ext_getElem?
  intro k
  rw [rvAt_get]
  by_cases h : k < ms.length
  · rw [if_pos h, if_neg (by omega), List.getD_eq_getElem?_getD, List.getElem?_eq_getElem h]; rfl
  · rw [if_neg h, List.getElem?_eq_none (by omega)]
theorem rvAt_end (ms : List Db) (i : Nat) (h : ms.length ≤ 2 * i + 1) (h2 : 2 * i ≤ ms.length) : rvAt ms i = ms.reverse := by
  apply List.ext_getElem?
  intro k
  rw [rvAt_get]
  by_cases hk : k < ms.length
  · rw [if_pos hk, List.getElem?_reverse hk, List.getElem?_eq_getElem (by omega)]
    by_cases hc : k < i ∨ ms.length ≤ k + i
    · rw [if_pos hc, List.getD_eq_getElem?_getD, List.getElem?_eq_getElem (by omega)]; rfl
    · rw [if_neg hc, List.getD_eq_getElem?_getD, List.getElem?_eq_getElem hk]
      have e : ms.length - 1 - k = k := by omega
      simp only [e]; rfl
  · rw [if_neg hk, List.getElem?_eq_none (by simpa using hk)]
theorem rvAt_next (ms : List Db) (i j : Nat) (h : j + i + 1 = ms.length) (hij : i < j) : rvAt ms (i + 1) = ((rvAt ms i).set i (ms.getD j ⟨0, 0⟩)).set j (ms.getD i ⟨0, 0⟩) := by
  apply List.ext_getElem?
  intro k
  rw [List.getElem?_set, List.getElem?_set, rvAt_get, rvAt_get, List.length_set, rvAt_length]
  by_cases hk : k < ms.length
  · rw [if_pos hk, if_pos hk]
    by_cases h1 : j = k
    · subst h1
      rw [if_pos rfl, if_pos hk, if_pos (by omega), show ms.length - 1 - j = i from by omega]
    · rw [if_neg h1]
      by_cases h2 : i = k
      · subst h2
        rw [if_pos rfl, if_pos hk, if_pos (by omega), show ms.length - 1 - i = j from by omega]
      · rw [if_neg h2]
        by_cases h3 : k < i ∨ ms.length ≤ k + i
        · rw [if_pos h3, if_pos (by omega)]
        · rw [if_neg h3, if_neg (by omega)]
  · rw [if_neg hk, if_neg hk]
    by_cases h1 : j = k
    · omega
    · rw [if_neg h1]
      by_cases h2 : i = k
      · omega
      · rw [if_neg h2]
theorem rvAt_i (ms : List Db) (i j : Nat) (h : j + i + 1 = ms.length) (hij : i < j) : (rvAt ms i)[i]? = some (ms.getD i ⟨0, 0⟩) ∧ (rvAt ms i)[j]? = some (ms.getD j ⟨0, 0⟩) := by
  constructor
  · rw [rvAt_get, if_pos (by omega), if_neg (by omega)]
  · rw [rvAt_get, if_pos (by omega), if_neg (by omega)]

section
variable {w : World} {base g c : Nat} {ms : List Db}
theorem OwnIDb.pair (h : OwnIDb w base (.slice (some ⟨g, 0, none⟩) ms.length c) ms.length (numsDb ms)) {k : Nat} {d : Db} (hk : ms[k]? = some d) : w.cell? ⟨g, k * 2, none⟩ = some (.int .i64 d.x0) ∧ w.cell? ⟨g, k * 2 + 1, none⟩ = some (.int .i64 d.x1) := by
  obtain ⟨hlt, rfl⟩ := List.getElem?_eq_some_iff.1 hk
  obtain ⟨b, off, e, _, c0, c1⟩ := h.list.at_ hlt hlt
  injection e with e
  injection e with e1 e2
  subst e1; subst e2
  rw [Nat.zero_add] at c0 c1
  exact ⟨c0, c1⟩
theorem OwnIDb.set2 (h : OwnIDb w base (.slice (some ⟨g, 0, none⟩) ms.length c) ms.length (numsDb ms)) (k : Nat) (d : Db) (hk : k < ms.length) :
    OwnIDb ((w.setCell ⟨g, k * 2, none⟩ (.int .i64 d.x0)).setCell ⟨g, k * 2 + 1, none⟩ (.int .i64 d.x1)) base (.slice (some ⟨g, 0, none⟩) (ms.set k d).length c) (ms.set k d).length (numsDb (ms.set k d)) := by
  have h1 := (World.ownsRow.stored (World.ownsRow.stored h.1 (k * 2) (.int .i64 d.x0)).1 (k * 2 + 1) (.int .i64 d.x1)).1
  have e : ((numsDb ms).set (k * 2) d.x0).set (k * 2 + 1) d.x1 = numsDb (ms.set k d) := by
    apply List.ext_getElem?
    intro i
    rw [List.getElem?_set, List.getElem?_set, numsDb_get, numsDb_get, List.length_set, List.length_set, numsDb_length]
    by_cases h2 : k * 2 + 1 = i
    · subst h2
      rw [if_pos rfl, if_pos (by omega), if_pos (by omega)]
      simp [numDb, show (k * 2 + 1) / 2 = k from by omega, show (k * 2 + 1) % 2 = 1 from by omega, hk]
    · rw [if_neg h2]
      by_cases h3 : k * 2 = i
      · subst h3
        rw [if_pos rfl, if_pos (by omega), if_pos (by omega)]
        simp [numDb, hk]
      · rw [if_neg h3]
        by_cases h4 : i < ms.length * 2
        · rw [if_pos h4, if_pos h4]
          simp [numDb, show ¬ k = i / 2 from by omega]
        · rw [if_neg h4, if_neg h4]
  rw [← List.map_set, ← List.map_set, e] at h1
  rw [List.length_set]
  exact ⟨h1, by rw [numsDb_length, List.length_set]⟩
theorem OwnIDb.free (h : OwnIDb w base (.slice (some ⟨g, 0, none⟩) ms.length c) ms.length (numsDb ms)) (k : Nat) : w.frozen? ⟨g, k, none⟩ = false := World.ownsRow.frozenAt h.1 k
end
/-- Where Reverse stands. -/
def RvJ (w : World) (base g c : Nat) (ms : List Db) (iv jv : Value) (X : World) : Prop :=
  ∃ i : Nat, 2 * i ≤ ms.length ∧ iv = .int .i64 (i : Int) ∧ jv = .int .i64 ((ms.length : Int) - 1 - (i : Int)) ∧ Hid (OwnIDb X base (.slice (some ⟨g, 0, none⟩) (rvAt ms i).length c) (rvAt ms i).length (numsDb (rvAt ms i))) ∧ Hid (Below base w X) ∧ Hid (∀ b, b ≠ g → X.heap[b]? = w.heap[b]?)

set_option maxRecDepth 100000 in
set_option maxHeartbeats 8000000 in
theorem ReverseDb_any (ms : List Db) (base g c : Nat) (w : World) (hl : ms.length ≤ 1000000) (h : OwnIDb w base (.slice (some ⟨g, 0, none⟩) ms.length c) ms.length (numsDb ms)) (hb : base ≤ g) :
    Calls Try.prog 43 #[.slice (some ⟨g, 0, none⟩) ms.length c] w fun e w' => e = .returned (.tuple #[]) ∧ OwnIDb w' base (.slice (some ⟨g, 0, none⟩) ms.length c) ms.length (numsDb ms.reverse) ∧ Below base w w' ∧ ∀ b, b ≠ g → w'.heap[b]? = w.heap[b]? := by
  have H0 := hide (show OwnIDb w base (.slice (some ⟨g, 0, none⟩) (rvAt ms 0).length c) (rvAt ms 0).length (numsDb (rvAt ms 0)) from by rw [rvAt_zero]; exact h)
  clear h
  go_enter Try.func43, Try.ntmps43
  go_wp2_with fail
  go_loopw [2, 3] (RvJ w base g c ms) (fun iv _ _ => ms.length - (intOf iv).toNat)
  case atStart => exact ⟨0, Nat.zero_le _, rfl, by simp, H0, hide (Below.refl _ _), hide fun _ _ => rfl⟩
  case round =>
    clear H0
    obtain ⟨i, hi, rfl, rfl, HO, HB, HX⟩ := hrel
    obtain ⟨X, hX⟩ : ∃ X, X = wr := ⟨_, rfl⟩
    subst hX
    by_cases hij : (i : Int) < (ms.length : Int) - 1 - (i : Int)
    · obtain ⟨j, hj⟩ : ∃ j : Nat, (ms.length : Int) - 1 - (i : Int) = (j : Int) := ⟨ms.length - 1 - i, by omega⟩
      rw [hj] at hij ⊢
      have hji : j + i + 1 = ms.length := by omega
      have hlt : i < j := by omega
      obtain ⟨ei, ej⟩ := rvAt_i ms i j hji hlt
      have NX := hide (rvAt_next ms i j hji hlt)
      generalize ms.getD i ⟨0, 0⟩ = di at *
      generalize ms.getD j ⟨0, 0⟩ = dj at *
      obtain ⟨a0, a1⟩ := HO.out.pair ei
      obtain ⟨b0, b1⟩ := HO.out.pair ej
      have hrl := rvAt_length ms i
      have f0 := HO.out.free (i * 2)
      have f1 := HO.out.free (i * 2 + 1)
      have f2 := HO.out.free (j * 2)
      have f3 := HO.out.free (j * 2 + 1)
      have hjl : j < ms.length := by omega
      have hil : i < ms.length := by omega
      have hjI : (j : Int) < (ms.length : Int) := by omega
      have hiI : (i : Int) < (ms.length : Int) := by omega
      clear ei ej
      go_wp2_with fail
      go_region
      go_wp2_with fail
      have o2 := (HO.out.set2 i dj (by omega)).set2 j di (by rw [List.length_set]; omega)
      rw [← NX.out] at o2
      refine ⟨⟨i + 1, by omega, by simp, by congr 1; omega, hide (o2.below (Below.refl _ _).drew), hide (((((HB.out.setCell hb _).setCell hb _).setCell hb _).setCell hb _).drew), hide fun b hb' => ?_⟩, by simp [intOf]; omega⟩
      refine Eq.trans ?_ (HX.out b hb')
      show (World.setCell _ _ _).heap[b]? = _
      rw [Below.heap_setCell _ _ _ _ hb', Below.heap_setCell _ _ _ _ hb', Below.heap_setCell _ _ _ _ hb', Below.heap_setCell _ _ _ _ hb']
    · go_wp2_with fail
      go_end0
      have e := rvAt_end ms i (by omega) hi
      have := HO.out
      rw [e, List.length_reverse] at this
      exact ⟨rfl, this, HB.out, HX.out⟩
set_option maxHeartbeats 2000000 in
theorem ReverseDb_nil (w : World) : Calls Try.prog 43 #[.slice none 0 0] w fun e w' => e = .returned (.tuple #[]) ∧ w' = w := by
  go_enter Try.func43, Try.ntmps43
  go_wp2_with fail
  go_loopw [2, 3] (fun iv jv X => iv = .int .i64 0 ∧ jv = .int .i64 (-1) ∧ X = w) (fun _ _ _ => 0)
  case atStart => exact ⟨rfl, rfl, rfl⟩
  case round =>
    obtain ⟨rfl, rfl, rfl⟩ := hrel
    go_wp2_with fail
    go_end0
    exact ⟨rfl, rfl⟩
/-- Both at once: a list of the call's own is turned round where it lies. -/
theorem ReverseOwn_any (ms : List Db) (base : Nat) (v : Value) (w : World) (hl : ms.length ≤ 1000000) (h : OwnIDb w base v ms.length (numsDb ms)) :
    Calls Try.prog 43 #[v] w fun e w' => e = .returned (.tuple #[]) ∧ OwnIDb w' base v ms.reverse.length (numsDb ms.reverse) ∧ Below base w w' := by
  rcases h.form with ⟨rfl, h0⟩ | ⟨g, c, rfl, hb, _⟩
  · obtain rfl : ms = [] := List.eq_nil_of_length_eq_zero h0
    refine (ReverseDb_nil w).mono ?_
    rintro e w' ⟨rfl, rfl⟩
    exact ⟨rfl, h, Below.refl _ _⟩
  · refine (ReverseDb_any ms base g c w hl h hb).mono ?_
    rintro e w' ⟨rfl, h1, h2, _⟩
    exact ⟨rfl, by rw [List.length_reverse]; exact h1, h2⟩
end Go.Proofs.Ytnakkmmmkbjfbaa
