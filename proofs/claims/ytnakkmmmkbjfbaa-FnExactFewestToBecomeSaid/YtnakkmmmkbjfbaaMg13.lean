import Derived.Test.YtnakkmmmkbjfbaaMg04
import Derived.Test.YtnakkmmmkbjfbaaMg12
import Derived.Test.YtnakkmmmkbjfbaaMg09
import Derived.Test.YtnakkmmmkbjfbaaMg01
import Derived.Laws.CopyOwn
import Derived.Laws.ResultCell
import Derived.WalkLawsBesides
import Derived.Deep.RegionWith
import Derived.RegionTactic
import Derived.Deep.RegionHeld3
import Derived.Test.YtnakkmmmkbjfbaaMg06
import Derived.Test.YtnakkmmmkbjfbaaMg10

/-
  FEW HEAPS AS AN ARRAY OF FOUR: rowOf, canDouble, doubled, list.
-/
namespace Go.Proofs.Ytnakkmmmkbjfbaa
open Go.RowKit Go.Deep
set_option linter.unusedVariables false

theorem row4_alloc (w : World) (zs : List Int) (t : TypeId) : (w.alloc (.cells #[.int .i64 (pd zs 0), .int .i64 (pd zs 1), .int .i64 (pd zs 2), .int .i64 (pd zs 3)] t)).rowIs w.heap.size t 4 (fun j => .int .i64 (pd zs j)) := by
  refine World.rowIs_alloc w _ t _ (fun i hi => ?_)
  match i, hi with
  | 0, _ => rfl
  | 1, _ => rfl
  | 2, _ => rfl
  | 3, _ => rfl

theorem zero4 (w : World) (t : TypeId) : (w.alloc (.cells #[.int .i64 0, .int .i64 0, .int .i64 0, .int .i64 0] t)).rowIs w.heap.size t 4 (fun _ => .int .i64 0) := by
  refine World.rowIs_alloc w _ t _ (fun i hi => ?_)
  match i, hi with
  | 0, _ => rfl
  | 1, _ => rfl
  | 2, _ => rfl
  | 3, _ => rfl

theorem four_cells {w : World} {g : Nat} {t : TypeId} {f : Nat → Value} (h : w.rowIs g t 4 f) : w.cell? ⟨g, 0, none⟩ = some (f 0) ∧ w.cell? ⟨g, 1, none⟩ = some (f 1) ∧ w.cell? ⟨g, 2, none⟩ = some (f 2) ∧ w.cell? ⟨g, 3, none⟩ = some (f 3) :=
  ⟨h.cell (by omega), h.cell (by omega), h.cell (by omega), h.cell (by omega)⟩
theorem four_free {w : World} {g : Nat} {t : TypeId} {f : Nat → Value} (h : w.rowIs g t 4 f) : w.frozen? ⟨g, 0, none⟩ = false ∧ w.frozen? ⟨g, 1, none⟩ = false ∧ w.frozen? ⟨g, 2, none⟩ = false ∧ w.frozen? ⟨g, 3, none⟩ = false :=
  ⟨h.frozen 0, h.frozen 1, h.frozen 2, h.frozen 3⟩
theorem four_store {w : World} {g : Nat} {t : TypeId} {f : Nat → Value} (h : w.rowIs g t 4 f) (k : Nat → Value) :
    ((((w.setCell ⟨g, 0, none⟩ (k 0)).setCell ⟨g, 1, none⟩ (k 1)).setCell ⟨g, 2, none⟩ (k 2)).setCell ⟨g, 3, none⟩ (k 3)).rowIs g t 4 k := by
  refine ((((h.set 0 _).set 1 _).set 2 _).set 3 _).congr (fun i hi => ?_)
  match i, hi with
  | 0, _ => simp
  | 1, _ => simp
  | 2, _ => simp
  | 3, _ => simp
theorem row_spliced {w : World} {g : Nat} {t : TypeId} {cur : Array Value} {zs : List Int} (hg : w.heap[g]? = some (.cells (splice cur.toList 0 (zs.map (Value.int .i64))).toArray t (0, 0))) (hc : cur.size = 4)
    (hcur : ∀ i, i < 4 → cur[i]? = some (.int .i64 (-1))) (hn : zs.length ≤ 4) : w.rowIs g t 4 (fun j => .int .i64 (pd zs j)) := by
  refine ⟨_, hg, by rw [List.size_toArray, length_splice _ _ _ (by simp; omega)]; simpa using hc, fun i hi => ?_⟩
  show _ = some (Value.int .i64 (pd zs i))
  rw [List.getElem?_toArray]
  unfold splice
  rw [List.take_zero, List.nil_append]
  by_cases h : i < zs.length
  · rw [List.getElem?_append_left (by simpa using h), List.getElem?_map, List.getElem?_eq_getElem h, pd_lt h]; rfl
  · rw [List.getElem?_append_right (by simp; omega), List.getElem?_drop]
    have := hcur i hi
    rw [pd_ge (by omega), List.length_map, show 0 + zs.length + (i - zs.length) = i from by omega, ← this]
    simp

theorem rowOf_any (A : Option Addr) (n c B : Nat) (zs : List Int) (w : World) (hr : Ints w B A n zs) (hB : B ≤ w.heap.size) (hn : n ≤ 4) (h0 : 0 < n) :
    Calls Try.prog 28 #[.slice A n c] w fun e w' => e = .returned (.agg #[.int .i64 (pd zs 0), .int .i64 (pd zs 1), .int .i64 (pd zs 2), .int .i64 (pd zs 3)]) ∧ Below w.heap.size w w' := by
  obtain rfl := hr.len
  go_enter Try.func28, Try.ntmps28
  go_wp2_with fail
  have hA0 : Below w.heap.size w ((w.alloc (.cells #[.int .i64 0, .int .i64 0, .int .i64 0, .int .i64 0] 42)).alloc (.cells #[.int .i64 0, .int .i64 0, .int .i64 0, .int .i64 0] 42)) := ((Below.refl _ _).alloc (Nat.le_refl _) _).alloc (by simp) _
  have hres : ((w.alloc (.cells #[.int .i64 0, .int .i64 0, .int .i64 0, .int .i64 0] 42)).alloc (.cells #[.int .i64 0, .int .i64 0, .int .i64 0, .int .i64 0] 42)).rowIs w.heap.size 42 4 (fun _ => .int .i64 0) :=
    (zero4 w _).of_block (Below.heap_alloc _ _ _ (by simp))
  have hrw : ((w.alloc (.cells #[.int .i64 0, .int .i64 0, .int .i64 0, .int .i64 0] 42)).alloc (.cells #[.int .i64 0, .int .i64 0, .int .i64 0, .int .i64 0] 42)).rowIs (w.heap.size + 1) 42 4 (fun _ => .int .i64 0) := by
    have := zero4 (w.alloc (.cells #[.int .i64 0, .int .i64 0, .int .i64 0, .int .i64 0] 42)) 42
    simpa using this
  have hsz : ((w.alloc (.cells #[.int .i64 0, .int .i64 0, .int .i64 0, .int .i64 0] 42)).alloc (.cells #[.int .i64 0, .int .i64 0, .int .i64 0, .int .i64 0] 42)).heap.size = w.heap.size + 2 := by simp
  generalize ((w.alloc (.cells #[.int .i64 0, .int .i64 0, .int .i64 0, .int .i64 0] 42)).alloc (.cells #[.int .i64 0, .int .i64 0, .int .i64 0, .int .i64 0] 42)) = w1 at *
  go_loopw [5] (fun i wr => ∃ k : Nat, k ≤ 4 ∧ i = .int .i64 k ∧ wr.rowIs (w.heap.size + 1) 42 4 (fun j => if j < k then .int .i64 (-1) else .int .i64 0) ∧ Below (w.heap.size + 1) w1 wr ∧ wr.heap.size = w.heap.size + 2)
    (fun i _ => 4 - (intOf i).toNat)
  case atStart => exact ⟨0, by omega, rfl, hrw.congr (fun i _ => by simp), Below.refl _ _, hsz⟩
  case round =>
    obtain ⟨k, hk, rfl, hrow, hb, hs⟩ := hrel
    by_cases hlt : k < 4
    · have hold := hrow.cell hlt
      have hfz := hrow.frozen k
      go_wp2_with fail
      go_roundw
      case rel =>
        refine ⟨k + 1, by omega, by go_num, (hrow.set k _).congr (fun i hi => ?_), hb.setCell (Nat.le_refl _) _, by simpa using hs⟩
        by_cases e : i = k
        · subst e; simp
        · simp [e, show (i < k + 1) ↔ i < k from by omega]
      case measure => simp [intOf]; omega
    · obtain ⟨cur, hg, hc4, hcur⟩ := hrow
      have hrr := (hr.below hA0 hB).below hb (by omega)
      have hcs : (zs.map (Value.int .i64)).length = Nat.min zs.length 4 := by
        rw [List.length_map]; exact (Nat.min_eq_left hn).symm
      have HG := hide (show wr.heap[w.heap.size + 1]? = some (.cells cur.toList.toArray 42 (0, 0)) from hg)
      have HP := hide (show 0 < (zs.map (Value.int .i64)).length → (some (⟨w.heap.size + 1, 0, none⟩ : Addr) = some ⟨w.heap.size + 1, 0, none⟩ ∧ ∃ ad, A = some ad ∧ ∀ j v, (zs.map (Value.int .i64))[j]? = some v → wr.cell? (ad.add j) = some v) from fun _ => by
        obtain ⟨ad, e, _, hcell⟩ := hrr.2 h0
        refine ⟨rfl, ad, e, fun j v hv => ?_⟩
        rw [List.getElem?_map] at hv
        obtain ⟨z, hz, rfl⟩ := Option.map_eq_some_iff.1 hv
        obtain ⟨hj, rfl⟩ := List.getElem?_eq_some_iff.1 hz
        rw [hcell j hj]; simp [List.getD, hj])
      have HF := hide (show 0 + (zs.map (Value.int .i64)).length ≤ cur.toList.length from by simp; omega)
      have H1 := hide (show ∀ v ∈ zs.map (Value.int .i64), v.oneCell' = true from fun v hv => by obtain ⟨z, _, rfl⟩ := List.mem_map.1 hv; rfl)
      have HC := hide hcs
      have HR := hide (hres.of_block (hb.block _ (by omega)))
      have HB := hide hb
      have HCur := hide hcur
      have HF4 : Hid (∀ w' : World, Hid (w'.heap[w.heap.size + 1]? = some (.cells (splice cur.toList 0 (zs.map (Value.int .i64))).toArray 42 (0, 0))) → Below (w.heap.size + 1) wr w' →
          (Hid (w'.rowIs w.heap.size 42 4 (fun _ => .int .i64 0)) ∧ w'.cell? ⟨w.heap.size + 1, 0, none⟩ = some (.int .i64 (pd zs 0)) ∧ w'.cell? ⟨w.heap.size + 1, 1, none⟩ = some (.int .i64 (pd zs 1)) ∧ w'.cell? ⟨w.heap.size + 1, 2, none⟩ = some (.int .i64 (pd zs 2)) ∧ w'.cell? ⟨w.heap.size + 1, 3, none⟩ = some (.int .i64 (pd zs 3)) ∧
            w'.cell? ⟨w.heap.size, 0, none⟩ = some (.int .i64 0) ∧ w'.cell? ⟨w.heap.size, 1, none⟩ = some (.int .i64 0) ∧ w'.cell? ⟨w.heap.size, 2, none⟩ = some (.int .i64 0) ∧ w'.cell? ⟨w.heap.size, 3, none⟩ = some (.int .i64 0) ∧
            w'.frozen? ⟨w.heap.size, 0, none⟩ = false ∧ w'.frozen? ⟨w.heap.size, 1, none⟩ = false ∧ w'.frozen? ⟨w.heap.size, 2, none⟩ = false ∧ w'.frozen? ⟨w.heap.size, 3, none⟩ = false)) := hide fun w' h1 h2 => by
        have a := row_spliced h1.out hc4 (fun i hi => (hcur i hi).trans (by simp; omega)) hn
        have b := HR.out.of_block (h2.block _ (by omega))
        obtain ⟨a0, a1, a2, a3⟩ := four_cells a
        obtain ⟨b0, b1, b2, b3⟩ := four_cells b
        obtain ⟨f0, f1, f2, f3⟩ := four_free b
        exact ⟨b, a0, a1, a2, a3, b0, b1, b2, b3, f0, f1, f2, f3⟩
      clear hg hcs hrr hres hrw hb hcur
      go_wp2_with (with_reducible refine wpList_copy_splice rfl (.tmp 11) (.tmp 12) 22 22 rfl 3 Try.underlying22 (by kernel_rfl) (some ⟨w.heap.size + 1, 0, none⟩) A 4 4 zs.length c rfl rfl (w.heap.size + 1) 0 cur.toList 42 HG.out (zs.map (Value.int .i64)) HC.out HP.out HF.out H1.out (w.heap.size + 1) wr (Below.refl _ _) (Nat.le_refl _) ?_; intro w' hg' hb'; obtain ⟨hw', hw0, hw1, hw2, hw3, hv0, hv1, hv2, hv3, hy0, hy1, hy2, hy3⟩ := HF4.out w' hg' hb')
      have hst := four_store hw'.out (fun j => Value.int .i64 (pd zs j))
      obtain ⟨r0, r1, r2, r3⟩ := four_cells hst
      clear hst
      exact bodyPost_ret (v := .agg #[.int .i64 (pd zs 0), .int .i64 (pd zs 1), .int .i64 (pd zs 2), .int .i64 (pd zs 3)]) (by simp [results, Try.results28, go_sem, r0, r1, r2, r3]) rfl
        ⟨rfl, (((((hA0.trans (HB.out.mono (by omega))).trans (hb'.mono (by omega))).setCell (Nat.le_refl _) _).setCell (Nat.le_refl _) _).setCell (Nat.le_refl _) _).setCell (Nat.le_refl _) _⟩

theorem isDoubling_any (f t : Int) (w : World) :
    Calls Try.prog 59 #[.agg #[.int .i64 f, .int .i64 t]] w fun e w' => e = .returned (.bool (two 4 f t)) ∧ Below w.heap.size w w' := by
  have HT := hide (fun W => areTwoAmong_any 4 f t W)
  generalize two 4 f t = b at *
  go_enter Try.func59, Try.ntmps59
  go_wp2_with fail
  refine (HT.out _).mono ?_; rintro e w' ⟨rfl, rfl⟩
  go_wp2_with fail
  go_ret
  exact ⟨rfl, (Below.refl _ _).alloc (Nat.le_refl _) _⟩

theorem canDouble_no1 (zs : List Int) (f t : Int) (w : World) (h : two 4 f t = false) :
    Calls Try.prog 57 #[.agg #[.int .i64 (pd zs 0), .int .i64 (pd zs 1), .int .i64 (pd zs 2), .int .i64 (pd zs 3)], .agg #[.int .i64 f, .int .i64 t]] w fun e w' => e = .returned (.bool false) ∧ Below w.heap.size w w' := by
  have HT := hide (fun W => isDoubling_any f t W)
  rw [h] at HT
  clear h
  go_enter Try.func57, Try.ntmps57
  go_wp2_with fail
  have hA : Below w.heap.size w ((w.alloc (.cells #[.int .i64 (pd zs 0), .int .i64 (pd zs 1), .int .i64 (pd zs 2), .int .i64 (pd zs 3)] 42)).alloc (.cells #[.int .i64 f, .int .i64 t] 38)) := ((Below.refl _ _).alloc (Nat.le_refl _) _).alloc (by simp) _
  have d0 : ((w.alloc (.cells #[.int .i64 (pd zs 0), .int .i64 (pd zs 1), .int .i64 (pd zs 2), .int .i64 (pd zs 3)] 42)).alloc (.cells #[.int .i64 f, .int .i64 t] 38)).cell? ⟨w.heap.size + 1, 0, none⟩ = some (.int .i64 f) := by simp
  have d1 : ((w.alloc (.cells #[.int .i64 (pd zs 0), .int .i64 (pd zs 1), .int .i64 (pd zs 2), .int .i64 (pd zs 3)] 42)).alloc (.cells #[.int .i64 f, .int .i64 t] 38)).cell? ⟨w.heap.size + 1, 1, none⟩ = some (.int .i64 t) := by simp
  have hrw : ((w.alloc (.cells #[.int .i64 (pd zs 0), .int .i64 (pd zs 1), .int .i64 (pd zs 2), .int .i64 (pd zs 3)] 42)).alloc (.cells #[.int .i64 f, .int .i64 t] 38)).rowIs w.heap.size 42 4 (fun j => .int .i64 (pd zs j)) := (row4_alloc w zs _).of_block (Below.heap_alloc _ _ _ (by simp))
  have z1 : w.heap.size + 1 < ((w.alloc (.cells #[.int .i64 (pd zs 0), .int .i64 (pd zs 1), .int .i64 (pd zs 2), .int .i64 (pd zs 3)] 42)).alloc (.cells #[.int .i64 f, .int .i64 t] 38)).heap.size := by simp
  generalize ((w.alloc (.cells #[.int .i64 (pd zs 0), .int .i64 (pd zs 1), .int .i64 (pd zs 2), .int .i64 (pd zs 3)] 42)).alloc (.cells #[.int .i64 f, .int .i64 t] 38)) = W0 at *
  refine wp_region_any (by kernel_rfl) ?_
  change wpAny _ _ _ _ _ _ _ (World.drew _)
  refine wpAny_ready (rs := [0]) (by kernel_rfl) (by simp) ?_
  refine AllReady.cons rfl (fun K hK => ?_) AllReady.nil
  go_simp
  refine hK _ _ ?_
  clear hK K
  refine wpAny_ready (rs := [1]) (by kernel_rfl) (by simp) ?_
  refine AllReady.cons rfl (fun K hK => ?_) AllReady.nil
  go_simp
  go_wp2_with (go_at_call 59; with_reducible refine (HT.out _).mono ?_; rintro e w2 ⟨rfl, hb2⟩)
  refine wpAny_ready (rs := [2]) (by kernel_rfl) (by simp) ?_
  refine AllReady.cons rfl (fun K hK => ?_) AllReady.nil
  go_simp
  refine hK _ _ ?_
  clear hK K
  refine wpAny_take (i := 3) (v := undef) rfl (by kernel_rfl) (by kernel_rfl) (by kernel_rfl) (fun _ _ _ h => h) (Or.inr ⟨by kernel_rfl, rfl⟩) ?_
  try go_simp
  refine wpAny_take (i := 4) (v := undef) rfl (by kernel_rfl) (by kernel_rfl) (by kernel_rfl) (fun _ _ _ h => h) (Or.inr ⟨by kernel_rfl, rfl⟩) ?_
  try go_simp
  refine wpAny_take (i := 5) (v := undef) rfl (by kernel_rfl) (by kernel_rfl) (by kernel_rfl) (fun _ _ _ h => h) (Or.inr ⟨by kernel_rfl, rfl⟩) ?_
  try go_simp
  refine wpAny_take (i := 6) (v := undef) rfl (by kernel_rfl) (by kernel_rfl) (by kernel_rfl) (fun _ _ _ h => h) (Or.inr ⟨by kernel_rfl, rfl⟩) ?_
  try go_simp
  refine wpAny_take (i := 7) (v := undef) rfl (by kernel_rfl) (by kernel_rfl) (by kernel_rfl) (fun _ _ _ h => h) (Or.inr ⟨by kernel_rfl, rfl⟩) ?_
  try go_simp
  refine wpAny_ready (rs := [8]) (by kernel_rfl) (by simp) ?_
  refine AllReady.cons rfl (fun K hK => ?_) AllReady.nil
  go_simp
  refine hK _ _ ?_
  clear hK K
  refine wpAny_ready (rs := [9]) (by kernel_rfl) (by simp) ?_
  refine AllReady.cons rfl (fun K hK => ?_) AllReady.nil
  go_simp
  refine hK _ _ ?_
  clear hK K
  refine wpAny_take (i := 10) (v := undef) rfl (by kernel_rfl) (by kernel_rfl) (by kernel_rfl) (fun _ _ _ h => h) (Or.inr ⟨by kernel_rfl, rfl⟩) ?_
  try go_simp
  refine wpAny_take (i := 11) (v := undef) rfl (by kernel_rfl) (by kernel_rfl) (by kernel_rfl) (fun _ _ _ h => h) (Or.inr ⟨by kernel_rfl, rfl⟩) ?_
  try go_simp
  refine wpAny_take (i := 12) (v := undef) rfl (by kernel_rfl) (by kernel_rfl) (by kernel_rfl) (fun _ _ _ h => h) (Or.inr ⟨by kernel_rfl, rfl⟩) ?_
  try go_simp
  refine wpAny_take (i := 13) (v := undef) rfl (by kernel_rfl) (by kernel_rfl) (by kernel_rfl) (fun _ _ _ h => h) (Or.inr ⟨by kernel_rfl, rfl⟩) ?_
  try go_simp
  refine wpAny_take (i := 14) (v := undef) rfl (by kernel_rfl) (by kernel_rfl) (by kernel_rfl) (fun _ _ _ h => h) (Or.inr ⟨by kernel_rfl, rfl⟩) ?_
  try go_simp
  refine wpAny_take (i := 15) (v := undef) rfl (by kernel_rfl) (by kernel_rfl) (by kernel_rfl) (fun _ _ _ h => h) (Or.inr ⟨by kernel_rfl, rfl⟩) ?_
  try go_simp
  refine wpAny_take (i := 16) (v := undef) rfl (by kernel_rfl) (by kernel_rfl) (by kernel_rfl) (fun _ _ _ h => h) (Or.inr ⟨by kernel_rfl, rfl⟩) ?_
  try go_simp
  refine wpAny_take (i := 17) (v := undef) rfl (by kernel_rfl) (by kernel_rfl) (by kernel_rfl) (fun _ _ _ h => h) (Or.inr ⟨by kernel_rfl, rfl⟩) ?_
  try go_simp
  refine wpAny_take (i := 18) (v := undef) rfl (by kernel_rfl) (by kernel_rfl) (by kernel_rfl) (fun _ _ _ h => h) (Or.inr ⟨by kernel_rfl, rfl⟩) ?_
  try go_simp
  refine wpAny_ready (rs := [19]) (by kernel_rfl) (by simp) ?_
  refine AllReady.cons rfl (fun K hK => ?_) AllReady.nil
  go_simp
  refine hK _ _ ?_
  clear hK K
  refine wpAny_ready (rs := [20]) (by kernel_rfl) (by simp) ?_
  refine AllReady.cons rfl (fun K hK => ?_) AllReady.nil
  go_simp
  refine hK _ _ ?_
  clear hK K
  refine wpAny_done (by kernel_rfl) ?_ _
  go_wp2_with fail
  go_ret
  exact ⟨rfl, below_next (w1 := W0.drew) hA.drew hb2⟩

theorem canDouble_no2 (zs : List Int) (f : Int) (j : Nat) (w : World) (h : two 4 f (j : Int) = true) (hz : ¬ 0 < pd zs j) :
    Calls Try.prog 57 #[.agg #[.int .i64 (pd zs 0), .int .i64 (pd zs 1), .int .i64 (pd zs 2), .int .i64 (pd zs 3)], .agg #[.int .i64 f, .int .i64 (j : Int)]] w fun e w' => e = .returned (.bool false) ∧ Below w.heap.size w w' := by
  have HT := hide (fun W => isDoubling_any f (j : Int) W)
  have hb := two_bd h
  have hj : j < 4 := by omega
  have hji : (j : Int) < 4 := by omega
  have hz' : decide (0 < pd zs j) = false := by simp <;> omega
  rw [h] at HT
  clear h hb hz
  go_enter Try.func57, Try.ntmps57
  go_wp2_with fail
  have hA : Below w.heap.size w ((w.alloc (.cells #[.int .i64 (pd zs 0), .int .i64 (pd zs 1), .int .i64 (pd zs 2), .int .i64 (pd zs 3)] 42)).alloc (.cells #[.int .i64 f, .int .i64 (j : Int)] 38)) := ((Below.refl _ _).alloc (Nat.le_refl _) _).alloc (by simp) _
  have d0 : ((w.alloc (.cells #[.int .i64 (pd zs 0), .int .i64 (pd zs 1), .int .i64 (pd zs 2), .int .i64 (pd zs 3)] 42)).alloc (.cells #[.int .i64 f, .int .i64 (j : Int)] 38)).cell? ⟨w.heap.size + 1, 0, none⟩ = some (.int .i64 f) := by simp
  have d1 : ((w.alloc (.cells #[.int .i64 (pd zs 0), .int .i64 (pd zs 1), .int .i64 (pd zs 2), .int .i64 (pd zs 3)] 42)).alloc (.cells #[.int .i64 f, .int .i64 (j : Int)] 38)).cell? ⟨w.heap.size + 1, 1, none⟩ = some (.int .i64 (j : Int)) := by simp
  have hrw : ((w.alloc (.cells #[.int .i64 (pd zs 0), .int .i64 (pd zs 1), .int .i64 (pd zs 2), .int .i64 (pd zs 3)] 42)).alloc (.cells #[.int .i64 f, .int .i64 (j : Int)] 38)).rowIs w.heap.size 42 4 (fun j => .int .i64 (pd zs j)) := (row4_alloc w zs _).of_block (Below.heap_alloc _ _ _ (by simp))
  have z1 : w.heap.size + 1 < ((w.alloc (.cells #[.int .i64 (pd zs 0), .int .i64 (pd zs 1), .int .i64 (pd zs 2), .int .i64 (pd zs 3)] 42)).alloc (.cells #[.int .i64 f, .int .i64 (j : Int)] 38)).heap.size := by simp
  generalize ((w.alloc (.cells #[.int .i64 (pd zs 0), .int .i64 (pd zs 1), .int .i64 (pd zs 2), .int .i64 (pd zs 3)] 42)).alloc (.cells #[.int .i64 f, .int .i64 (j : Int)] 38)) = W0 at *
  have HS := hide (fun W' (h : Below W0.heap.size W0 W') => And.intro ((h.cell (p := ⟨w.heap.size + 1, 1, none⟩) z1).trans d1) ((hrw.of_block (h.block _ (Nat.lt_of_succ_lt z1))).cell hj))
  refine wp_region_any (by kernel_rfl) ?_
  change wpAny _ _ _ _ _ _ _ (World.drew _)
  refine wpAny_ready (rs := [0]) (by kernel_rfl) (by simp) ?_
  refine AllReady.cons rfl (fun K hK => ?_) AllReady.nil
  go_simp
  refine hK _ _ ?_
  clear hK K
  refine wpAny_ready (rs := [1]) (by kernel_rfl) (by simp) ?_
  refine AllReady.cons rfl (fun K hK => ?_) AllReady.nil
  go_simp
  go_wp2_with (go_at_call 59; with_reducible refine (HT.out _).mono ?_; rintro e w2 ⟨rfl, hb2⟩; obtain ⟨e1, e2⟩ := HS.out _ (below_next (Below.refl _ _).drew hb2))
  refine wpAny_ready (rs := [2]) (by kernel_rfl) (by simp) ?_
  refine AllReady.cons rfl (fun K hK => ?_) AllReady.nil
  go_simp
  refine hK _ _ ?_
  clear hK K
  refine wpAny_ready (rs := [3]) (by kernel_rfl) (by simp) ?_
  refine AllReady.cons rfl (fun K hK => ?_) AllReady.nil
  go_simp
  refine hK _ _ ?_
  clear hK K
  refine wpAny_ready (rs := [4]) (by kernel_rfl) (by simp) ?_
  refine AllReady.cons rfl (fun K hK => ?_) AllReady.nil
  go_simp
  refine hK _ _ ?_
  clear hK K
  refine wpAny_ready (rs := [5]) (by kernel_rfl) (by simp) ?_
  refine AllReady.cons rfl (fun K hK => ?_) AllReady.nil
  go_simp
  refine hK _ _ ?_
  clear hK K
  refine wpAny_ready (rs := [6]) (by kernel_rfl) (by simp) ?_
  refine AllReady.cons rfl (fun K hK => ?_) AllReady.nil
  go_simp
  refine hK _ _ ?_
  clear hK K
  refine wpAny_ready (rs := [7]) (by kernel_rfl) (by simp) ?_
  refine AllReady.cons rfl (fun K hK => ?_) AllReady.nil
  go_simp
  refine hK _ _ ?_
  clear hK K
  refine wpAny_ready (rs := [8]) (by kernel_rfl) (by simp) ?_
  refine AllReady.cons rfl (fun K hK => ?_) AllReady.nil
  go_simp
  refine hK _ _ ?_
  clear hK K
  refine wpAny_ready (rs := [9]) (by kernel_rfl) (by simp) ?_
  refine AllReady.cons rfl (fun K hK => ?_) AllReady.nil
  go_simp
  refine hK _ _ ?_
  clear hK K
  refine wpAny_take (i := 10) (v := undef) rfl (by kernel_rfl) (by kernel_rfl) (by kernel_rfl) (fun _ _ _ h => h) (Or.inr ⟨by kernel_rfl, rfl⟩) ?_
  try go_simp
  refine wpAny_take (i := 11) (v := undef) rfl (by kernel_rfl) (by kernel_rfl) (by kernel_rfl) (fun _ _ _ h => h) (Or.inr ⟨by kernel_rfl, rfl⟩) ?_
  try go_simp
  refine wpAny_take (i := 12) (v := undef) rfl (by kernel_rfl) (by kernel_rfl) (by kernel_rfl) (fun _ _ _ h => h) (Or.inr ⟨by kernel_rfl, rfl⟩) ?_
  try go_simp
  refine wpAny_take (i := 13) (v := undef) rfl (by kernel_rfl) (by kernel_rfl) (by kernel_rfl) (fun _ _ _ h => h) (Or.inr ⟨by kernel_rfl, rfl⟩) ?_
  try go_simp
  refine wpAny_take (i := 14) (v := undef) rfl (by kernel_rfl) (by kernel_rfl) (by kernel_rfl) (fun _ _ _ h => h) (Or.inr ⟨by kernel_rfl, rfl⟩) ?_
  try go_simp
  refine wpAny_take (i := 15) (v := undef) rfl (by kernel_rfl) (by kernel_rfl) (by kernel_rfl) (fun _ _ _ h => h) (Or.inr ⟨by kernel_rfl, rfl⟩) ?_
  try go_simp
  refine wpAny_take (i := 16) (v := undef) rfl (by kernel_rfl) (by kernel_rfl) (by kernel_rfl) (fun _ _ _ h => h) (Or.inr ⟨by kernel_rfl, rfl⟩) ?_
  try go_simp
  refine wpAny_take (i := 17) (v := undef) rfl (by kernel_rfl) (by kernel_rfl) (by kernel_rfl) (fun _ _ _ h => h) (Or.inr ⟨by kernel_rfl, rfl⟩) ?_
  try go_simp
  refine wpAny_take (i := 18) (v := undef) rfl (by kernel_rfl) (by kernel_rfl) (by kernel_rfl) (fun _ _ _ h => h) (Or.inr ⟨by kernel_rfl, rfl⟩) ?_
  try go_simp
  refine wpAny_ready (rs := [19]) (by kernel_rfl) (by simp) ?_
  refine AllReady.cons rfl (fun K hK => ?_) AllReady.nil
  go_simp
  refine hK _ _ ?_
  clear hK K
  refine wpAny_ready (rs := [20]) (by kernel_rfl) (by simp) ?_
  refine AllReady.cons rfl (fun K hK => ?_) AllReady.nil
  go_simp
  refine hK _ _ ?_
  clear hK K
  refine wpAny_done (by kernel_rfl) ?_ _
  go_wp2_with fail
  go_ret
  exact ⟨rfl, below_next (w1 := W0.drew) hA.drew hb2⟩

theorem canDouble_go (zs : List Int) (i j : Nat) (w : World) (h : two 4 (i : Int) (j : Int) = true) (hz : 0 < pd zs j) :
    Calls Try.prog 57 #[.agg #[.int .i64 (pd zs 0), .int .i64 (pd zs 1), .int .i64 (pd zs 2), .int .i64 (pd zs 3)], .agg #[.int .i64 (i : Int), .int .i64 (j : Int)]] w fun e w' => e = .returned (.bool (decide (pd zs j ≤ pd zs i))) ∧ Below w.heap.size w w' := by
  have HT := hide (fun W => isDoubling_any (i : Int) (j : Int) W)
  have hb := two_bd h
  have hj : j < 4 := by omega
  have hi : i < 4 := by omega
  have hji : (j : Int) < 4 := by omega
  have hii : (i : Int) < 4 := by omega
  have hz' : decide (0 < pd zs j) = true := by simpa using hz
  rw [h] at HT
  clear h hb hz
  go_enter Try.func57, Try.ntmps57
  go_wp2_with fail
  have hA : Below w.heap.size w ((w.alloc (.cells #[.int .i64 (pd zs 0), .int .i64 (pd zs 1), .int .i64 (pd zs 2), .int .i64 (pd zs 3)] 42)).alloc (.cells #[.int .i64 (i : Int), .int .i64 (j : Int)] 38)) := ((Below.refl _ _).alloc (Nat.le_refl _) _).alloc (by simp) _
  have d0 : ((w.alloc (.cells #[.int .i64 (pd zs 0), .int .i64 (pd zs 1), .int .i64 (pd zs 2), .int .i64 (pd zs 3)] 42)).alloc (.cells #[.int .i64 (i : Int), .int .i64 (j : Int)] 38)).cell? ⟨w.heap.size + 1, 0, none⟩ = some (.int .i64 (i : Int)) := by simp
  have d1 : ((w.alloc (.cells #[.int .i64 (pd zs 0), .int .i64 (pd zs 1), .int .i64 (pd zs 2), .int .i64 (pd zs 3)] 42)).alloc (.cells #[.int .i64 (i : Int), .int .i64 (j : Int)] 38)).cell? ⟨w.heap.size + 1, 1, none⟩ = some (.int .i64 (j : Int)) := by simp
  have hrw : ((w.alloc (.cells #[.int .i64 (pd zs 0), .int .i64 (pd zs 1), .int .i64 (pd zs 2), .int .i64 (pd zs 3)] 42)).alloc (.cells #[.int .i64 (i : Int), .int .i64 (j : Int)] 38)).rowIs w.heap.size 42 4 (fun j => .int .i64 (pd zs j)) := (row4_alloc w zs _).of_block (Below.heap_alloc _ _ _ (by simp))
  have z1 : w.heap.size + 1 < ((w.alloc (.cells #[.int .i64 (pd zs 0), .int .i64 (pd zs 1), .int .i64 (pd zs 2), .int .i64 (pd zs 3)] 42)).alloc (.cells #[.int .i64 (i : Int), .int .i64 (j : Int)] 38)).heap.size := by simp
  generalize ((w.alloc (.cells #[.int .i64 (pd zs 0), .int .i64 (pd zs 1), .int .i64 (pd zs 2), .int .i64 (pd zs 3)] 42)).alloc (.cells #[.int .i64 (i : Int), .int .i64 (j : Int)] 38)) = W0 at *
  have HS : Hid (∀ W', Below W0.heap.size W0 W' → (Below W0.heap.size W0 W' ∧ W'.cell? ⟨w.heap.size + 1, 0, none⟩ = some (.int .i64 (i : Int)) ∧ W'.cell? ⟨w.heap.size + 1, 1, none⟩ = some (.int .i64 (j : Int)) ∧ W'.cell? ⟨w.heap.size, i, none⟩ = some (.int .i64 (pd zs i)) ∧ W'.cell? ⟨w.heap.size, j, none⟩ = some (.int .i64 (pd zs j)))) :=
    hide (fun W' h => ⟨h, (h.cell (p := ⟨w.heap.size + 1, 0, none⟩) z1).trans d0, (h.cell (p := ⟨w.heap.size + 1, 1, none⟩) z1).trans d1, (hrw.of_block (h.block _ (Nat.lt_of_succ_lt z1))).cell hi, (hrw.of_block (h.block _ (Nat.lt_of_succ_lt z1))).cell hj⟩)
  clear hrw
  first | go_region_held3 (fun W => Below W0.heap.size W0 W ∧ W.cell? ⟨w.heap.size + 1, 0, none⟩ = some (.int .i64 (i : Int)) ∧ W.cell? ⟨w.heap.size + 1, 1, none⟩ = some (.int .i64 (j : Int)) ∧ W.cell? ⟨w.heap.size, i, none⟩ = some (.int .i64 (pd zs i)) ∧ W.cell? ⟨w.heap.size, j, none⟩ = some (.int .i64 (pd zs j)))
    (first | exact HS.out _ (Below.refl _ _).drew | exact HS.out _ (below_next (And.left (by assumption)) hb2) | go_keep)
    (first | (go_at_call 59; (with_reducible refine (HT.out _).mono ?_); rintro e w2 ⟨rfl, hb2⟩)) | fail
  obtain ⟨hB0, _, _, _, _⟩ := (show Below W0.heap.size W0 w2 ∧ w2.cell? ⟨w.heap.size + 1, 0, none⟩ = some (.int .i64 (i : Int)) ∧ w2.cell? ⟨w.heap.size + 1, 1, none⟩ = some (.int .i64 (j : Int)) ∧ w2.cell? ⟨w.heap.size, i, none⟩ = some (.int .i64 (pd zs i)) ∧ w2.cell? ⟨w.heap.size, j, none⟩ = some (.int .i64 (pd zs j)) from by assumption)
  go_wp2_with fail
  go_ret
  exact ⟨rfl, below_next hA hB0⟩

theorem canDouble_any (zs : List Int) (f t : Int) (w : World) (hs : small zs) (hn : zs.length ≤ 4) :
    Calls Try.prog 57 #[.agg #[.int .i64 (pd zs 0), .int .i64 (pd zs 1), .int .i64 (pd zs 2), .int .i64 (pd zs 3)], .agg #[.int .i64 f, .int .i64 t]] w fun e w' => e = .returned (.bool (canD zs f t)) ∧ Below w.heap.size w w' := by
  cases h : two 4 f t
  · rw [canD_no (fun hc => by have := two_yes (n := 4) (f := f) (t := t) (by omega); rw [h] at this; cases this)]
    exact canDouble_no1 zs f t w h
  · have hb := two_bd h
    obtain ⟨i, rfl⟩ := Int.eq_ofNat_of_zero_le hb.1
    obtain ⟨j, rfl⟩ := Int.eq_ofNat_of_zero_le hb.2.2.1
    by_cases hz : 0 < pd zs j
    · have hjl : j < zs.length := by
        rcases Nat.lt_or_ge j zs.length with h1 | h1
        · exact h1
        · rw [pd_ge h1] at hz; omega
      have e : canD zs (i : Int) (j : Int) = decide (pd zs j ≤ pd zs i) := by
        rw [pd_lt hjl] at hz ⊢
        by_cases hil : i < zs.length
        · rw [pd_lt hil]
          unfold canD
          rw [Int.toNat_natCast, Int.toNat_natCast, getD_get hil, getD_get hjl]
          by_cases hc : zs[j] ≤ zs[i]
          · rw [decide_eq_true hc]; exact decide_eq_true ⟨by omega, by omega, by omega, by omega, by omega, hz, hc⟩
          · rw [decide_eq_false hc]; exact decide_eq_false (fun h => hc h.2.2.2.2.2.2)
        · rw [pd_ge (by omega), canD_no (fun h => by omega)]; exact (decide_eq_false (by omega)).symm
      rw [e]
      exact canDouble_go zs i j w h hz
    · rw [canD_no (fun hc => hz (by
        have hjl : j < zs.length := by omega
        have := hc.2.2.2.2.2.1
        rw [Int.toNat_natCast, getD_get hjl] at this
        rw [pd_lt hjl]; exact this))]
      exact canDouble_no2 zs (i : Int) j w h hz

theorem pd_dmade {zs : List Int} {i j : Nat} (hi : i < zs.length) (hj : j < zs.length) (hij : i ≠ j) (k : Nat) : pd (dmade i j zs) k = if k = j then 2 * zs[j] else if k = i then zs[i] - zs[j] else pd zs k := by
  unfold pd dmade
  rw [getD_get hi, getD_get hj]
  by_cases h1 : k = j
  · subst h1; simp [List.getD, hj]
  · rw [if_neg h1]
    by_cases h2 : k = i
    · subst h2; simp [List.getD, hi, List.getElem_set, Ne.symm h1]
    · simp [List.getD, List.getElem?_set_ne (Ne.symm h1), List.getElem?_set_ne (Ne.symm h2), h2]

theorem doubled_any (zs : List Int) (i j : Nat) (w : World) (hs : small zs) (hn : zs.length ≤ 4) (hi : i < zs.length) (hj : j < zs.length) (hij : i ≠ j) (hle : zs[j] ≤ zs[i]) :
    Calls Try.prog 52 #[.agg #[.int .i64 (pd zs 0), .int .i64 (pd zs 1), .int .i64 (pd zs 2), .int .i64 (pd zs 3)], .agg #[.int .i64 (i : Int), .int .i64 (j : Int)]] w fun e w' => e = .returned (.agg #[.int .i64 (pd (dmade i j zs) 0), .int .i64 (pd (dmade i j zs) 1), .int .i64 (pd (dmade i j zs) 2), .int .i64 (pd (dmade i j zs) 3)]) ∧ Below w.heap.size w w' := by
  have zi := small_get hs i hi
  have zj := small_get hs j hj
  have HP := hide (pd_dmade hi hj hij)
  have hi4 : (i : Int) < 4 := by omega
  have hj4 : (j : Int) < 4 := by omega
  have hi' : i < 4 := by omega
  have hj' : j < 4 := by omega
  have HI := hide (pd_lt hi)
  have HJ := hide (pd_lt hj)
  go_enter Try.func52, Try.ntmps52
  go_wp2_with fail
  have hA : Below w.heap.size w (((w.alloc (.cells #[.int .i64 (pd zs 0), .int .i64 (pd zs 1), .int .i64 (pd zs 2), .int .i64 (pd zs 3)] 42)).alloc (.cells #[.int .i64 (i : Int), .int .i64 (j : Int)] 38)).alloc (.cells #[.int .i64 0, .int .i64 0, .int .i64 0, .int .i64 0] 42)) := (((Below.refl _ _).alloc (Nat.le_refl _) _).alloc (by simp) _).alloc (by simp; omega) _
  have d0 : (((w.alloc (.cells #[.int .i64 (pd zs 0), .int .i64 (pd zs 1), .int .i64 (pd zs 2), .int .i64 (pd zs 3)] 42)).alloc (.cells #[.int .i64 (i : Int), .int .i64 (j : Int)] 38)).alloc (.cells #[.int .i64 0, .int .i64 0, .int .i64 0, .int .i64 0] 42)).cell? ⟨w.heap.size + 1, 0, none⟩ = some (.int .i64 (i : Int)) := (World.cell?_alloc_lt _ _ ⟨w.heap.size + 1, 0, none⟩ (by simp)).trans (by simp)
  have d1 : (((w.alloc (.cells #[.int .i64 (pd zs 0), .int .i64 (pd zs 1), .int .i64 (pd zs 2), .int .i64 (pd zs 3)] 42)).alloc (.cells #[.int .i64 (i : Int), .int .i64 (j : Int)] 38)).alloc (.cells #[.int .i64 0, .int .i64 0, .int .i64 0, .int .i64 0] 42)).cell? ⟨w.heap.size + 1, 1, none⟩ = some (.int .i64 (j : Int)) := (World.cell?_alloc_lt _ _ ⟨w.heap.size + 1, 1, none⟩ (by simp)).trans (by simp)
  have hrw : (((w.alloc (.cells #[.int .i64 (pd zs 0), .int .i64 (pd zs 1), .int .i64 (pd zs 2), .int .i64 (pd zs 3)] 42)).alloc (.cells #[.int .i64 (i : Int), .int .i64 (j : Int)] 38)).alloc (.cells #[.int .i64 0, .int .i64 0, .int .i64 0, .int .i64 0] 42)).rowIs w.heap.size 42 4 (fun j => .int .i64 (pd zs j)) := by
    have a : ((w.alloc (.cells #[.int .i64 (pd zs 0), .int .i64 (pd zs 1), .int .i64 (pd zs 2), .int .i64 (pd zs 3)] 42)).alloc (.cells #[.int .i64 (i : Int), .int .i64 (j : Int)] 38)).rowIs w.heap.size 42 4 (fun j => .int .i64 (pd zs j)) := (row4_alloc w zs _).of_block (Below.heap_alloc _ _ _ (by simp))
    exact a.of_block (Below.heap_alloc _ _ _ (by simp; omega))
  have hres : (((w.alloc (.cells #[.int .i64 (pd zs 0), .int .i64 (pd zs 1), .int .i64 (pd zs 2), .int .i64 (pd zs 3)] 42)).alloc (.cells #[.int .i64 (i : Int), .int .i64 (j : Int)] 38)).alloc (.cells #[.int .i64 0, .int .i64 0, .int .i64 0, .int .i64 0] 42)).rowIs (w.heap.size + 1 + 1) 42 4 (fun _ => .int .i64 0) := by
    have := zero4 ((w.alloc (.cells #[.int .i64 (pd zs 0), .int .i64 (pd zs 1), .int .i64 (pd zs 2), .int .i64 (pd zs 3)] 42)).alloc (.cells #[.int .i64 (i : Int), .int .i64 (j : Int)] 38)) 42
    simpa using this
  generalize (((w.alloc (.cells #[.int .i64 (pd zs 0), .int .i64 (pd zs 1), .int .i64 (pd zs 2), .int .i64 (pd zs 3)] 42)).alloc (.cells #[.int .i64 (i : Int), .int .i64 (j : Int)] 38)).alloc (.cells #[.int .i64 0, .int .i64 0, .int .i64 0, .int .i64 0] 42)) = W0 at *
  have ci := hrw.cell hi'
  have cj := hrw.cell hj'
  have fi := hrw.frozen i
  rw [HI.out] at ci
  rw [HJ.out] at cj
  have hrw1 := hrw.set i (.int .i64 (zs[i] - zs[j]))
  have cj1 := hrw1.cell hj'
  rw [if_neg (Ne.symm hij), HJ.out] at cj1
  have fj1 := hrw1.frozen j
  have d1' : (W0.setCell ⟨w.heap.size, i, none⟩ (.int .i64 (zs[i] - zs[j]))).cell? ⟨w.heap.size + 1, 1, none⟩ = some (.int .i64 (j : Int)) := by
    rw [World.cell?_setCell_other _ _ _ _ (by simp)]; exact d1
  have hrw2 := (hrw1.set j (.int .i64 (zs[j] * 2))).congr (g := fun k => Value.int .i64 (pd (dmade i j zs) k)) (fun k hk => by
    show _ = Value.int .i64 (pd (dmade i j zs) k)
    rw [HP.out k]
    by_cases h1 : k = j
    · rw [if_pos h1, if_pos h1, Int.mul_comm]
    · rw [if_neg h1, if_neg h1]
      by_cases h2 : k = i
      · rw [if_pos h2, if_pos h2]
      · rw [if_neg h2, if_neg h2])
  obtain ⟨r0, r1, r2, r3⟩ := four_cells hrw2
  have hres2 := (hres.of_block (w' := (W0.setCell ⟨w.heap.size, i, none⟩ (.int .i64 (zs[i] - zs[j]))).setCell ⟨w.heap.size, j, none⟩ (.int .i64 (zs[j] * 2))) (by
    rw [Below.heap_setCell _ _ _ _ (by show w.heap.size + 1 + 1 ≠ w.heap.size; omega), Below.heap_setCell _ _ _ _ (by show w.heap.size + 1 + 1 ≠ w.heap.size; omega)]))
  obtain ⟨s0, s1, s2, s3⟩ := four_cells hres2
  obtain ⟨f0, f1, f2, f3⟩ := four_free hres2
  have HF := hide (four_store hres2 (fun k => Value.int .i64 (pd (dmade i j zs) k)))
  have HB := hide ((hA.setCell (Nat.le_refl _) (.int .i64 (zs[i] - zs[j])) (p := ⟨w.heap.size, i, none⟩)).setCell (Nat.le_refl _) (.int .i64 (zs[j] * 2)) (p := ⟨w.heap.size, j, none⟩))
  clear hrw hrw1 hrw2 hres hres2 hA
  go_region
  go_wp2_with fail
  obtain ⟨g0, g1, g2, g3⟩ := four_cells HF.out
  exact bodyPost_ret (v := .agg #[.int .i64 (pd (dmade i j zs) 0), .int .i64 (pd (dmade i j zs) 1), .int .i64 (pd (dmade i j zs) 2), .int .i64 (pd (dmade i j zs) 3)]) (by simp [results, Try.results52, go_sem, g0, g1, g2, g3]) rfl
    ⟨rfl, ((((HB.out.setCell (show w.heap.size ≤ w.heap.size + 1 + 1 by omega) _ (p := ⟨w.heap.size + 1 + 1, 0, none⟩)).setCell (show w.heap.size ≤ w.heap.size + 1 + 1 by omega) _ (p := ⟨w.heap.size + 1 + 1, 1, none⟩)).setCell (show w.heap.size ≤ w.heap.size + 1 + 1 by omega) _ (p := ⟨w.heap.size + 1 + 1, 2, none⟩)).setCell (show w.heap.size ≤ w.heap.size + 1 + 1 by omega) _ (p := ⟨w.heap.size + 1 + 1, 3, none⟩)).drew⟩
end Go.Proofs.Ytnakkmmmkbjfbaa

/-
  ALL DOUBLINGS OF FOUR HEAPS, THE PROGRAM's WAY: allDoublings; the closure of 'doublings'.
-/
namespace Go.Proofs.Ytnakkmmmkbjfbaa
open Go.RowKit Go.Deep
set_option linter.unusedVariables false

def innA (f : Nat) : Nat → List Db
  | 0 => []
  | j + 1 => innA f j ++ (if f ≠ j then [⟨(f : Int), (j : Int)⟩] else [])
def outA : Nat → List Db
  | 0 => []
  | k + 1 => outA k ++ innA k 4
/-- All of them. -/
def all12 : List Db := outA 4
theorem innA_len (f : Nat) : ∀ j, (innA f j).length ≤ j
  | 0 => by simp [innA]
  | j + 1 => by
    have := innA_len f j
    unfold innA
    split <;> simp <;> omega
theorem outA_len : ∀ k, (outA k).length ≤ k * 4
  | 0 => by simp [outA]
  | k + 1 => by
    have h1 := outA_len k
    have h2 := innA_len k 4
    unfold outA
    rw [List.length_append]
    omega

set_option maxRecDepth 1000000 in
theorem allDoublings_any (w : World) :
    Calls Try.prog 55 #[] w fun e w' => ∃ A' c', e = .returned (.slice A' all12.length c') ∧ OwnIDb w' w.heap.size (.slice A' all12.length c') all12.length (numsDb all12) ∧ Below w.heap.size w w' := by
  have HO := hide (fun k => outA_len k)
  have HI := hide (fun f j => innA_len f j)
  go_enter Try.func55, Try.ntmps55
  go_wp2_with fail
  go_loopw [1, 4] (fun v i wr => ∃ k : Nat, k ≤ 4 ∧ i = .int .i64 k ∧ OwnIDb wr w.heap.size v (outA k).length (numsDb (outA k)) ∧ Below w.heap.size w wr)
    (fun _ i _ => 4 - (intOf i).toNat)
  case atStart => exact ⟨0, Nat.zero_le _, rfl, OwnIDb.nil _ _, Below.refl _ _⟩
  case round =>
    obtain ⟨k, hk, rfl, hown, hb⟩ := hrel
    have hok := HO.out k
    by_cases hlt : k < 4
    · have Hown := hide hown
      have Hb := hide hb
      have hk4 : decide ((k : Int) < 4) = true := by simp; omega
      clear hown hb
      go_wp2_with fail
      go_loopw [1, 7] (fun v i wr => ∃ j : Nat, j ≤ 4 ∧ i = .int .i64 j ∧ OwnIDb wr w.heap.size v (outA k ++ innA k j).length (numsDb (outA k ++ innA k j)) ∧ Below w.heap.size w wr)
        (fun _ i _ => 4 - (intOf i).toNat)
      case atStart => exact ⟨0, Nat.zero_le _, rfl, by simpa [innA] using Hown.out, Hb.out⟩
      case round =>
        obtain ⟨j, hj, rfl, hown, hb⟩ := hrel
        have hb0 := hb.size
        have hij := HI.out k j
        by_cases hjl : j < 4
        · by_cases hkj : k = j
          · have HN := hide (show outA k ++ innA k (j + 1) = outA k ++ innA k j from by rw [innA, if_neg (by omega)]; simp)
            have hd : ((k : Int) != (j : Int)) = false := by simp; omega
            have Hown2 := hide hown
            clear hkj hown
            go_wp2_with fail
            go_roundw
            case rel => exact ⟨j + 1, by omega, by go_num, by rw [HN.out]; exact Hown2.out, hb⟩
            case measure => simp [intOf]; omega
          · have HN := hide (show outA k ++ innA k (j + 1) = (outA k ++ innA k j) ++ [⟨(k : Int), (j : Int)⟩] from by rw [innA, if_pos hkj]; simp)
            have hd : ((k : Int) != (j : Int)) = true := by simp; omega
            have hlen : (outA k ++ innA k j).length < 1000000 := by rw [List.length_append]; omega
            generalize hL : outA k ++ innA k j = L at *
            have HL := hide hL
            clear hkj hL
            go_wp2_with (at_builtin; refine wpList_app_Db rfl _ _ 28 rfl Try.underlying28 w.heap.size _ L rfl hown ⟨(k : Int), (j : Int)⟩ _ rfl hb0 hlen ?_; intro v' w' hown' hb')
            go_roundw
            case rel => exact ⟨j + 1, by omega, by go_num, by rw [HN.out]; exact hown', hb.trans hb'⟩
            case measure => simp [intOf]; omega
        · have e : j = 4 := by omega
          have HE := hide (show outA k ++ innA k j = outA (k + 1) from by rw [e]; rfl)
          have Hown2 := hide hown
          clear e hown
          go_wp2_with fail
          go_roundw
          case rel => exact ⟨k + 1, by omega, by go_num, by rw [← HE.out]; exact Hown2.out, hb⟩
          case measure => simp [intOf]; omega
    · have e : k = 4 := by omega
      have HE := hide (show outA k = all12 from by rw [e]; rfl)
      clear e
      obtain ⟨A', c', hv⟩ := hown.shape
      subst hv
      go_wp2_with fail
      go_ret
      exact ⟨A', c', by rw [← HE.out]; rfl, by rw [← HE.out]; exact hown, hb⟩

/-- The closure: is it one that cannot be made? The row lies in its block. -/
theorem dblFn_any (zs : List Int) (d : Db) (g : Nat) (w : World) (hs : small zs) (hn : zs.length ≤ 4) (hrow : w.rowIs g 42 4 (fun j => .int .i64 (pd zs j))) :
    Calls Try.prog 56 #[.agg #[.int .i64 d.x0, .int .i64 d.x1], .pointer (some ⟨g, 0, none⟩)] w fun e w' => e = .returned (.bool (!canD zs d.x0 d.x1)) ∧ Below w.heap.size w w' := by
  have HC := hide (fun W => canDouble_any zs d.x0 d.x1 W hs hn)
  have hlt : g < w.heap.size := by obtain ⟨cur, h1, _⟩ := hrow; exact (Array.getElem?_eq_some_iff.1 h1).1
  have hrow0 := hrow.of_block (w' := w.alloc (.cells #[.int .i64 d.x0, .int .i64 d.x1] 38)) (Below.heap_alloc _ _ _ hlt)
  obtain ⟨r0, r1, r2, r3⟩ := four_cells hrow0
  clear hrow hrow0 hs
  generalize canD zs d.x0 d.x1 = b at *
  go_enter Try.func56, Try.ntmps56
  go_wp2_with fail
  refine (HC.out _).mono ?_; rintro e w2 ⟨rfl, hb2⟩
  go_wp2_with fail
  go_ret
  exact ⟨rfl, below_next ((Below.refl _ _).alloc (Nat.le_refl _) _) hb2⟩
end Go.Proofs.Ytnakkmmmkbjfbaa
