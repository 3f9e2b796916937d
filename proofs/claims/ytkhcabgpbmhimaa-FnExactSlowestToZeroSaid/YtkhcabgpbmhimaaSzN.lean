
/-
  THE NEXT LIST, THE PROGRAM's WAY: toNextList.
-/
import Derived.Test.YtkhcabgpbmhimaaSzB
namespace Go.Proofs.Ytkhcabgpbmhimaa
open Go.RowKit Go.Deep Go.Shelf
attribute [local go_sem] Oper.semAt_some
set_option linter.unusedVariables false

/-- 'slices.Backward(s)': the slice value is boxed; the function value captures the box. -/
theorem backward_in (F : Fence) (n : Nat) (hf : F.fn 18) (hro : F.round = none) (a : Option Addr) (len cap : Nat) (w : World) :
    CallsIn F n Try.prog 18 #[.slice a len cap] w fun e w' => e = .returned (.func (.func 22) #[] #[.pointer (some ⟨w.heap.size, 0, none⟩)]) ∧ w' = w.alloc (.cells #[.slice a len cap] 22) := by
  refine callsIn_of_wp Try.func18 rfl hf ?_ hro
  simp only [Try.ntmps18, List.size_toArray, List.length_cons, List.length_nil, Nat.reduceAdd, Nat.reduceSub, Array.replicate_succ, Array.replicate_zero, List.push_toArray, List.append_toArray, List.nil_append, List.cons_append]
  gi_wp2
  go_ret
  exact ⟨rfl, rfl⟩

/-- What a round of toNextList leans on: the boxes; all else as it was. -/
structure NextK (w : World) (g N c : Nat) (m : Int) (r : Bool) (W : World) : Prop where
  b0 : One W w.heap.size 22 (.slice (some ⟨g, 0, none⟩) N c)
  b1 : One W (w.heap.size + 1) 3 (.int .i64 m)
  b2 : One W (w.heap.size + 2) 4 (.bool r)
  b3 : One W (w.heap.size + 3) 22 (.slice (some ⟨g, 0, none⟩) N c)
  below : Below g w W
  oth : ∀ h, h < w.heap.size → h ≠ g → W.heap[h]? = w.heap[h]?
theorem NextK.next {w : World} {g N c : Nat} {m : Int} {r : Bool} {W W' : World} (h : NextK w g N c m r W) (hg : g < w.heap.size) (hb : Below (w.heap.size + 4) W W') : NextK w g N c m r W' :=
  ⟨h.b0.below hb (by omega), h.b1.below hb (by omega), h.b2.below hb (by omega), h.b3.below hb (by omega), h.below.trans (hb.mono (by omega)), fun i hi hne => (hb.block i (by omega)).trans (h.oth i hi hne)⟩
theorem NextK.put {w : World} {g N c : Nat} {m : Int} {r : Bool} {W : World} (h : NextK w g N c m r W) (hg : g < w.heap.size) (k : Nat) (v : Value) : NextK w g N c m r (W.setCell ⟨g, k, none⟩ v) :=
  ⟨h.b0.past (by simp; omega) _, h.b1.past (by simp; omega) _, h.b2.past (by simp; omega) _, h.b3.past (by simp; omega) _, h.below.setCell (p := ⟨g, k, none⟩) (Nat.le_refl _) v, fun i hi hne => (Below.heap_setCell _ _ _ _ (by simpa using hne)).trans (h.oth i hi hne)⟩
theorem NextK.say {w : World} {g N c : Nat} {m : Int} {r : Bool} {W : World} (h : NextK w g N c m r W) (hg : g < w.heap.size) (u : Bool) : NextK w g N c m u (W.setCell ⟨w.heap.size + 2, 0, none⟩ (.bool u)) :=
  ⟨h.b0.past (by simp) _, h.b1.past (by simp) _, h.b2.put _, h.b3.past (by simp) _, h.below.setCell (p := ⟨w.heap.size + 2, 0, none⟩) (by simp; omega) _, fun i hi hne => (Below.heap_setCell _ _ _ _ (by simp; omega)).trans (h.oth i hi hne)⟩
theorem NextK.new (w : World) (g N c : Nat) (m : Int) (hg : g < w.heap.size) : NextK w g N c m false ((((w.alloc (.cells #[.slice (some ⟨g, 0, none⟩) N c] 22)).alloc (.cells #[.int .i64 m] 3)).alloc (.cells #[.bool false] 4)).alloc (.cells #[.slice (some ⟨g, 0, none⟩) N c] 22)) := by
  have o0 := One.made w 22 (.slice (some ⟨g, 0, none⟩) N c)
  have o1 := One.made (w.alloc (.cells #[.slice (some ⟨g, 0, none⟩) N c] 22)) 3 (.int .i64 m)
  have o2 := One.made ((w.alloc (.cells #[.slice (some ⟨g, 0, none⟩) N c] 22)).alloc (.cells #[.int .i64 m] 3)) 4 (.bool false)
  have o3 := One.made (((w.alloc (.cells #[.slice (some ⟨g, 0, none⟩) N c] 22)).alloc (.cells #[.int .i64 m] 3)).alloc (.cells #[.bool false] 4)) 22 (.slice (some ⟨g, 0, none⟩) N c)
  simp only [World.size_alloc] at o1 o2 o3
  have hb : Below w.heap.size w ((((w.alloc (.cells #[.slice (some ⟨g, 0, none⟩) N c] 22)).alloc (.cells #[.int .i64 m] 3)).alloc (.cells #[.bool false] 4)).alloc (.cells #[.slice (some ⟨g, 0, none⟩) N c] 22)) :=
    ((((Below.refl _ _).alloc (Nat.le_refl _) _).alloc (by simp) _).alloc (by simp; omega) _).alloc (by simp; omega) _
  exact ⟨((o0.new _).new _).new _, (o1.new _).new _, o2.new _, o3, hb.mono (by omega), fun i hi _ => hb.block i hi⟩
theorem nxD_step {m : Int} {ys : List Int} {k : Nat} : nxD m ys (k + 1) = if ys.getD k 0 < m then (ys.set k (ys.getD k 0 + 1), true) else nxD m (ys.set k 0) k := rfl

set_option maxHeartbeats 8000000 in
set_option maxRecDepth 100000 in
/-- The program's toNextList. -/
theorem toNextList_any (g c N : Nat) (m : Int) (zs : List Int) (w : World) (hr : Row w g 3 zs) (hl : zs.length = N) (hN : N ≤ 1000) (hz : ∀ j, j < N → 0 ≤ zs.getD j 0 ∧ zs.getD j 0 ≤ 1000) :
    Calls Try.prog 12 #[.slice (some ⟨g, 0, none⟩) N c, .int .i64 m] w fun e w' => e = .returned (.bool (nxD m zs N).2) ∧ Row w' g 3 (nxD m zs N).1 ∧ Below g w w' ∧ ∀ h, h < w.heap.size → h ≠ g → w'.heap[h]? = w.heap[h]? := by
  have hg := hr.lt
  have hK := NextK.new w g N c m hg
  have hb : Below w.heap.size w ((((w.alloc (.cells #[.slice (some ⟨g, 0, none⟩) N c] 22)).alloc (.cells #[.int .i64 m] 3)).alloc (.cells #[.bool false] 4)).alloc (.cells #[.slice (some ⟨g, 0, none⟩) N c] 22)) :=
    ((((Below.refl _ _).alloc (Nat.le_refl _) _).alloc (by simp) _).alloc (by simp; omega) _).alloc (by simp; omega) _
  have hR := hr.below hb hg
  obtain ⟨W3, hW3⟩ : ∃ W, W = ((w.alloc (.cells #[.slice (some ⟨g, 0, none⟩) N c] 22)).alloc (.cells #[.int .i64 m] 3)).alloc (.cells #[.bool false] 4) := ⟨_, rfl⟩
  have hc3 : W3.cell? ⟨w.heap.size, 0, none⟩ = some (.slice (some ⟨g, 0, none⟩) N c) := by
    have := ((One.made w 22 (.slice (some ⟨g, 0, none⟩) N c)).new (.cells #[.int .i64 m] 3)).new (.cells #[.bool false] 4)
    rw [hW3]; exact this.cell
  have hs3 : W3.heap.size = w.heap.size + 3 := by rw [hW3]; simp
  rw [← hW3] at hK hR hb
  have hs4 : (W3.alloc (.cells #[.slice (some ⟨g, 0, none⟩) N c] 22)).heap.size = w.heap.size + 4 := by simp [hs3]
  have HK := hide hK
  have HR := hide hR
  have HZ := hide hz
  clear hK hR hr hz hb
  obtain ⟨N0, hN0⟩ : ∃ N0, N0 = nxD m zs N := ⟨_, rfl⟩
  rw [← hN0]
  have HN0 := hide hN0
  clear hN0
  refine (callsIn_wide (n := 9)).1 ?_
  refine callsIn_of_wp_marks Try.func12 rfl trivial ?_
  simp only [Try.ntmps12, List.size_toArray, List.length_cons, List.length_nil, Nat.reduceAdd, Nat.reduceSub, Array.replicate_succ, Array.replicate_zero, List.push_toArray, List.append_toArray, List.nil_append, List.cons_append]
  gi_wp2
  rw [← hW3]
  clear hW3
  gi_wp2
  refine ⟨trivial, (backward_in Fence.wide _ trivial rfl _ _ _ _).mono ?_⟩; rintro e w4 ⟨rfl, rfl⟩
  gi_wp2
  generalize W3.alloc (.cells #[.slice (some ⟨g, 0, none⟩) N c] 22) = W4 at *
  clear hc3 hs3
  refine wpIn_rangeBwd (w.heap.size + 3) g N c (by omega) (by omega) rfl
    (fun k W => ∃ ys, Row W g 3 ys ∧ ys.length = N ∧ nxD m ys k = N0 ∧ (∀ j, j < N → 0 ≤ ys.getD j 0 ∧ ys.getD j 0 ≤ 1000) ∧ NextK w g N c m false W)
    (fun cd W => cd = .ret ∧ Row W g 3 N0.1 ∧ N0.2 = true ∧ NextK w g N c m true W) ?_ ?_ (fun k X ⟨ys, _, _, _, _, hk⟩ => hk.b3.cell) (fun k X hk ⟨ys, hr, hl', _⟩ => ⟨_, hr.atD (by omega)⟩) ⟨zs, HR.out, hl, HN0.out.symm, HZ.out, HK.out⟩
    (fun k x => { tmps := #[.slice (some ⟨g, 0, none⟩) N c, .int .i64 m, .pointer (some ⟨w.heap.size, 0, none⟩), .pointer (some ⟨w.heap.size + 1, 0, none⟩), .pointer (some ⟨w.heap.size + 1 + 1, 0, none⟩), .int .i64 k, .int .i64 x,
      .slice (some ⟨g, 0, none⟩) N c, .func (.func 22) #[] #[.pointer (some ⟨w.heap.size + 3, 0, none⟩)], .int .i64 k, .int .i64 x, undef, undef, undef, undef, undef, undef, undef, undef, undef, undef, undef, undef], defers := [] }) ?assign ?body ?done ?stop
  · rintro k X Y ⟨ys, h1, h2, h3, h4, h5⟩ hsd
    rw [hs4] at hsd
    exact ⟨ys, h1.below hsd (by omega), h2, h3, h4, h5.next hg hsd⟩
  · rintro cd X Y ⟨hcd, h1, h2, h3⟩ hsd
    rw [hs4] at hsd
    exact ⟨hcd, h1.below hsd (by omega), h2, h3.next hg hsd⟩
  case assign =>
    intro l k x W K hK
    gi_wp2
    exact hK
  case body =>
    rintro l k x Y hk ⟨ys, h1, h2, h3, h4, h5⟩ hx
    have hxx := h1.atD (show k < ys.length by omega)
    rw [hx] at hxx
    injection hxx with hxx
    injection hxx with _ hxx
    have hxb := h4 k hk
    rw [← hxx] at hxb
    have y0 := h5.b0.cell
    have y1 := h5.b1.cell
    have y4 := h1.free k
    have hkN : (k : Int) < (N : Int) := by omega
    rw [nxD_step, ← hxx] at h3
    by_cases hlt : x < m
    · rw [if_pos hlt] at h3
      have P1 := h1.put k (x + 1)
      have P2 := h5.put hg k (.int .i64 (x + 1))
      have y2 := P2.b2.cell
      have y3 := P2.b2.free
      have HP := hide (P2.say hg true)
      have HR2 := hide (P1.past (a := ⟨w.heap.size + 2, 0, none⟩) (by simp; omega) (.bool true))
      have HN1 := hide h3
      have HKp := hide (show ((Y.setCell ⟨g, k, none⟩ (.int .i64 (x + 1))).setCell ⟨w.heap.size + 2, 0, none⟩ (.bool true)).heap[W4.heap.size]? = Y.heap[W4.heap.size]? ∧ ((Y.setCell ⟨g, k, none⟩ (.int .i64 (x + 1))).setCell ⟨w.heap.size + 2, 0, none⟩ (.bool true)).heap[W4.heap.size + 1]? = Y.heap[W4.heap.size + 1]? from
        ⟨(Below.heap_setCell _ _ _ _ (by simp; omega)).trans (Below.heap_setCell _ _ _ _ (by simp; omega)), (Below.heap_setCell _ _ _ _ (by simp; omega)).trans (Below.heap_setCell _ _ _ _ (by simp; omega))⟩)
      clear h1 h2 h3 h4 h5 P1 P2 hxx
      gi_wp2
      exact ⟨(by have := HKp.out; rwa [hs4] at this), rfl, by rw [← HN1.out]; exact HR2.out, by rw [← HN1.out], HP.out⟩
    · rw [if_neg hlt] at h3
      have HP := hide (h5.put hg k (.int .i64 0))
      have HR2 := hide (h1.put k 0)
      have HN1 := hide h3
      have HL := hide (show (ys.set k 0).length = N by rw [List.length_set]; exact h2)
      have HB := hide (show ∀ j, j < N → 0 ≤ (ys.set k 0).getD j 0 ∧ (ys.set k 0).getD j 0 ≤ 1000 from fun j hj => by
        by_cases e : k = j
        · subst e; simp [List.getD, show k < ys.length by omega]
        · simp only [List.getD, List.getElem?_set_ne e]; exact h4 j hj)
      have HKp := hide (show (Y.setCell ⟨g, k, none⟩ (.int .i64 0)).heap[W4.heap.size]? = Y.heap[W4.heap.size]? ∧ (Y.setCell ⟨g, k, none⟩ (.int .i64 0)).heap[W4.heap.size + 1]? = Y.heap[W4.heap.size + 1]? from
        ⟨Below.heap_setCell _ _ _ _ (by simp; omega), Below.heap_setCell _ _ _ _ (by simp; omega)⟩)
      clear h1 h2 h3 h4 h5 hxx
      gi_wp2
      exact ⟨(by have := HKp.out; rwa [hs4] at this), _, HR2.out, HL.out, HN1.out, HB.out, HP.out⟩
  case done =>
    rintro W ⟨ys, h1, h2, h3, h4, h5⟩ hK
    have y2 := h5.b2.cell
    have y3 := h5.b2.free
    have HP := hide (h5.say hg false)
    have HR2 := hide (h1.past (a := ⟨w.heap.size + 2, 0, none⟩) (by simp; omega) (.bool false))
    have HN1 := hide (show N0 = (ys, false) from h3.symm)
    have hK2 : (W.setCell ⟨w.heap.size + 2, 0, none⟩ (.bool false)).heap[W4.heap.size]? = some (.deferred (some [])) := (Below.heap_setCell _ _ _ _ (by simp; omega)).trans hK
    clear h1 h2 h3 h4 h5
    gi_wp2
    have hb4 : Below (w.heap.size + 4) (W.setCell ⟨w.heap.size + 2, 0, none⟩ (.bool false)) ((W.setCell ⟨w.heap.size + 2, 0, none⟩ (.bool false)).putObj W4.heap.size (.deferred none)) := below_putObj _ _ (by omega)
    have HP2 := HP.out.next hg hb4
    have HC := HP2.b2.cell
    refine ⟨by simp, .inl ⟨_, _, rfl, run_takeDeferred hK2, ?_⟩⟩
    refine ⟨.bool false, by simp [results, Try.results12, go_sem, HC], ?_⟩
    rw [HN1.out]
    exact ⟨rfl, HR2.out.below hb4 (by omega), HP2.below, HP2.oth⟩
  case stop =>
    rintro cd W ⟨rfl, h1, h2, h3⟩ hK
    have HP := hide h3
    have HR2 := hide h1
    have HN2 := hide h2
    clear h1 h2 h3
    gi_wp2
    have hb4 : Below (w.heap.size + 4) W (W.putObj W4.heap.size (.deferred none)) := below_putObj _ _ (by omega)
    have HP2 := HP.out.next hg hb4
    have HC := HP2.b2.cell
    refine ⟨by simp, .inl ⟨_, _, rfl, run_takeDeferred hK, ?_⟩⟩
    refine ⟨.bool true, by simp [results, Try.results12, go_sem, HC], ?_⟩
    rw [HN2.out]
    exact ⟨rfl, HR2.out.below hb4 (by omega), HP2.below, HP2.oth⟩
end Go.Proofs.Ytkhcabgpbmhimaa
