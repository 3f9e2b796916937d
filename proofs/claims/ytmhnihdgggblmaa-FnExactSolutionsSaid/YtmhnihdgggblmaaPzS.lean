
/-
  FIRSTSOLUTION, BOTH WAYS.
-/
import Derived.Test.YtmhnihdgggblmaaPzJ
import Derived.Test.YtmhnihdgggblmaaPzM
import Derived.Test.YtmhnihdgggblmaaPzD
import Derived.Test.YtmhnihdgggblmaaPz
import Derived.Test.YtmhnihdgggblmaaPzV
namespace Go.Proofs.Ytmhnihdgggblmaa
open Go.RowKit Go.Deep Go.Shelf
attribute [local go_sem] Oper.semAt_some
set_option linter.unusedVariables false

theorem subs_ofS {h : Nat} {cs : List Cl} (ho : cluesOk (h : Int) cs = true) (j : Nat) (hj : j < cs.length) : subOk h cs[j].x0 cs[j].x1 cs[j].x2 := clueOk_sub (cluesOk_get ho j hj)
/-- The first of all solutions. -/
def fstL (u : Int) (cs : List Cl) : List Int := if pzOk u cs then (solsL (fitAll cs) u.toNat).getD 0 [] else []
def fstOk (u : Int) (cs : List Cl) : Bool := if pzOk u cs then decide (0 < (solsL (fitAll cs) u.toNat).length) else false
theorem fst_no {u : Int} {cs : List Cl} (h : pzOk u cs = false) : fstL u cs = [] ∧ fstOk u cs = false := by simp [fstL, fstOk, h]
theorem fst_yes {h : Nat} {cs : List Cl} (ho : pzOk (h : Int) cs = true) : fstL h cs = (solsL (fitAll cs) h).getD 0 [] ∧ fstOk h cs = decide (0 < (solsL (fitAll cs) h).length) := by simp [fstL, fstOk, ho]
theorem sols_get_len {fit : List Int → Bool} {h : Nat} (hh : h < 5) (zs : List Int) (hm : zs ∈ solsL fit h) : zs.length = h := by
  rw [solsL_eq fit hh] at hm
  obtain ⟨v, _, rfl⟩ := List.mem_map.1 (List.mem_filter.1 hm).1
  exact digL_length h v
theorem fstL_len (u : Int) (cs : List Cl) : (fstL u cs).length ≤ 1048576 := by
  unfold fstL
  split
  · rename_i h
    have hh := (pzOk_parts h).1
    cases hz : solsL (fitAll cs) u.toNat with
    | nil => simp
    | cons z zt =>
      have := sols_get_len (h := u.toNat) (by omega) z (by rw [hz]; simp)
      simp
      omega
  · simp

set_option maxHeartbeats 4000000 in
set_option maxRecDepth 100000 in
/-- The model's FirstSolution. -/
theorem specFirstSolution_any (A : Option Addr) (n c B : Nat) (cs : List Cl) (u : Int) (w : World) (hr : Cls w B A n cs) (hB : B ≤ w.heap.size) (hn : n ≤ 17592186044416) :
    Calls Try.prog 15 #[.agg #[.int .i64 u, .slice A n c]] w (MadeR (fstL u cs) (fstOk u cs) w) := by
  obtain rfl := hr.len
  have b1 : Below w.heap.size w (w.alloc (.cells #[.int .i64 u, .slice A cs.length c] 31)) := (Below.refl _ _).alloc (Nat.le_refl _) _
  have HX := hide (Bx.new w 31 (.int .i64 u) (.slice A cs.length c))
  have HG := hide (pzGood_any A cs.length c B cs u _ (hr.below b1 hB) (Nat.le_trans hB b1.size) hn)
  have HB := hide b1
  clear b1
  cases hg : pzOk u cs
  · rw [hg] at HG
    rw [(fst_no hg).1, (fst_no hg).2]
    clear hg
    go_enter Try.func15, Try.ntmps15
    go_wp2_with fail
    refine HG.out.mono ?_; rintro e w2 ⟨rfl, hb2⟩
    have HB2 := hide (HB.out.trans (hb2.mono HB.out.size))
    clear hb2
    go_wp2_with fail
    go_ret2
    exact ⟨none, 0, rfl, Nat.le_refl _, by unfold maxLen; omega, Own.nil _ _ _, HB2.out⟩
  · rw [hg] at HG
    obtain ⟨hh, h6, hc⟩ := pzOk_parts hg
    obtain ⟨h, rfl⟩ := Int.eq_ofNat_of_zero_le (show 0 ≤ u by omega)
    have hP := fun W (hb : Below w.heap.size w W) => pzAll_any A cs.length c B cs h W (hr.below hb hB) (Nat.le_trans hB hb.size) (by omega) (by omega) (subs_ofS hc)
    rw [(fst_yes hg).1, (fst_yes hg).2]
    generalize solsL (fitAll cs) h = zss at *
    generalize hz0 : zss.getD 0 [] = z0
    generalize hbo : decide (0 < zss.length) = bo
    have HP := hide hP
    have HZ0 := hide hz0
    have HBO := hide hbo
    clear hP hg hc hr hz0 hbo
    go_enter Try.func15, Try.ntmps15
    go_wp2_with fail
    refine HG.out.mono ?_; rintro e w2 ⟨rfl, hb2⟩
    have HB2 := hide (HB.out.trans (hb2.mono HB.out.size))
    have x0 := (HX.out.next hb2).c0
    have x1 := (HX.out.next hb2).c1
    clear hb2 HG
    go_wp2_with fail
    refine (HP.out _ HB2.out).mono ?_
    rintro e w3 ⟨A', c', vs, rfl, hc1, hc2, hown, hb3⟩
    have HB3 := hide (HB2.out.trans (hb3.mono HB2.out.size))
    have hs2 := HB2.out.size
    clear hb3 x0 x1 HP
    by_cases hz : zss.length = 0
    · have he : ((zss.length : Int) == 0) = true := by simp [hz]
      obtain rfl : z0 = [] := by rw [← HZ0.out]; rw [List.length_eq_zero_iff] at hz; subst hz; rfl
      obtain rfl : bo = false := by rw [← HBO.out]; exact decide_eq_false (by omega)
      clear hown hz
      go_wp2_with fail
      go_ret2
      exact ⟨none, 0, rfl, Nat.le_refl _, by unfold maxLen; omega, Own.nil _ _ _, HB3.out⟩
    · have he : ((zss.length : Int) == 0) = false := by rw [beq_eq_false_iff_ne]; omega
      have h0 : 0 < zss.length := by omega
      obtain rfl : bo = true := by rw [← HBO.out]; exact decide_eq_true h0
      have ho := hown.2.2.1 0 h0
      obtain ⟨ad, rfl, _, hcell⟩ := hown.vals.at_ h0
      obtain ⟨A5, c5, e5, h51, h52⟩ := ho.shape
      rw [e5] at hcell ho
      rw [show ad.add 0 = ad from by simp [Addr.add]] at hcell
      rw [HZ0.out] at hcell ho e5 h51
      have h0' : (0 : Int) < (zss.length : Int) := by omega
      have HO := hide (ho.less (base' := w.heap.size) hs2)
      clear hown hz e5 ho HZ0
      go_wp2_with fail
      go_ret2
      exact ⟨A5, c5, rfl, h51, h52, HO.out, HB3.out⟩

set_option maxHeartbeats 8000000 in
set_option maxRecDepth 100000 in
/-- The program's FirstSolution. -/
theorem FirstSolution_any (A : Option Addr) (n c B : Nat) (cs : List Cl) (u : Int) (w : World) (hr : Cls w B A n cs) (hB : B ≤ w.heap.size) (hn : n ≤ 17592186044416) :
    Calls Try.prog 16 #[.agg #[.int .i64 u, .slice A n c]] w (MadeR (fstL u cs) (fstOk u cs) w) := by
  obtain rfl := hr.len
  obtain ⟨W3, hW3⟩ : ∃ W, W = ((w.alloc (.cells #[.int .i64 u, .slice A cs.length c] 31)).alloc (.cells #[.slice none 0 0] 38)).alloc (.cells #[.bool false] 4) := ⟨_, rfl⟩
  have hb3 : Below w.heap.size w W3 := by rw [hW3]; exact (((Below.refl _ _).alloc (Nat.le_refl _) _).alloc (by simp) _).alloc (by simp; omega) _
  have hs3 : W3.heap.size = w.heap.size + 3 := by rw [hW3]; simp
  have hX : Bx W3 w.heap.size 31 (.int .i64 u) (.slice A cs.length c) := by rw [hW3]; exact ((Bx.new _ _ _ _).alloc _).alloc _
  have h2 : One W3 (w.heap.size + 1) 38 (.slice none 0 0) := by
    have := One.made (w.alloc (.cells #[.int .i64 u, .slice A cs.length c] 31)) 38 (.slice none 0 0)
    rw [World.size_alloc] at this
    rw [hW3]; exact this.new _
  have h3 : One W3 (w.heap.size + 2) 4 (.bool false) := by
    have := One.made ((w.alloc (.cells #[.int .i64 u, .slice A cs.length c] 31)).alloc (.cells #[.slice none 0 0] 38)) 4 (.bool false)
    rw [World.size_alloc, World.size_alloc] at this
    rw [hW3]; exact this
  have HG := hide (IsPuzzle_any A cs.length c B cs u W3 (hr.below hb3 hB) (Nat.le_trans hB hb3.size) hn)
  have HHR := hide hr
  clear hr
  refine (callsIn_wide (n := 9)).1 ?_
  refine callsIn_of_wp_marks Try.func16 rfl trivial ?_
  simp only [Try.ntmps16, List.size_toArray, List.length_cons, List.length_nil, Nat.reduceAdd, Nat.reduceSub, Array.replicate_succ, Array.replicate_zero, List.push_toArray, List.append_toArray, List.nil_append, List.cons_append]
  gi_wp2
  rw [← hW3]
  clear hW3
  have x0 := hX.c0
  have x1 := hX.c1
  refine ⟨trivial, (callsIn_wide.2 HG.out).mono ?_⟩; rintro e w2 ⟨rfl, hb2⟩
  have hB2 := hb3.trans (hb2.mono hb3.size)
  have hX2 := hX.next hb2
  have h22 := h2.below hb2 h2.lt
  have h32 := h3.below hb2 h3.lt
  have hs2 : w.heap.size + 3 ≤ w2.heap.size := by have := hb2.size; omega
  cases hg : pzOk u cs
  · have y0 := h22.cell
    have y1 := h22.free
    have y2 := (h32.past (a := ⟨w.heap.size + 1, 0, none⟩) (by simp) (.slice none 0 0)).cell
    have y3 := (h32.past (a := ⟨w.heap.size + 1, 0, none⟩) (by simp) (.slice none 0 0)).free
    have F2 := ((h22.put (.slice none 0 0)).past (a := ⟨w.heap.size + 2, 0, none⟩) (by simp) (.bool false)).cell
    have F3 := ((h32.past (a := ⟨w.heap.size + 1, 0, none⟩) (by simp) (.slice none 0 0)).put (.bool false)).cell
    have FB := (hB2.setCell (p := ⟨w.heap.size + 1, 0, none⟩) (by simp) (.slice none 0 0)).setCell (p := ⟨w.heap.size + 2, 0, none⟩) (by simp) (.bool false)
    gi_wp2
    simp only [bodyPostM, LeavesInM]
    refine ⟨.tuple #[.slice none 0 0, .bool false], ?_, ?_⟩
    · simp [results, Try.results16, go_sem, F2, F3]
    · show MadeR _ _ _ _ _
      rw [(fst_no hg).1, (fst_no hg).2]
      exact ⟨none, 0, rfl, Nat.le_refl _, by unfold maxLen; omega, Own.nil _ _ _, FB⟩
  · obtain ⟨hh, h6, hck⟩ := pzOk_parts hg
    obtain ⟨h, rfl⟩ := Int.eq_ofNat_of_zero_le (show 0 ≤ u by omega)
    have HFY := hide (fst_yes hg)
    have z0 := hX2.c0
    have z1 := hX2.c1
    have hmf : ∀ (fn : Fn) (first cap : Array Value) (w : World), (Instr.makeFunc fn first cap).run Try.prog w = .ok (.func fn first cap) w := fun _ _ _ _ => rfl
    clear x0 x1 hX h2 h3 HG hg
    gi_wp2
    have hX2' := hX2
    clear z0 z1 hX2 hb2 hs3 hb3
    refine wpIn_rangeSol A cs.length c B cs h rfl (HHR.out.below hB2 hB) (Nat.le_trans hB hB2.size) (by omega) (by omega) (subs_ofS hck)
      (fun z W => z = [] ∧ One W (w.heap.size + 1) 38 (.slice none 0 0) ∧ One W (w.heap.size + 2) 4 (.bool false) ∧ Below w.heap.size w W)
      (fun cd z W => cd = .ret ∧ ∃ zs v, z = [zs] ∧ One W (w.heap.size + 1) 38 v ∧ One W (w.heap.size + 2) 4 (.bool true) ∧ Own W (w2.heap.size + 4) 3 v zs ∧ Below w.heap.size w W) ?_ ?_ ⟨rfl, h22, h32, hB2⟩
      (fun v => { tmps := #[.agg #[.int .i64 (h : Int), .slice A cs.length c], .pointer (some ⟨w.heap.size, 0, none⟩), .pointer (some ⟨w.heap.size + 1, 0, none⟩), .pointer (some ⟨w.heap.size + 1 + 1, 0, none⟩), v,
        .agg #[.int .i64 (h : Int), .slice A cs.length c], .bool true, .bool false, .agg #[.int .i64 (h : Int), .slice A cs.length c],
        .func (.func 28) #[.agg #[.int .i64 (h : Int), .slice A cs.length c]] #[], v, undef], defers := [] }) ?assign ?body ?done ?stop
    · rintro z X Y ⟨hz, h1, h2, h3⟩ hsd
      exact ⟨hz, h1.below hsd.below (by omega), h2.below hsd.below (by omega), h3.trans (hsd.below.mono (by omega))⟩
    · rintro cd z X Y ⟨hcd, zs, v, hz, h1, h2, ho, h3⟩ hsd
      exact ⟨hcd, zs, v, hz, h1.below hsd.below (by omega), h2.below hsd.below (by omega), ho.keep (fun g hg hlt => hsd.oth g (by omega) hlt), h3.trans (hsd.below.mono (by omega))⟩
    case assign =>
      intro l v W K hK
      gi_wp2
      exact hK
    case body =>
      rintro l z zs v X Y ⟨rfl, h1, h2, h3⟩ hX hsd hown hlen hpre
      obtain ⟨Av, cv, hv, _, _⟩ := hown.shape
      subst hv
      have k1 := h1.below hsd.below (by omega)
      have k2 := h2.below hsd.below (by omega)
      have y0 := k1.cell
      have y1 := k1.free
      have k3 := k2.past (a := ⟨w.heap.size + 1, 0, none⟩) (by simp) (.slice Av zs.length cv)
      have y2 := k3.cell
      have y3 := k3.free
      have HKp := hide (show Kept B w2.heap.size (w2.heap.size + 4) Y ((Y.setCell ⟨w.heap.size + 1, 0, none⟩ (.slice Av zs.length cv)).setCell ⟨w.heap.size + 2, 0, none⟩ (.bool true)) from ⟨((Below.refl _ _).setCell (p := ⟨w.heap.size + 1, 0, none⟩) (by simp; omega) _).setCell (p := ⟨w.heap.size + 2, 0, none⟩) (by simp; omega) _, fun i hi1 hi2 => (Below.heap_setCell _ _ _ _ (by simp; omega)).trans (Below.heap_setCell _ _ _ _ (by simp; omega))⟩)
      have HO1 := hide ((k1.put (.slice Av zs.length cv)).past (a := ⟨w.heap.size + 2, 0, none⟩) (by simp) (.bool true))
      have HO2 := hide (k3.put (.bool true))
      have HOw := hide (((hown.keep (w' := Y.setCell ⟨w.heap.size + 1, 0, none⟩ (.slice Av zs.length cv)) fun g hg _ => Below.heap_setCell _ _ _ _ (by simp; omega)).keep (w' := (Y.setCell ⟨w.heap.size + 1, 0, none⟩ (.slice Av zs.length cv)).setCell ⟨w.heap.size + 2, 0, none⟩ (.bool true)) fun g hg _ => Below.heap_setCell _ _ _ _ (by simp; omega)).less (base' := w2.heap.size + 4) hX)
      have HBB := hide (((h3.trans (hsd.below.mono (by omega))).setCell (p := ⟨w.heap.size + 1, 0, none⟩) (by simp) (.slice Av zs.length cv)).setCell (p := ⟨w.heap.size + 2, 0, none⟩) (by simp) (.bool true))
      clear h1 h2 h3 hX hsd hown hlen hpre k1 k2 k3
      gi_wp2
      exact ⟨HKp.out, rfl, zs, .slice Av zs.length cv, rfl, HO1.out, HO2.out, HOw.out, HBB.out⟩
    case done =>
      rintro W ⟨hz, h1, h2, h3⟩ hK
      have y0 := h1.cell
      have y1 := h1.free
      have k3 := h2.past (a := ⟨w.heap.size + 1, 0, none⟩) (by simp) (.slice none 0 0)
      have y2 := k3.cell
      have y3 := k3.free
      have HO1 := hide ((h1.put (.slice none 0 0)).past (a := ⟨w.heap.size + 2, 0, none⟩) (by simp) (.bool false))
      have HO2 := hide (k3.put (.bool false))
      have HBB := hide ((h3.setCell (p := ⟨w.heap.size + 1, 0, none⟩) (by simp) (.slice none 0 0)).setCell (p := ⟨w.heap.size + 2, 0, none⟩) (by simp) (.bool false))
      have hK2 : ((W.setCell ⟨w.heap.size + 1, 0, none⟩ (.slice none 0 0)).setCell ⟨w.heap.size + 2, 0, none⟩ (.bool false)).heap[w2.heap.size]? = some (.deferred (some [])) := ((Below.heap_setCell _ _ _ _ (by simp; omega)).trans (Below.heap_setCell _ _ _ _ (by simp; omega))).trans hK
      have HF : Hid (fstL (h : Int) cs = [] ∧ fstOk (h : Int) cs = false) := hide (by rw [HFY.out.1, HFY.out.2, hz]; exact ⟨rfl, rfl⟩)
      clear h1 h2 h3 k3 hz
      gi_wp2
      have HC1 := (HO1.out.same (w' := ((W.setCell ⟨w.heap.size + 1, 0, none⟩ (.slice none 0 0)).setCell ⟨w.heap.size + 2, 0, none⟩ (.bool false)).putObj w2.heap.size (.deferred none)) (World.putObj_heap_other (by omega))).cell
      have HC2 := (HO2.out.same (w' := ((W.setCell ⟨w.heap.size + 1, 0, none⟩ (.slice none 0 0)).setCell ⟨w.heap.size + 2, 0, none⟩ (.bool false)).putObj w2.heap.size (.deferred none)) (World.putObj_heap_other (by omega))).cell
      refine ⟨by simp, .inl ⟨_, _, rfl, run_takeDeferred hK2, ?_⟩⟩
      refine ⟨.tuple #[.slice none 0 0, .bool false], by simp [results, Try.results16, go_sem, HC1, HC2], ?_⟩
      show MadeR _ _ _ _ _
      rw [HF.out.1, HF.out.2]
      exact ⟨none, 0, rfl, Nat.le_refl _, by unfold maxLen; omega, Own.nil _ _ _, HBB.out.trans (below_putObj _ _ (by omega))⟩
    case stop =>
      rintro cd z W hpre ⟨rfl, zs, v, rfl, h1, h2, ho, h3⟩ hK
      obtain ⟨A5, c5, rfl, h51, h52⟩ := ho.shape
      have HF : Hid (fstL (h : Int) cs = zs ∧ fstOk (h : Int) cs = true) := hide (by
        obtain ⟨t, ht⟩ := hpre
        rw [HFY.out.1, HFY.out.2, ← ht]
        exact ⟨rfl, by simp⟩)
      gi_wp2
      have HC1 := (h1.same (w' := W.putObj w2.heap.size (.deferred none)) (World.putObj_heap_other (by omega))).cell
      have HC2 := (h2.same (w' := W.putObj w2.heap.size (.deferred none)) (World.putObj_heap_other (by omega))).cell
      refine ⟨by simp, .inl ⟨_, _, rfl, run_takeDeferred hK, ?_⟩⟩
      refine ⟨.tuple #[.slice A5 zs.length c5, .bool true], by simp [results, Try.results16, go_sem, HC1, HC2], ?_⟩
      show MadeR _ _ _ _ _
      rw [HF.out.1, HF.out.2]
      exact ⟨A5, c5, rfl, h51, h52, (ho.keep fun g hg _ => World.putObj_heap_other (by omega)).less (by omega), h3.trans (below_putObj _ _ (by omega))⟩
end Go.Proofs.Ytmhnihdgggblmaa
