
/-
  SOLUTIONS, BOTH WAYS.
-/
import Derived.Test.YtmhnihdgggblmaaPzS
import Derived.Maps.OwnIn
namespace Go.Proofs.Ytmhnihdgggblmaa
open Go.RowKit Go.Deep Go.Shelf
attribute [local go_sem] Oper.semAt_some
set_option linter.unusedVariables false

/-- 'out = append(out, l)' inside a fence, l a list that was made behind the list of lists. -/
theorem wpListIn_app_row {F : Fence} {n : Nat} {wr : World} {ops : Array Oper} {rest : List Oper} {o : Oper} {a : Act} {Q : Exit → Act → World → Prop} (hgd : o.guard = none) (s x : Operand)
    (ho : o.op = .call { callee := .builtin .append, args := #[s, x], argTypes := #[26, 26] })
    (base K : Nat) (v u : Value) (vs : List Value) (zss : List (List Int)) (zs : List Int) (hs : a.eval s = v) (hown : OwnVs wr base v vs zss) (hu : Own wr K 3 u zs)
    (hK : (∀ i, i < zss.length → ∀ b, (vs.getD i undef).ownBlock = some b → b < K) ∧ ∀ b, v.ownBlock = some b → b < K) (hbK : base ≤ K) (c : Nat) (hx : a.eval x = .slice (some ⟨wr.heap.size, 0, none⟩) 1 c)
    (hbase : base ≤ wr.heap.size) (hlen : zss.length < 1000000)
    (h : ∀ v' w', OwnVs w' base v' (vs ++ [u]) (zss ++ [zs]) → Below base wr w' → wpListIn F n Try.prog ops Q rest (a.put o.dst v') w') :
    wpListIn F n Try.prog ops Q (o :: rest) a (wr.alloc (.cells #[u] 38)) := by
  obtain ⟨i0, hi, hz0, hz1, hz2⟩ := info_parts3 infoRowT
  have hl := hown.1
  refine wpListIn_append_own_at _ hgd s x 26 ho base 38 i0 (.slice none 0 0) 1 24 Try.underlying26 hi hz0 hz1 hz2 rfl (by decide) v vs.length vs hs (World.ownsRow.alloc hown.2.1 _)
    ⟨wr.heap.size, 0, none⟩ 1 c [u] hx rfl ?_ ?_ (by unfold maxLen; omega) (by omega) (by simp; omega) ?_
  · intro j y hj
    match j, hj with
    | 0, hj => simp at hj; subst hj; simp [Addr.add]
  · intro y hy; simp at hy; subst hy; exact hu.cell1
  · intro v' w' h1 h2 _ h4
    have hoth : ∀ k, k < wr.heap.size → some k ≠ v.ownBlock → w'.heap[k]? = wr.heap[k]? := fun k hk hne => by
      rw [h2.block k (by simp; omega) hne]
      exact Below.heap_alloc _ _ _ hk
    have hblk : v'.ownBlock = v.ownBlock ∨ ∃ g, v'.ownBlock = some g ∧ wr.heap.size ≤ g := by
      rcases h4 with h4 | h4
      · exact .inl h4
      · exact .inr ⟨_, h4, by simp⟩
    refine h v' w' (hown.snoc hu hK hbK h1 hoth hblk) ?_
    refine (((Below.refl base wr).alloc hbase _).grown h2 (by simp; omega) ?_)
    intro k hk
    exact (hown.blk hk).1

theorem sols_lenS (fit : List Int → Bool) {h : Nat} (hh : 2 ≤ h ∧ h ≤ 4) : (solsL fit h).length ≤ 1296 :=
  Nat.le_trans (lookL_len fit h []) (Nat.le_trans (Nat.pow_le_pow_right (by omega) hh.2) (by decide))

set_option maxHeartbeats 1000000 in
set_option maxRecDepth 100000 in
/-- WHAT slices.AppendSeq LEAVES of all solutions. -/
theorem AppendSeq_any (A : Option Addr) (m c B : Nat) (cs : List Cl) (h : Nat) (w : World) (hr : Cls w B A m cs) (hB : B ≤ w.heap.size) (hm : m ≤ 1000000) (hh : 2 ≤ h ∧ h ≤ 4) (hs : ∀ (j : Nat) (hj : j < cs.length), subOk h cs[j].x0 cs[j].x1 cs[j].x2) :
    Calls Try.prog 38 #[.slice none 0 0, .func (.func 28) #[.agg #[.int .i64 (h : Int), .slice A m c]] #[]] w (MadeVs (solsL (fitAll cs) h) w) := by
  have hO := One.made w 26 (.slice none 0 0)
  have hb2 : Below w.heap.size w (w.alloc (.cells #[.slice none 0 0] 26)) := (Below.refl _ _).alloc (Nat.le_refl _) _
  have hs2 : (w.alloc (.cells #[.slice none 0 0] 26)).heap.size = w.heap.size + 1 := by simp
  have hr2 := hr.below hb2 hB
  refine (callsIn_wide (n := 9)).1 ?_
  refine callsIn_of_wp_marks Try.func38 rfl trivial ?_
  simp only [Try.ntmps38, List.size_toArray, List.length_cons, List.length_nil, Nat.reduceAdd, Nat.reduceSub, Array.replicate_succ, Array.replicate_zero, List.push_toArray, List.append_toArray, List.nil_append, List.cons_append]
  gi_wp2
  generalize (w.alloc (.cells #[.slice none 0 0] 26)) = w2 at *
  clear hr
  refine wpIn_rangeSol A m c B cs h rfl hr2 (by omega) hm hh hs
    (fun z W => ∃ v vs, One W w.heap.size 26 v ∧ OwnVs W (w2.heap.size + 4) v vs z ∧ Below w.heap.size w W) (fun _ _ _ => False) ?_ (fun _ _ _ _ h _ => h) ⟨_, _, hO, OwnVs.nil _ _, hb2⟩
    (fun v => { tmps := #[.slice none 0 0, .func (.func 28) #[.agg #[.int .i64 (h : Int), .slice A m c]] #[], .pointer (some ⟨w.heap.size, 0, none⟩), undef, .slice none 0 0, v,
      .func (.func 28) #[.agg #[.int .i64 (h : Int), .slice A m c]] #[], v, undef, undef, undef, undef, undef], defers := [] }) ?assign ?body ?done ?stop
  · rintro z X Y ⟨v, vs, h1, h2, h3⟩ hsd
    exact ⟨v, vs, h1.below hsd.below (by omega), h2.keep (fun g hg hlt => hsd.oth g hg hlt), h3.trans (hsd.below.mono (by omega))⟩
  case assign =>
    intro l v W K hK
    gi_wp2
    exact hK
  case body =>
    rintro l z zs u X Y ⟨v, vs, h1, h2, h3⟩ hX hsd hown hlen hpre
    have hblk := h2.blks
    have hY1 := h1.below hsd.below (by omega)
    have hY2 := h2.keep (fun g hg hlt => hsd.oth g hg hlt)
    have hY3 := h3.trans (hsd.below.mono (by omega))
    have hzl : z.length < 1000000 := by
      have := hpre.length_le
      have := sols_lenS (fitAll cs) hh
      rw [List.length_append, List.length_singleton] at *
      omega
    obtain ⟨Av, cv, ev, _, _⟩ := hY2.shape
    obtain ⟨Au, cu, eu, _, _⟩ := hown.shape
    subst ev
    subst eu
    have x0 := hY1.cell
    have HY1 := hide hY1
    have HY2 := hide hY2
    have HY3 := hide hY3
    have HBK := hide hblk
    have HOW := hide hown
    have hxs := hsd.below.size
    have HXY := hide hxs
    clear h1 h2 h3 hY1 hY2 hY3 hblk hown hpre hlen
    gi_wp2_with (gi_at_builtin; refine wpListIn_app_row rfl (.tmp 8) (.tmp 10) rfl (w2.heap.size + 4) X.heap.size (.slice Av z.length cv) (.slice Au zs.length cu) vs z zs rfl HY2.out HOW.out HBK.out hX _ rfl (by have := HXY.out; omega) hzl ?_; intro v' w' hown' hb'; obtain ⟨A', c', rfl, _, _⟩ := hown'.shape; have O1 := HY1.out.below hb' (by omega); have o1 := O1.cell; have o2 := O1.free)
    rw [show (z ++ [zs]).length = z.length + 1 from by simp] at hown'
    have hs4 := hb'.size
    have P1 := O1.put (.slice A' (z.length + 1) c')
    have P2 := hown'.keep (w' := w'.setCell ⟨w.heap.size, 0, none⟩ (.slice A' (z.length + 1) c')) (fun g hg hlt => Below.heap_setCell _ _ _ _ (by simp; omega))
    have P3 := (HY3.out.trans (hb'.mono (by omega))).setCell (p := ⟨w.heap.size, 0, none⟩) (Nat.le_refl _) (.slice A' (z.length + 1) c')
    have HKp := (show Kept B w2.heap.size (w2.heap.size + 4) Y (w'.setCell ⟨w.heap.size, 0, none⟩ (.slice A' (z.length + 1) c')) from ⟨(hb'.mono (by omega)).setCell (p := ⟨w.heap.size, 0, none⟩) hB _, fun i hi1 hi2 => (Below.heap_setCell _ _ _ _ (by simp; omega)).trans (hb'.block _ hi2)⟩)
    exact ⟨HKp, _, _, P1, P2, P3⟩
  case done =>
    rintro W ⟨v, vs, h1, h2, h3⟩ hK
    have hc := h1.cell
    have HB := hide (h3.trans (below_putObj W (.deferred none) (show w.heap.size ≤ w2.heap.size by omega)))
    have HO := hide (h2.keep (w' := W.putObj w2.heap.size (.deferred none)) (fun g' hg' _ => World.putObj_heap_other (by omega)))
    obtain ⟨Av, cv, ev, hc1, hc2⟩ := h2.shape
    subst ev
    clear h1 h2 h3
    gi_wp2
    refine ⟨by simp, .inl ⟨_, _, rfl, run_takeDeferred hK, ?_⟩⟩
    exact ⟨_, results_tmp rfl _ _ _, Av, cv, vs, rfl, hc1, hc2, HO.out.less (by omega), HB.out⟩
  case stop =>
    rintro cd z W _ h _
    exact h.elim

set_option maxRecDepth 100000 in
/-- WHAT slices.Collect LEAVES of all solutions. -/
theorem Collect_any (A : Option Addr) (m c B : Nat) (cs : List Cl) (h : Nat) (w : World) (hr : Cls w B A m cs) (hB : B ≤ w.heap.size) (hm : m ≤ 1000000) (hh : 2 ≤ h ∧ h ≤ 4) (hs : ∀ (j : Nat) (hj : j < cs.length), subOk h cs[j].x0 cs[j].x1 cs[j].x2) :
    Calls Try.prog 27 #[.func (.func 28) #[.agg #[.int .i64 (h : Int), .slice A m c]] #[]] w (MadeVs (solsL (fitAll cs) h) w) := by
  have HP := hide (AppendSeq_any A m c B cs h w hr hB hm hh hs)
  clear hr hs
  go_enter Try.func27, Try.ntmps27
  go_wp2_with fail
  refine HP.out.mono ?_
  rintro e w2 ⟨A', c', vs, rfl, h1, h2, hown, hb⟩
  have HM := hide (show MadeVs (solsL (fitAll cs) h) w (.returned (.slice A' (solsL (fitAll cs) h).length c')) w2 from ⟨A', c', vs, rfl, h1, h2, hown, hb⟩)
  clear hown hb
  generalize (solsL (fitAll cs) h).length = L at *
  go_wp2_with fail
  go_ret
  exact HM.out

/-- All solutions of a puzzle. -/
def allS (u : Int) (cs : List Cl) : List (List Int) := if pzOk u cs then solsL (fitAll cs) u.toNat else []
theorem allS_no {u : Int} {cs : List Cl} (h : pzOk u cs = false) : allS u cs = [] := by simp [allS, h]
theorem allS_yes {h : Nat} {cs : List Cl} (ho : pzOk (h : Int) cs = true) : allS h cs = solsL (fitAll cs) h := by simp [allS, ho]
theorem allS_short (u : Int) (cs : List Cl) : sizeSS (allS u cs) ≤ 1048576 ∧ (allS u cs).length ≤ 1048576 := by
  unfold allS
  split
  · rename_i ho
    have hh := (pzOk_parts ho).1
    have hl := sols_lenS (fitAll cs) (h := u.toNat) (by omega)
    have hz : ∀ z ∈ solsL (fitAll cs) u.toNat, z.length ≤ 4 := fun z hz => by have := sols_get_len (h := u.toNat) (by omega) z hz; omega
    refine ⟨?_, by omega⟩
    have key : ∀ (L : List (List Int)), (∀ z ∈ L, z.length ≤ 4) → sizeSS L ≤ 4 * L.length := by
      intro L
      induction L with
      | nil => intro _; simp [sizeSS]
      | cons z L ih =>
        intro hL
        have h1 := hL z (by simp)
        have h2 := ih (fun y hy => hL y (by simp [hy]))
        unfold sizeSS at h2 ⊢
        simp only [List.map_cons, List.sum_cons, List.length_cons]
        omega
    have := key _ hz
    omega
  · simp [sizeSS]

set_option maxHeartbeats 1000000 in
set_option maxRecDepth 100000 in
/-- The model's Solutions. -/
theorem specSolutions_any (A : Option Addr) (n c B : Nat) (cs : List Cl) (u : Int) (w : World) (hr : Cls w B A n cs) (hB : B ≤ w.heap.size) (hn : n ≤ 17592186044416) :
    Calls Try.prog 7 #[.agg #[.int .i64 u, .slice A n c]] w (MadeSS (allS u cs) (pzOk u cs) w) := by
  obtain rfl := hr.len
  have b1 : Below w.heap.size w (w.alloc (.cells #[.int .i64 u, .slice A cs.length c] 31)) := (Below.refl _ _).alloc (Nat.le_refl _) _
  have HX := hide (Bx.new w 31 (.int .i64 u) (.slice A cs.length c))
  have HG := hide (pzGood_any A cs.length c B cs u _ (hr.below b1 hB) (Nat.le_trans hB b1.size) hn)
  have HB := hide b1
  clear b1
  cases hg : pzOk u cs
  · rw [hg] at HG
    rw [allS_no hg]
    clear hg
    go_enter Try.func7, Try.ntmps7
    go_wp2_with fail
    refine HG.out.mono ?_; rintro e w2 ⟨rfl, hb2⟩
    have HB2 := hide (HB.out.trans (hb2.mono HB.out.size))
    clear hb2
    go_wp2_with fail
    go_ret2
    exact madeSS_none HB2.out
  · rw [hg] at HG
    obtain ⟨hh, h6, hc⟩ := pzOk_parts hg
    obtain ⟨h, rfl⟩ := Int.eq_ofNat_of_zero_le (show 0 ≤ u by omega)
    have hP := fun W (hb : Below w.heap.size w W) => pzAll_any A cs.length c B cs h W (hr.below hb hB) (Nat.le_trans hB hb.size) (by omega) (by omega) (subs_ofS hc)
    rw [allS_yes hg]
    generalize solsL (fitAll cs) h = zss at *
    have HP := hide hP
    clear hP hg hc hr
    go_enter Try.func7, Try.ntmps7
    go_wp2_with fail
    refine HG.out.mono ?_; rintro e w2 ⟨rfl, hb2⟩
    have HB2 := hide (HB.out.trans (hb2.mono HB.out.size))
    have x0 := (HX.out.next hb2).c0
    have x1 := (HX.out.next hb2).c1
    clear hb2 HG
    go_wp2_with fail
    refine (HP.out _ HB2.out).mono ?_
    rintro e w3 ⟨A', c', vs, rfl, hc1, hc2, hown, hb3⟩
    have HM := hide (show MadeSS zss true w (.returned (.tuple #[.slice A' zss.length c', .bool true])) w3 from ⟨A', c', vs, rfl, hc1, hc2, hown.less HB2.out.size, HB2.out.trans (hb3.mono HB2.out.size)⟩)
    clear hb3 x0 x1 HP hown
    go_wp2_with fail
    go_ret2
    exact HM.out

set_option maxHeartbeats 1000000 in
set_option maxRecDepth 100000 in
/-- The program's Solutions. -/
theorem Solutions_any (A : Option Addr) (n c B : Nat) (cs : List Cl) (u : Int) (w : World) (hr : Cls w B A n cs) (hB : B ≤ w.heap.size) (hn : n ≤ 17592186044416) :
    Calls Try.prog 9 #[.agg #[.int .i64 u, .slice A n c]] w (MadeSS (allS u cs) (pzOk u cs) w) := by
  obtain rfl := hr.len
  have b1 : Below w.heap.size w (w.alloc (.cells #[.int .i64 u, .slice A cs.length c] 31)) := (Below.refl _ _).alloc (Nat.le_refl _) _
  have HX := hide (Bx.new w 31 (.int .i64 u) (.slice A cs.length c))
  have HG := hide (IsPuzzle_any A cs.length c B cs u _ (hr.below b1 hB) (Nat.le_trans hB b1.size) hn)
  have HB := hide b1
  have hmf : ∀ (fn : Fn) (first cap : Array Value) (w : World), (Instr.makeFunc fn first cap).run Try.prog w = .ok (.func fn first cap) w := fun _ _ _ _ => rfl
  clear b1
  cases hg : pzOk u cs
  · rw [hg] at HG
    rw [allS_no hg]
    clear hg
    go_enter Try.func9, Try.ntmps9
    go_wp2_with fail
    refine HG.out.mono ?_; rintro e w2 ⟨rfl, hb2⟩
    have HB2 := hide (HB.out.trans (hb2.mono HB.out.size))
    clear hb2
    go_wp2_with fail
    go_ret2
    exact madeSS_none HB2.out
  · rw [hg] at HG
    obtain ⟨hh, h6, hc⟩ := pzOk_parts hg
    obtain ⟨h, rfl⟩ := Int.eq_ofNat_of_zero_le (show 0 ≤ u by omega)
    have hP := fun W (hb : Below w.heap.size w W) => Collect_any A cs.length c B cs h W (hr.below hb hB) (Nat.le_trans hB hb.size) (by omega) (by omega) (subs_ofS hc)
    rw [allS_yes hg]
    generalize solsL (fitAll cs) h = zss at *
    have HP := hide hP
    clear hP hg hc hr
    go_enter Try.func9, Try.ntmps9
    go_wp2_with fail
    refine HG.out.mono ?_; rintro e w2 ⟨rfl, hb2⟩
    have HB2 := hide (HB.out.trans (hb2.mono HB.out.size))
    have x0 := (HX.out.next hb2).c0
    have x1 := (HX.out.next hb2).c1
    clear hb2 HG
    go_wp2_with fail
    refine (HP.out _ HB2.out).mono ?_
    rintro e w3 ⟨A', c', vs, rfl, hc1, hc2, hown, hb3⟩
    have HM := hide (show MadeSS zss true w (.returned (.tuple #[.slice A' zss.length c', .bool true])) w3 from ⟨A', c', vs, rfl, hc1, hc2, hown.less HB2.out.size, HB2.out.trans (hb3.mono HB2.out.size)⟩)
    clear hb3 x0 x1 HP hown
    go_wp2_with fail
    go_ret2
    exact HM.out
end Go.Proofs.Ytmhnihdgggblmaa
