
/-
  COUNTSOLUTIONS AND ISSOLVED, BOTH WAYS.
-/
import Derived.Test.YtpgjhmgmfajelaaPzK
import Derived.Test.YtpgjhmgmfajelaaPzD
import Derived.Test.YtpgjhmgmfajelaaPz
import Derived.Test.YtpgjhmgmfajelaaPzV
namespace Go.Proofs.Ytpgjhmgmfajelaa
open Go.RowKit Go.Deep
set_option linter.unusedVariables false

/-- How many hidden heaps fit clues; 0 where there is no puzzle. -/
def cntL (h : Nat) (cs : List Cl) : Int := ((solsL (fitAll cs) h).length : Int)
def cntP (u : Int) (cs : List Cl) : Int := if pzOk u cs then cntL u.toNat cs else 0
def slvP (u : Int) (cs : List Cl) : Bool := decide (cntP u cs = 1)
theorem cntP_no {u : Int} {cs : List Cl} (h : pzOk u cs = false) : cntP u cs = 0 := by simp [cntP, h]
theorem cntP_yes {h : Nat} {cs : List Cl} (ho : pzOk (h : Int) cs = true) : cntP h cs = cntL h cs := by simp [cntP, ho]
theorem subs_of {h : Nat} {cs : List Cl} (ho : cluesOk (h : Int) cs = true) (j : Nat) (hj : j < cs.length) : subOk h cs[j].x0 cs[j].x1 cs[j].x2 := clueOk_sub (cluesOk_get ho j hj)
theorem cntL_bd {h : Nat} (cs : List Cl) (hh : 2 ≤ h ∧ h ≤ 4) : 0 ≤ cntL h cs ∧ cntL h cs ≤ 1296 := by
  have := sols_len (fitAll cs) hh
  unfold cntL
  omega
theorem subs_mem {h : Nat} {cs ds : List Cl} (ho : cluesOk (h : Int) cs = true) (hm : ∀ x ∈ ds, x ∈ cs) (j : Nat) (hj : j < ds.length) : subOk h ds[j].x0 ds[j].x1 ds[j].x2 :=
  clueOk_sub (List.all_eq_true.mp ho _ (hm _ (List.getElem_mem hj)))
/-- A list that is filled from its start on. -/
def filL (f : Nat → Int) (m k : Nat) : List Int := (List.range m).map fun i => if i < k then f i else 0
theorem filL_len (f : Nat → Int) (m k : Nat) : (filL f m k).length = m := by simp [filL]
theorem filL_get (f : Nat → Int) (m k i : Nat) (h : i < m) : (filL f m k)[i]'(by rw [filL_len]; exact h) = if i < k then f i else 0 := by simp [filL]
theorem filL_zero (f : Nat → Int) (m : Nat) : filL f m 0 = List.replicate m 0 := by
  apply List.ext_getElem
  · rw [filL_len, List.length_replicate]
  · intro i h1 h2
    rw [filL_len] at h1
    rw [filL_get f m 0 i h1]
    simp
theorem filL_succ (f : Nat → Int) (m k : Nat) (h : k < m) : filL f m (k + 1) = (filL f m k).set k (f k) := by
  apply List.ext_getElem
  · rw [filL_len, List.length_set, filL_len]
  · intro i h1 h2
    rw [filL_len] at h1
    rw [filL_get f m (k + 1) i h1, List.getElem_set]
    by_cases e : k = i
    · subst e; simp
    · rw [if_neg e, filL_get f m k i h1]
      by_cases hk : i < k
      · rw [if_pos hk, if_pos (by omega)]
      · rw [if_neg hk, if_neg (by omega)]
theorem filL_full (f : Nat → Int) (m : Nat) : filL f m m = (List.range m).map f := by
  apply List.ext_getElem
  · simp [filL]
  · intro i h1 h2
    rw [filL_len] at h1
    rw [filL_get f m m i h1, if_pos h1]
    simp

set_option maxHeartbeats 4000000 in
set_option maxRecDepth 100000 in
/-- The model's CountSolutions. -/
theorem specCountSolutions_any (A : Option Addr) (n c B : Nat) (cs : List Cl) (u : Int) (w : World) (hr : Cls w B A n cs) (hB : B ≤ w.heap.size) (hn : n ≤ 17592186044416) :
    Calls Try.prog 16 #[.agg #[.int .i64 u, .slice A n c]] w fun e w' => e = .returned (.tuple #[.int .i64 (cntP u cs), .bool (pzOk u cs)]) ∧ Below w.heap.size w w' := by
  obtain rfl := hr.len
  have b1 : Below w.heap.size w (w.alloc (.cells #[.int .i64 u, .slice A cs.length c] 40)) := (Below.refl _ _).alloc (Nat.le_refl _) _
  have HX := hide (Bx.new w 40 (.int .i64 u) (.slice A cs.length c))
  have HG := hide (pzGood_any A cs.length c B cs u _ (hr.below b1 hB) (Nat.le_trans hB b1.size) hn)
  have HB := hide b1
  clear b1
  cases hg : pzOk u cs
  · rw [hg] at HG
    rw [cntP_no hg]
    clear hg
    go_enter Try.func16, Try.ntmps16
    go_wp2_with fail
    refine HG.out.mono ?_; rintro e w2 ⟨rfl, hb2⟩
    have HB2 := hide (HB.out.trans (hb2.mono HB.out.size))
    clear hb2
    go_wp2_with fail
    exact bodyPost_ret (v := .tuple #[.int .i64 0, .bool false]) (by simp [results, Try.results16, go_sem]) rfl ⟨rfl, HB2.out⟩
  · rw [hg] at HG
    obtain ⟨hh, h6, hc⟩ := pzOk_parts hg
    obtain ⟨h, rfl⟩ := Int.eq_ofNat_of_zero_le (show 0 ≤ u by omega)
    have hP := fun W (hb : Below w.heap.size w W) => pzAll_any A cs.length c B cs h W (hr.below hb hB) (Nat.le_trans hB hb.size) (by omega) (by omega) (subs_of hc)
    rw [cntP_yes hg]
    unfold cntL
    generalize solsL (fitAll cs) h = zss at *
    have HP := hide hP
    clear hP hg hc hr
    go_enter Try.func16, Try.ntmps16
    go_wp2_with fail
    refine HG.out.mono ?_; rintro e w2 ⟨rfl, hb2⟩
    have HB2 := hide (HB.out.trans (hb2.mono HB.out.size))
    have x0 := (HX.out.next hb2).c0
    have x1 := (HX.out.next hb2).c1
    clear hb2 HG
    go_wp2_with fail
    refine (HP.out _ HB2.out).mono ?_
    rintro e w3 ⟨A', c', vs, rfl, hc1, hc2, hown, hb3⟩
    have HB3 := hide (HB2.out.trans (hb3.mono HB2.out.size))
    clear hown hb3 x0 x1 HP
    go_wp2_with fail
    exact bodyPost_ret (v := .tuple #[.int .i64 (zss.length : Int), .bool true]) (by simp [results, Try.results16, go_sem]) rfl ⟨rfl, HB3.out⟩

set_option maxHeartbeats 4000000 in
set_option maxRecDepth 100000 in
/-- The program's CountSolutions. -/
theorem CountSolutions_any (A : Option Addr) (n c B : Nat) (cs : List Cl) (u : Int) (w : World) (hr : Cls w B A n cs) (hB : B ≤ w.heap.size) (hn : n ≤ 17592186044416) :
    Calls Try.prog 18 #[.agg #[.int .i64 u, .slice A n c]] w fun e w' => e = .returned (.tuple #[.int .i64 (cntP u cs), .bool (pzOk u cs)]) ∧ Below w.heap.size w w' := by
  obtain rfl := hr.len
  have b1 : Below w.heap.size w (w.alloc (.cells #[.int .i64 u, .slice A cs.length c] 40)) := (Below.refl _ _).alloc (Nat.le_refl _) _
  have HX := hide (Bx.new w 40 (.int .i64 u) (.slice A cs.length c))
  have HG := hide (IsPuzzle_any A cs.length c B cs u _ (hr.below b1 hB) (Nat.le_trans hB b1.size) hn)
  have HB := hide b1
  clear b1
  cases hg : pzOk u cs
  · rw [hg] at HG
    rw [cntP_no hg]
    clear hg
    go_enter Try.func18, Try.ntmps18
    go_wp2_with fail
    refine HG.out.mono ?_; rintro e w2 ⟨rfl, hb2⟩
    have HB2 := hide (HB.out.trans (hb2.mono HB.out.size))
    clear hb2
    go_wp2_with fail
    exact bodyPost_ret (v := .tuple #[.int .i64 0, .bool false]) (by simp [results, Try.results18, go_sem]) rfl ⟨rfl, HB2.out⟩
  · rw [hg] at HG
    obtain ⟨hh, h6, hc⟩ := pzOk_parts hg
    obtain ⟨h, rfl⟩ := Int.eq_ofNat_of_zero_le (show 0 ≤ u by omega)
    have hP := fun W (hb : Below w.heap.size w W) => countSolutions_any A cs.length c B cs h W (hr.below hb hB) (Nat.le_trans hB hb.size) (by omega) (by omega) (subs_of hc)
    rw [cntP_yes hg]
    unfold cntL
    generalize solsL (fitAll cs) h = zss at *
    have HP := hide hP
    clear hP hg hc hr
    go_enter Try.func18, Try.ntmps18
    go_wp2_with fail
    refine HG.out.mono ?_; rintro e w2 ⟨rfl, hb2⟩
    have HB2 := hide (HB.out.trans (hb2.mono HB.out.size))
    have x0 := (HX.out.next hb2).c0
    have x1 := (HX.out.next hb2).c1
    clear hb2 HG
    go_wp2_with fail
    refine (HP.out _ HB2.out).mono ?_
    rintro e w3 ⟨rfl, hb3⟩
    have HB3 := hide (HB2.out.trans (hb3.mono HB2.out.size))
    clear hb3 x0 x1 HP
    go_wp2_with fail
    exact bodyPost_ret (v := .tuple #[.int .i64 (zss.length : Int), .bool true]) (by simp [results, Try.results18, go_sem]) rfl ⟨rfl, HB3.out⟩

/-- The model's pzSolved. -/
theorem pzSolved_any (A : Option Addr) (n c B : Nat) (cs : List Cl) (h : Nat) (w : World) (hr : Cls w B A n cs) (hB : B ≤ w.heap.size) (hn : n ≤ 1000000) (hh : 2 ≤ h ∧ h ≤ 4) (hs : ∀ (j : Nat) (hj : j < cs.length), subOk h cs[j].x0 cs[j].x1 cs[j].x2) :
    Calls Try.prog 47 #[.int .i64 (h : Int), .slice A n c] w fun e w' => e = .returned (.bool (decide (cntL h cs = 1))) ∧ Below w.heap.size w w' := by
  have hP := pzAll_any A n c B cs h w hr hB hn hh hs
  unfold cntL
  generalize solsL (fitAll cs) h = zss at *
  have HP := hide hP
  clear hP hr hs
  go_enter Try.func47, Try.ntmps47
  go_wp2_with fail
  refine HP.out.mono ?_
  rintro e w3 ⟨A', c', vs, rfl, hc1, hc2, hown, hb3⟩
  have HB3 := hide hb3
  clear hown hb3 HP
  go_wp2_with fail
  go_ret
  exact ⟨rfl, HB3.out⟩

set_option maxHeartbeats 4000000 in
set_option maxRecDepth 100000 in
/-- The model's IsSolved. -/
theorem specIsSolved_any (A : Option Addr) (n c B : Nat) (cs : List Cl) (u : Int) (w : World) (hr : Cls w B A n cs) (hB : B ≤ w.heap.size) (hn : n ≤ 17592186044416) :
    Calls Try.prog 20 #[.agg #[.int .i64 u, .slice A n c]] w fun e w' => e = .returned (.tuple #[.bool (slvP u cs), .bool (pzOk u cs)]) ∧ Below w.heap.size w w' := by
  obtain rfl := hr.len
  have b1 : Below w.heap.size w (w.alloc (.cells #[.int .i64 u, .slice A cs.length c] 40)) := (Below.refl _ _).alloc (Nat.le_refl _) _
  have HX := hide (Bx.new w 40 (.int .i64 u) (.slice A cs.length c))
  have HG := hide (pzGood_any A cs.length c B cs u _ (hr.below b1 hB) (Nat.le_trans hB b1.size) hn)
  have HB := hide b1
  unfold slvP
  clear b1
  cases hg : pzOk u cs
  · rw [hg] at HG
    rw [cntP_no hg]
    clear hg
    go_enter Try.func20, Try.ntmps20
    go_wp2_with fail
    refine HG.out.mono ?_; rintro e w2 ⟨rfl, hb2⟩
    have HB2 := hide (HB.out.trans (hb2.mono HB.out.size))
    clear hb2
    go_wp2_with fail
    exact bodyPost_ret (v := .tuple #[.bool false, .bool false]) (by simp [results, Try.results20, go_sem]) rfl ⟨rfl, HB2.out⟩
  · rw [hg] at HG
    obtain ⟨hh, h6, hc⟩ := pzOk_parts hg
    obtain ⟨h, rfl⟩ := Int.eq_ofNat_of_zero_le (show 0 ≤ u by omega)
    have hP := fun W (hb : Below w.heap.size w W) => pzSolved_any A cs.length c B cs h W (hr.below hb hB) (Nat.le_trans hB hb.size) (by omega) (by omega) (subs_of hc)
    rw [cntP_yes hg]
    generalize cntL h cs = zz at *
    have HP := hide hP
    clear hP hg hc hr
    go_enter Try.func20, Try.ntmps20
    go_wp2_with fail
    refine HG.out.mono ?_; rintro e w2 ⟨rfl, hb2⟩
    have HB2 := hide (HB.out.trans (hb2.mono HB.out.size))
    have x0 := (HX.out.next hb2).c0
    have x1 := (HX.out.next hb2).c1
    clear hb2 HG
    go_wp2_with fail
    refine (HP.out _ HB2.out).mono ?_
    rintro e w3 ⟨rfl, hb3⟩
    have HB3 := hide (HB2.out.trans (hb3.mono HB2.out.size))
    clear hb3 x0 x1 HP
    go_wp2_with fail
    exact bodyPost_ret (v := .tuple #[.bool (decide (zz = 1)), .bool true]) (by simp [results, Try.results20, go_sem]) rfl ⟨rfl, HB3.out⟩

set_option maxHeartbeats 4000000 in
set_option maxRecDepth 100000 in
/-- The program's IsSolved. -/
theorem IsSolved_any (A : Option Addr) (n c B : Nat) (cs : List Cl) (u : Int) (w : World) (hr : Cls w B A n cs) (hB : B ≤ w.heap.size) (hn : n ≤ 17592186044416) :
    Calls Try.prog 21 #[.agg #[.int .i64 u, .slice A n c]] w fun e w' => e = .returned (.tuple #[.bool (slvP u cs), .bool (pzOk u cs)]) ∧ Below w.heap.size w w' := by
  have b1 : Below w.heap.size w (w.alloc (.cells #[.int .i64 u, .slice A n c] 40)) := (Below.refl _ _).alloc (Nat.le_refl _) _
  have HC := hide (CountSolutions_any A n c B cs u _ (hr.below b1 hB) (Nat.le_trans hB b1.size) hn)
  have HB := hide b1
  unfold slvP
  clear b1 hr
  generalize cntP u cs = zz at *
  generalize pzOk u cs = bb at *
  go_enter Try.func21, Try.ntmps21
  go_wp2_with fail
  refine HC.out.mono ?_; rintro e w2 ⟨rfl, hb2⟩
  have HB2 := hide (HB.out.trans (hb2.mono HB.out.size))
  clear hb2 HC
  go_wp2_with fail
  exact bodyPost_ret (v := .tuple #[.bool (decide (zz = 1)), .bool bb]) (by simp [results, Try.results21, go_sem]; rfl) rfl ⟨rfl, HB2.out⟩
end Go.Proofs.Ytpgjhmgmfajelaa
