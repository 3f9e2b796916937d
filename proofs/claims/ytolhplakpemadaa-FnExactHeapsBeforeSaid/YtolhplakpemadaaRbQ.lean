
/-
  PLAIN FACTS FOR RINGS BEFORE: ways that are closed, lowered; the sorted list and the list kept in order are one. No program is named here.
-/
import Derived.Test.YtolhplakpemadaaRbP
import Derived.Test.YtolhplakpemadaaCmpP
import Derived.Test.YtolhplakpemadaaCyP
namespace Go.Proofs.Ytolhplakpemadaa

theorem lexLt_cmp : ∀ x y : List Int, cmpL x y < 0 → lexLt x y = true
  | [], [], h => by simp [cmpL] at h
  | [], _ :: _, _ => rfl
  | _ :: _, [], h => by simp [cmpL] at h
  | a :: x, b :: y, h => by
    rw [cmpL] at h
    unfold lexLt
    by_cases h1 : b < a
    · rw [if_pos h1] at h; omega
    · rw [if_neg h1] at h
      by_cases h2 : a < b
      · rw [if_pos h2]
      · rw [if_neg h2] at h
        rw [if_neg h2, if_neg h1]
        exact lexLt_cmp x y h
/-- A list with its least number taken off. -/
def lowL (l : List Int) : List Int := l.map (· - mn l)
theorem lowL_length (l : List Int) : (lowL l).length = l.length := by simp [lowL]
/-- Is a way closed? -/
def shutW (n : Nat) (way : List Int) : Bool := way.getD 0 0 == way.getD n 0
/-- The program's list ahead of the sort. -/
def befP (n : Nat) (ways : List (List Int)) : List (List Int) := ways.filterMap fun way => if shutW n way then some (lowL (way.take n)) else none
/-- The model's lowered way. -/
def lowM (n : Nat) (l : List Int) : List Int := (l.take n).map (· - l.foldl min 0)
def befM (zs : List Int) (n : Nat) : Nat → List (List Int)
  | 0 => []
  | s + 1 => if wayEnd zs s n = 0 then insU (befM zs n s) (lowM n (wayL zs s n)) else befM zs n s

theorem way_zero (zs : List Int) (s k : Nat) : (wayL zs s k).getD 0 0 = 0 := by
  simp [wayL, List.getD]; rfl
theorem low_same (zs : List Int) (s n : Nat) (hn : 1 ≤ n) (h : wayEnd zs s n = 0) : lowM n (wayL zs s n) = lowL ((wayL zs s n).take n) := by
  have hl := wayL_length zs s n
  have h0 := way_zero zs s n
  have h1 := wayL_last zs s n
  have htl : ((wayL zs s n).take n).length = n := by rw [List.length_take]; omega
  have e : (wayL zs s n).foldl min 0 = mn ((wayL zs s n).take n) := by
    obtain ⟨f1, f2, f3⟩ := foldl_min_le (wayL zs s n) 0
    have g1 := mn_mem (zs := (wayL zs s n).take n) (by omega)
    have g2 : ∀ z ∈ (wayL zs s n).take n, mn ((wayL zs s n).take n) ≤ z := fun z hz => mn_le hz
    have m0 : (0 : Int) ∈ (wayL zs s n).take n := by
      have : ((wayL zs s n).take n)[0]'(by omega) = 0 := by
        rw [List.getElem_take]
        simpa [List.getD, show 0 < (wayL zs s n).length by omega] using h0
      rw [← this]; exact List.getElem_mem _
    have a1 : (wayL zs s n).foldl min 0 ≤ mn ((wayL zs s n).take n) := f2 _ (List.mem_of_mem_take g1)
    have a2 : mn ((wayL zs s n).take n) ≤ (wayL zs s n).foldl min 0 := by
      rcases f3 with f3 | f3
      · rw [f3]; exact g2 _ m0
      · obtain ⟨i, hi, e⟩ := List.getElem_of_mem f3
        rw [hl] at hi
        by_cases hin : i < n
        · rw [← e]; exact g2 _ (by
            rw [show (wayL zs s n)[i] = ((wayL zs s n).take n)[i]'(by omega) from by rw [List.getElem_take]]
            exact List.getElem_mem _)
        · have : i = n := by omega
          subst this
          have : (wayL zs s i)[i] = 0 := by
            rw [← h, ← h1]; simp [List.getD, show i < (wayL zs s i).length by omega]
          rw [← e, this]; exact g2 _ m0
    omega
  unfold lowM lowL
  rw [e]
theorem befM_mem (zs : List Int) (n : Nat) : ∀ (t : Nat) (x : List Int), x ∈ befM zs n t ↔ ∃ s, s < t ∧ wayEnd zs s n = 0 ∧ x = lowM n (wayL zs s n)
  | 0, x => by simp [befM]
  | t + 1, x => by
    have ih := befM_mem zs n t x
    unfold befM
    split
    · rename_i hc
      rw [insU_mem, ih]
      constructor
      · rintro (rfl | ⟨s, h1, h2, h3⟩)
        · exact ⟨t, by omega, hc, rfl⟩
        · exact ⟨s, by omega, h2, h3⟩
      · rintro ⟨s, h1, h2, h3⟩
        rcases (show s = t ∨ s < t by omega) with rfl | h
        · exact .inl h3
        · exact .inr ⟨s, h, h2, h3⟩
    · rename_i hc
      rw [ih]
      constructor
      · rintro ⟨s, h1, h2, h3⟩; exact ⟨s, by omega, h2, h3⟩
      · rintro ⟨s, h1, h2, h3⟩
        rcases (show s = t ∨ s < t by omega) with rfl | h
        · exact absurd h2 hc
        · exact ⟨s, h, h2, h3⟩
theorem befM_order (zs : List Int) (n : Nat) : ∀ t, InOrder (befM zs n t)
  | 0 => List.Pairwise.nil
  | t + 1 => by
    unfold befM
    split
    · exact insU_order _ _ (befM_order zs n t)
    · exact befM_order zs n t
theorem befP_mem (zs : List Int) (hz : ∀ k, 0 ≤ zs.getD k 0) (n : Nat) (hn : 1 ≤ n) (x : List Int) : x ∈ befP n (waysL zs n) ↔ x ∈ befM zs n (2 ^ n) := by
  rw [befM_mem]
  unfold befP
  rw [List.mem_filterMap]
  constructor
  · rintro ⟨way, hw, hx⟩
    obtain ⟨s, hs, rfl⟩ := (waysL_mem zs hz n way).1 hw
    split at hx
    · rename_i hc
      unfold shutW at hc
      rw [way_zero, wayL_last] at hc
      have hc' : wayEnd zs s n = 0 := by simpa using (beq_iff_eq.1 hc).symm
      injection hx with hx
      exact ⟨s, hs, hc', by rw [low_same zs s n hn hc']; exact hx.symm⟩
    · cases hx
  · rintro ⟨s, hs, hc, rfl⟩
    refine ⟨wayL zs s n, (waysL_mem zs hz n _).2 ⟨s, hs, rfl⟩, ?_⟩
    rw [if_pos (by unfold shutW; rw [way_zero, wayL_last, hc]; rfl), low_same zs s n hn hc]

/-- No way is there twice. -/
theorem waysL_once (zs : List Int) : ∀ k, (waysL zs k).Nodup ∧ ∀ l ∈ waysL zs k, l.length = k + 1 ∧ l.getD 0 0 = 0
  | 0 => by simp [waysL]
  | k + 1 => by
    obtain ⟨ih1, ih2⟩ := waysL_once zs k
    unfold waysL
    constructor
    · refine List.pairwise_flatMap.2 ⟨fun way hw => ?_, ih1.imp_of_mem ?_⟩
      · split
        · rename_i hg
          refine List.pairwise_cons.2 ⟨fun y hy e => ?_, List.pairwise_singleton _ _⟩
          rw [List.mem_singleton] at hy
          rw [hy] at e
          have := List.append_cancel_left e
          injection this with this
          omega
        · exact List.pairwise_singleton _ _
      · intro a b ha hb hab
        refine fun x hxa y hxb e => hab ?_
        subst e
        have la := (ih2 a ha).1
        have lb := (ih2 b hb).1
        have ta : x.take (k + 1) = a := by
          rcases List.mem_cons.1 hxa with rfl | h
          · rw [← la]; simp
          · split at h
            · rw [List.mem_singleton] at h; subst h; rw [← la]; simp
            · simp at h
        have tb : x.take (k + 1) = b := by
          rcases List.mem_cons.1 hxb with rfl | h
          · rw [← lb]; simp
          · split at h
            · rw [List.mem_singleton] at h; subst h; rw [← lb]; simp
            · simp at h
        rw [← ta, tb]
    · intro l hl
      obtain ⟨way, hw, hl⟩ := List.mem_flatMap.1 hl
      obtain ⟨h1, h2⟩ := ih2 way hw
      have h3 : ∀ z : Int, (way ++ [z]).length = k + 1 + 1 ∧ (way ++ [z]).getD 0 0 = 0 := fun z => by
        refine ⟨by simp [h1], ?_⟩
        simp only [List.getD] at h2 ⊢
        rw [List.getElem?_append_left (by omega)]; exact h2
      rcases List.mem_cons.1 hl with rfl | hl
      · exact h3 _
      · split at hl
        · rw [List.mem_singleton] at hl; subst hl; exact h3 _
        · simp at hl
theorem waysL_count (zs : List Int) : ∀ k, (waysL zs k).length ≤ 2 ^ k
  | 0 => by simp [waysL]
  | k + 1 => by
    have ih := waysL_count zs k
    unfold waysL
    rw [List.length_flatMap]
    have : ∀ ws : List (List Int), (ws.map fun way => ((way ++ [way.getD k 0 + zs.getD k 0]) :: if zs.getD k 0 > 0 then [way ++ [way.getD k 0 - zs.getD k 0]] else []).length).sum ≤ 2 * ws.length := fun ws => by
      induction ws with
      | nil => simp
      | cons w ws ih2 =>
        have h1 : (if zs.getD k 0 > 0 then [w ++ [w.getD k 0 - zs.getD k 0]] else []).length ≤ 1 := by split <;> simp
        rw [List.map_cons, List.sum_cons, List.length_cons, List.length_cons]
        omega
    have h2 := this (waysL zs k)
    rw [Nat.pow_succ]
    omega
theorem low_inj {n : Nat} {a b : List Int} (ha : a.length = n + 1) (hb : b.length = n + 1) (h0a : a.getD 0 0 = 0) (h0b : b.getD 0 0 = 0) (hn : 1 ≤ n) (sa : shutW n a = true) (sb : shutW n b = true) (e : lowL (a.take n) = lowL (b.take n)) : a = b := by
  have hget : ∀ l : List Int, l.length = n + 1 → ∀ k, k < n → (lowL (l.take n)).getD k 0 = l.getD k 0 - mn (l.take n) := fun l hl k hk => by
    simp [lowL, List.getD, hk, show k < l.length by omega, List.getElem?_take]
  have hm : mn (a.take n) = mn (b.take n) := by
    have h1 := hget a ha 0 (by omega)
    have h2 := hget b hb 0 (by omega)
    rw [e, h2] at h1
    omega
  apply List.ext_getElem (by omega)
  intro k hk1 hk2
  have ga : a.getD k 0 = a[k] := by simp [List.getD, hk1]
  have gb : b.getD k 0 = b[k] := by simp [List.getD, hk2]
  by_cases hk : k < n
  · have h1 := hget a ha k hk
    have h2 := hget b hb k hk
    rw [e, h2] at h1
    omega
  · have : k = n := by omega
    subst this
    unfold shutW at sa sb
    have sa' := beq_iff_eq.1 sa
    have sb' := beq_iff_eq.1 sb
    omega
theorem befP_once (zs : List Int) (n : Nat) (hn : 1 ≤ n) : (befP n (waysL zs n)).Nodup := by
  obtain ⟨h1, h2⟩ := waysL_once zs n
  unfold befP
  refine List.pairwise_filterMap.2 (h1.imp_of_mem ?_)
  intro a b ha hb hab x hx y hy hxy
  split at hx
  · rename_i sa
    split at hy
    · rename_i sb
      injection hx with hx
      injection hy with hy
      exact hab (low_inj (h2 a ha).1 (h2 b hb).1 (h2 a ha).2 (h2 b hb).2 hn sa sb (by rw [hx, hy, hxy]))
    · cases hy
  · cases hx
/-- THE SORTED LIST IS THE MODEL's. -/
theorem sorted_bef (zs : List Int) (hz : ∀ k, 0 ≤ zs.getD k 0) (n : Nat) (hn : 1 ≤ n) (L : List (List Int)) (hp : L.Perm (befP n (waysL zs n))) (hs : L.Pairwise fun x y => ¬ cmpL y x < 0) : L = befM zs n (2 ^ n) := by
  refine inOrder_same _ _ ?_ (befM_order zs n _) (fun x => by rw [hp.mem_iff]; exact befP_mem zs hz n hn x)
  have hnd : L.Nodup := hp.nodup_iff.2 (befP_once zs n hn)
  refine (hs.and hnd).imp ?_
  rintro x y ⟨h1, h2⟩
  apply lexLt_cmp
  have h3 := cmpL_neg x y
  rcases (show cmpL x y < 0 ∨ cmpL x y = 0 by omega) with h | h
  · exact h
  · exact absurd (cmpL_zero x y h) h2
theorem befM_count (zs : List Int) (hz : ∀ k, 0 ≤ zs.getD k 0) (n : Nat) (hn : 1 ≤ n) : ∀ t, (befM zs n t).length ≤ t
  | 0 => by simp [befM]
  | t + 1 => by
    have ih := befM_count zs hz n hn t
    have hi : ∀ (xss : List (List Int)) (l : List Int), (insU xss l).length ≤ xss.length + 1 := fun xss l => by
      induction xss with
      | nil => simp [insU]
      | cons o os ih => unfold insU; split <;> (try split) <;> simp <;> omega
    unfold befM
    split
    · have := hi (befM zs n t) (lowM n (wayL zs t n)); omega
    · omega
theorem befM_len (zs : List Int) (n t : Nat) : ∀ x ∈ befM zs n t, x.length = n := fun x hx => by
  obtain ⟨s, _, _, rfl⟩ := (befM_mem zs n t x).1 hx
  unfold lowM
  rw [List.length_map, List.length_take, wayL_length]; omega
/-- Ways are no farther than all numbers together. -/
theorem wayEnd_bd (zs : List Int) (s : Nat) (hz : ∀ k, 0 ≤ zs.getD k 0 ∧ zs.getD k 0 ≤ 1000) : ∀ k : Nat, -(1000 * (k : Int)) ≤ wayEnd zs s k ∧ wayEnd zs s k ≤ 1000 * (k : Int)
  | 0 => by simp [wayEnd]
  | k + 1 => by
    have ih := wayEnd_bd zs s hz k
    have h := hz k
    unfold wayEnd
    split <;> omega
end Go.Proofs.Ytolhplakpemadaa
