import Derived.Test.YtcbcgapnoompbaaMg41

/-
  RINGS BEFORE A RING, plainly: each steps to it, its least number is 0; if there is one, what is in the ring together is even. No program is named here.
-/
namespace Go.Proofs.Ytcbcgapnoompbaa

theorem wayEnd_near (zs : List Int) (s : Nat) (b : Int) (hz : ∀ k, 0 ≤ zs.getD k 0 ∧ zs.getD k 0 ≤ b) (j : Nat) : ∀ d : Nat, -(b * (d : Int)) ≤ wayEnd zs s (j + d) - wayEnd zs s j ∧ wayEnd zs s (j + d) - wayEnd zs s j ≤ b * (d : Int)
  | 0 => by simp
  | d + 1 => by
    have ih := wayEnd_near zs s b hz j d
    have h := hz (j + d)
    have e : b * ((d + 1 : Nat) : Int) = b * (d : Int) + b := by simp [Int.mul_add]
    have w : wayEnd zs s (j + (d + 1)) = if s / 2 ^ (j + d) % 2 = 1 then wayEnd zs s (j + d) - zs.getD (j + d) 0 else wayEnd zs s (j + d) + zs.getD (j + d) 0 := rfl
    rw [e, w]
    split <;> omega
theorem wayEnd_even (zs : List Int) (s : Nat) : ∀ k, (wayEnd zs s k - tot (zs.take k)) % 2 = 0
  | 0 => by simp [wayEnd, tot]
  | k + 1 => by
    have ih := wayEnd_even zs s k
    unfold wayEnd
    by_cases hk : k < zs.length
    · have e := tot_take_succ zs k hk
      have g : zs.getD k 0 = zs[k] := by simp [List.getD, hk]
      rw [e, g]
      split <;> omega
    · have e : zs.take (k + 1) = zs.take k := by rw [List.take_of_length_le (by omega), List.take_of_length_le (by omega)]
      have g : zs.getD k 0 = 0 := by simp [List.getD, show zs.length ≤ k by omega]
      rw [e, g]
      split <;> omega
theorem mn_low {l : List Int} (h : 0 < l.length) : mn (lowL l) = 0 := by
  have h1 := mn_mem (zs := lowL l) (by rw [lowL_length]; exact h)
  have h2 := mn_mem (zs := l) h
  have h3 : (0 : Int) ∈ lowL l := by
    unfold lowL
    exact List.mem_map.2 ⟨mn l, h2, by omega⟩
  have h4 := mn_le h3
  obtain ⟨y, hy, e⟩ := List.mem_map.1 (show mn (lowL l) ∈ l.map (· - mn l) from h1)
  have h5 := mn_le hy
  omega
/-- A RING BEFORE. -/
theorem before_of {zs x : List Int} (hs : rsmall zs = true) (hx : x ∈ befR zs) : rstep x = zs ∧ x.length = zs.length ∧ mn x = 0 ∧ rgood x = true ∧ tot zs % 2 = 0 := by
  obtain ⟨hg, hm⟩ := rsmall_of hs
  obtain ⟨g1, g2, g3⟩ := rgood_of hg
  have hz : ∀ k, 0 ≤ zs.getD k 0 ∧ zs.getD k 0 ≤ 100 := fun k => by
    by_cases hk : k < zs.length
    · have e : zs.getD k 0 = zs[k] := by simp [List.getD, hk]
      rw [e]
      have := le_mx (List.getElem_mem hk)
      exact ⟨(within_get g3 k hk).1, by omega⟩
    · simp [List.getD, show zs.length ≤ k by omega]
  unfold befR at hx
  rw [if_pos hs] at hx
  obtain ⟨s, _, h0, rfl⟩ := (befM_mem zs zs.length _ x).1 hx
  rw [low_same zs s _ (by omega) h0]
  have hl : ((wayL zs s zs.length).take zs.length).length = zs.length := by rw [List.length_take, wayL_length]; omega
  have hget : ∀ k, k < zs.length → (lowL ((wayL zs s zs.length).take zs.length)).getD k 0 = wayEnd zs s k - mn ((wayL zs s zs.length).take zs.length) := fun k hk => by
    rw [lowL_get _ k (by rw [hl]; exact hk)]
    congr 1
    have : ((wayL zs s zs.length).take zs.length).getD k 0 = (wayL zs s zs.length).getD k 0 := by
      simp [List.getD, List.getElem?_take, hk]
    rw [this, wayL_getD zs s _ k (by omega)]
  have hmn := mn_mem (zs := (wayL zs s zs.length).take zs.length) (by omega)
  obtain ⟨j, hj, hje⟩ := List.getElem_of_mem hmn
  rw [hl] at hj
  have hmj : mn ((wayL zs s zs.length).take zs.length) = wayEnd zs s j := by
    rw [← hje, List.getElem_take, ← wayL_getD zs s zs.length j (by omega)]
    simp [List.getD, wayL_length, show j < zs.length + 1 by omega]
  have hmz := mn_low (l := (wayL zs s zs.length).take zs.length) (by omega)
  have hle : ∀ k, k < zs.length → mn ((wayL zs s zs.length).take zs.length) ≤ wayEnd zs s k := fun k hk => by
    have h1 := mn_le (show ((wayL zs s zs.length).take zs.length)[k]'(by omega) ∈ _ from List.getElem_mem _)
    rw [List.getElem_take] at h1
    have : (wayL zs s zs.length)[k]'(by rw [wayL_length]; omega) = wayEnd zs s k := by
      rw [← wayL_getD zs s zs.length k (by omega)]; simp [List.getD, wayL_length, show k < zs.length + 1 by omega]
    omega
  have hll : (lowL ((wayL zs s zs.length).take zs.length)).length = zs.length := by rw [lowL_length, hl]
  refine ⟨?_, hll, hmz, ?_, ?_⟩
  · apply List.ext_getElem
    · rw [rstep_length, hll]
    · intro k h1 h2
      rw [rstep_get _ k (by rw [hll]; exact h2)]
      unfold rstep1
      rw [hll, hget k h2, hget _ (nextOf_lt h2)]
      have hn : wayEnd zs s (nextOf k zs.length) = wayEnd zs s (k + 1) := by
        by_cases h3 : k + 1 < zs.length
        · rw [nextOf_in h3]
        · rw [nextOf_end (show k + 1 = zs.length by omega), show k + 1 = zs.length by omega, h0]; rfl
      rw [hn]
      have hw : wayEnd zs s (k + 1) = if s / 2 ^ k % 2 = 1 then wayEnd zs s k - zs.getD k 0 else wayEnd zs s k + zs.getD k 0 := rfl
      rw [hw]
      have := hz k
      have e : zs.getD k 0 = zs[k] := by simp [List.getD, h2]
      unfold dif
      split <;> omega
  · rw [rgood_in (by rw [hll]; exact ⟨g1, g2⟩)]
    refine within_of fun k hk => ?_
    rw [hll] at hk
    have e := hget k hk
    rw [show (lowL ((wayL zs s zs.length).take zs.length)).getD k 0 = (lowL ((wayL zs s zs.length).take zs.length))[k]'(by rw [hll]; exact hk) from by simp [List.getD, hll, hk]] at e
    rw [e]
    have h1 := hle k hk
    rw [hmj] at h1 ⊢
    refine ⟨by omega, ?_⟩
    rcases Nat.le_total j k with hjk | hjk
    · have := (wayEnd_near zs s 100 hz j (k - j)).2
      rw [show j + (k - j) = k from by omega] at this
      omega
    · have := (wayEnd_near zs s 100 hz k (j - k)).1
      rw [show k + (j - k) = j from by omega] at this
      omega
  · have := wayEnd_even zs s zs.length
    rw [h0, List.take_length] at this
    omega
end Go.Proofs.Ytcbcgapnoompbaa
