import Derived.Test.YtediapekgbekeaaMg21
import Derived.Test.YtediapekgbekeaaMg22
import Derived.Test.YtediapekgbekeaaMg23

/-
  EVERY SHARING, plainly: the moves played one after the other make all heaps alike, and carry as many stones as told; so do the flows. No program is named here.
-/
namespace Go.Proofs.Ytediapekgbekeaa

/-- A move, told the other way. -/
def asMv (m : Mo) : Mv := ⟨m.x0, m.x1, m.x2⟩
/-- The stones that moves carry. -/
def carried : List Mo → Int
  | [] => 0
  | m :: ms => m.x2 + carried ms
theorem carried_append (a b : List Mo) : carried (a ++ b) = carried a + carried b := by
  induction a with
  | nil => simp [carried]
  | cons m ms ih => rw [List.cons_append, carried, carried, ih]; omega
theorem manyL_set (s : Int) (zs : List Int) (i : Nat) (x : Int) : manyL s (zs.set i x) = (manyL s zs).set i (max (x - s) 0) := by
  unfold manyL; rw [List.map_set]
theorem share_more {s : Int} {ys : List Int} (hs : 0 ≤ s) (hc : calm ys) (h0 : (exc s ys).sum = 0) (hp : hasPos (exc s ys) = true) :
    ∃ (i j : Nat) (c : Int) (hi : i < ys.length) (hj : j < ys.length), i ≠ j ∧ 1 ≤ c ∧ c ≤ ys[i] - s ∧ c ≤ s - ys[j] ∧ calm (moved i j c ys) ∧ (exc s (moved i j c ys)).sum = 0 ∧
      moves (exc s ys) = ⟨(i : Int), (j : Int), c⟩ :: moves (exc s (moved i j c ys)) := by
  obtain ⟨hi, hj, h1, h2, hij⟩ := next_pair h0 hp
  have hi' : fpos (exc s ys) < ys.length := by rw [← exc_length s]; exact hi
  have hj' : fneg (exc s ys) < ys.length := by rw [← exc_length s]; exact hj
  have ha := amount_pos h0 hp
  have e := amount_eq hi hj
  rw [exc_get s ys _ hi', exc_get s ys _ hj'] at e
  have hle : amount (exc s ys) ≤ ys[fpos (exc s ys)] := by omega
  have hm := exc_moved (s := s) (amount (exc s ys)) hij hi' hj'
  refine ⟨fpos (exc s ys), fneg (exc s ys), amount (exc s ys), hi', hj', hij, ha, by omega, by omega, calm_moved hc _ _ _ hij hi' hj' (by omega) hle, ?_, ?_⟩
  · rw [hm, movedE_sum hij hi hj]; exact h0
  · rw [hm]; exact moves_yes h0 hp
theorem many_moved {s c : Int} {ys : List Int} {i j : Nat} (hij : i ≠ j) (hi : i < ys.length) (hj : j < ys.length) (h1 : 1 ≤ c) (h2 : c ≤ ys[i] - s) (h3 : c ≤ s - ys[j]) : tot (manyL s ys) = c + tot (manyL s (moved i j c ys)) := by
  rw [moved_eq i j c ys hij hi hj, manyL_set, manyL_set, tot_set _ j _ (by rw [List.length_set, manyL_length]; exact hj), List.getElem_set_ne hij, tot_set _ i _ (by rw [manyL_length]; exact hi), manyL_get s ys i hi, manyL_get s ys j hj]
  omega
theorem share_plays {s : Int} (hs : 0 ≤ s) : ∀ (N : Nat) (ys : List Int), (moves (exc s ys)).length = N → calm ys → (exc s ys).sum = 0 →
    play ys ((moves (exc s ys)).map asMv) = some (List.replicate ys.length s) ∧ carried (moves (exc s ys)) = tot (manyL s ys) ∧ ∀ m ∈ moves (exc s ys), 1 ≤ m.x2
  | N, ys, hN, hc, h0 => by
    cases hp : hasPos (exc s ys)
    · have hall : ∀ x ∈ exc s ys, x ≤ 0 := fun x hx => by
        unfold hasPos at hp
        have := List.any_eq_false.1 hp x hx
        simpa using this
      have hz := (sum_le_zero _ hall).2 h0
      have hys : ∀ (k : Nat) (hk : k < ys.length), ys[k] = s := fun k hk => by
        have h1 := hz _ (List.getElem_mem (show k < (exc s ys).length by rw [exc_length]; exact hk))
        rw [exc_get s ys k hk] at h1; omega
      have e1 : ys = List.replicate ys.length s := by
        apply List.ext_getElem
        · simp
        · intro k h1 h2; rw [hys k h1]; simp
      have e2 : tot (manyL s ys) = 0 := by
        have : manyL s ys = List.replicate ys.length 0 := by
          apply List.ext_getElem
          · simp [manyL_length]
          · intro k h1 h2
            rw [manyL_get s ys k (by rw [manyL_length] at h1; exact h1), hys k (by rw [manyL_length] at h1; exact h1)]; simp
        rw [this]
        generalize ys.length = n
        induction n with
        | zero => rfl
        | succ n ih => rw [List.replicate_succ, tot, ih]; rfl
      rw [moves_no hp, e2]
      exact ⟨congrArg some e1, rfl, fun m hm => absurd hm (by simp)⟩
    · obtain ⟨i, j, c, hi, hj, hij, h1, h2, h3, hc', h0', hm⟩ := share_more hs hc h0 hp
      have hl : (moves (exc s (moved i j c ys))).length < N := by rw [hm] at hN; simp at hN; omega
      obtain ⟨p1, p2, p3⟩ := share_plays hs _ (moved i j c ys) rfl hc' h0'
      rw [moved_length] at p1
      rw [hm]
      refine ⟨?_, ?_, ?_⟩
      · rw [List.map_cons]
        unfold play
        have hcan : canMv ys (asMv ⟨(i : Int), (j : Int), c⟩).f (asMv ⟨(i : Int), (j : Int), c⟩).t (asMv ⟨(i : Int), (j : Int), c⟩).c = true := canMv_yes (by
          show (0 ≤ (i : Int) ∧ (i : Int) < ys.length) ∧ (0 ≤ (j : Int) ∧ (j : Int) < ys.length) ∧ (i : Int) ≠ (j : Int) ∧ 1 ≤ c ∧ c ≤ ys.getD (Int.toNat i) 0
          rw [Int.toNat_natCast]
          have : ys.getD i 0 = ys[i] := by simp [List.getD, hi]
          rw [this]
          refine ⟨⟨by omega, by omega⟩, ⟨by omega, by omega⟩, by omega, h1, by omega⟩)
        rw [if_pos hcan]
        exact p1
      · rw [carried, p2, many_moved hij hi hj h1 h2 h3]
      · intro m hm
        rcases List.mem_cons.1 hm with rfl | hm
        · exact h1
        · exact p3 m hm
  termination_by N => N

theorem moves_play {zs : List Int} (h : eqOk zs = true) : playOk zs ((moves (over zs)).map asMv) = true ∧ playL zs ((moves (over zs)).map asMv) = List.replicate zs.length (shareEq zs) ∧ carried (moves (over zs)) = gainN zs ∧ ∀ m ∈ moves (over zs), 1 ≤ m.x2 := by
  have hg := eqOk_good h
  have hs := (shareEq_bd h).1
  have ho := over_exc h
  obtain ⟨p1, p2, p3⟩ := share_plays hs _ zs rfl (calm_of_good hg) (by rw [← ho]; exact over_sum h)
  rw [← ho] at p1 p2 p3
  have hl : ((moves (over zs)).map asMv).length ≤ 100 := by
    rw [List.length_map]
    have := moves_len (over zs)
    rw [over_length] at this
    have := (good_of hg).2.1
    omega
  have hok := playOk_yes hg hl p1
  exact ⟨hok, playL_yes hok p1, by rw [p2, gainN_yes h], p3⟩
theorem carried_part (ms : List Mo) (h : ∀ m ∈ ms, 1 ≤ m.x2) (k : Nat) : 0 ≤ carried (ms.take k) ∧ carried (ms.take k) ≤ carried ms := by
  have pos : ∀ l : List Mo, (∀ m ∈ l, 1 ≤ m.x2) → 0 ≤ carried l := fun l hl => by
    induction l with
    | nil => simp [carried]
    | cons m ms ih =>
      have := hl m (by simp)
      have := ih (fun y hy => hl y (by simp [hy]))
      rw [carried]; omega
  have e := carried_append (ms.take k) (ms.drop k)
  rw [List.take_append_drop] at e
  have h1 := pos (ms.take k) (fun m hm => h m (List.mem_of_mem_take hm))
  have h2 := pos (ms.drop k) (fun m hm => h m (List.mem_of_mem_drop hm))
  omega
/-- What a heap has behind the flows. -/
theorem flows_now {zs : List Int} (h : eqOk zs = true) (k : Nat) (hk : k < zs.length) :
    zs.getD k 0 + (if 0 < k then (flows zs).getD (k - 1) 0 else 0) - (if k < zs.length - 1 then (flows zs).getD k 0 else 0) = shareEq zs := by
  have hs := shareEq_yes h
  have e : zs.getD k 0 = zs[k] := by simp [List.getD, hk]
  have f : ∀ i, i < zs.length - 1 → (flows zs).getD i 0 = tot ((over zs).take (i + 1)) := fun i hi => by
    have := flows_get zs i hi
    rw [← this]; simp [List.getD, flows_length, hi]
  have g := over_tot_succ zs k hk
  have hlast : tot ((over zs).take zs.length) = 0 := by
    have h1 := over_sum h
    have h2 : ∀ l : List Int, tot l = l.sum := fun l => by induction l with | nil => rfl | cons x xs ih => rw [tot, ih]; simp
    rw [List.take_of_length_le (by rw [over_length]; exact Nat.le_refl _), h2, h1]
  rw [e, hs]
  have c1 : (if 0 < k then (flows zs).getD (k - 1) 0 else 0) = tot ((over zs).take k) := by
    by_cases h0 : 0 < k
    · rw [if_pos h0, f (k - 1) (by omega)]; congr 2; omega
    · obtain rfl : k = 0 := by omega
      simp [tot]
  have c2 : (if k < zs.length - 1 then (flows zs).getD k 0 else 0) = tot ((over zs).take (k + 1)) := by
    by_cases h0 : k < zs.length - 1
    · rw [if_pos h0, f k h0]
    · rw [if_neg h0, show k + 1 = zs.length from by omega, hlast]
  rw [c1, c2]
  omega
end Go.Proofs.Ytediapekgbekeaa
