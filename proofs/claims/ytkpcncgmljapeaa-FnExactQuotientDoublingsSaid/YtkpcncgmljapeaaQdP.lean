
/-
  QUOTIENTS OF THREE HEAPS, plainly. No program is named here.
-/
import Derived.Test.YtkpcncgmljapeaaDoubP
import Derived.Test.YtkpcncgmljapeaaLdG
import Derived.Test.YtkpcncgmljapeaaHas
namespace Go.Proofs.Ytkpcncgmljapeaa

/-- Where a heap of n is put among the first k of an order: lesser ones first. -/
def qK (zs os : List Int) (n : Int) : Nat → Nat
  | 0 => 0
  | k + 1 => if n < zs.getD (os.getD k 0).toNat 0 then qK zs os n k else k + 1
theorem qK_le (zs os : List Int) (n : Int) : ∀ k, qK zs os n k ≤ k
  | 0 => Nat.le_refl _
  | k + 1 => by
    unfold qK
    split
    · have := qK_le zs os n k; omega
    · exact Nat.le_refl _
def insQ (os : List Int) (k : Nat) (i : Int) : List Int := os.take k ++ [i] ++ os.drop k
def qPos (zs os : List Int) (n : Int) : Nat := qK zs os n os.length
theorem qPos_le (zs os : List Int) (n : Int) : qPos zs os n ≤ os.length := qK_le _ _ _ _
/-- The order of the first i heaps. -/
def qS (zs : List Int) : Nat → List Int
  | 0 => []
  | i + 1 => insQ (qS zs i) (qPos zs (qS zs i) (zs.getD i 0)) i
theorem insQ_length (os : List Int) (k : Nat) (i : Int) (h : k ≤ os.length) : (insQ os k i).length = os.length + 1 := by
  simp [insQ]; omega
theorem qS_length (zs : List Int) : ∀ i, (qS zs i).length = i
  | 0 => rfl
  | i + 1 => by
    rw [qS, insQ_length _ _ _ (qPos_le _ _ _), qS_length zs i]
theorem qS_mem (zs : List Int) : ∀ (i : Nat) (x : Int), x ∈ qS zs i → ∃ j : Nat, x = (j : Int) ∧ j < i
  | 0, x, h => by simp [qS] at h
  | i + 1, x, h => by
    rw [qS, insQ] at h
    simp only [List.mem_append, List.mem_singleton] at h
    rcases h with (h | h) | h
    · obtain ⟨j, h1, h2⟩ := qS_mem zs i x (List.mem_of_mem_take h); exact ⟨j, h1, by omega⟩
    · exact ⟨i, h, by omega⟩
    · obtain ⟨j, h1, h2⟩ := qS_mem zs i x (List.mem_of_mem_drop h); exact ⟨j, h1, by omega⟩
theorem qS_get (zs : List Int) (i k : Nat) (h : k < i) : ∃ j : Nat, (qS zs i).getD k 0 = (j : Int) ∧ j < i := by
  have hk : k < (qS zs i).length := by rw [qS_length]; exact h
  rw [getD_at hk]
  exact qS_mem zs i _ (List.getElem_mem hk)
def qA (zs : List Int) : List Int := qS zs zs.length
theorem qA_length (zs : List Int) : (qA zs).length = zs.length := qS_length _ _
theorem qK_yes {zs os : List Int} {n : Int} {k : Nat} (h : n < zs.getD (os.getD k 0).toNat 0) : qK zs os n (k + 1) = qK zs os n k := by rw [qK, if_pos h]
theorem qK_no {zs os : List Int} {n : Int} {k : Nat} (h : ¬ n < zs.getD (os.getD k 0).toNat 0) : qK zs os n (k + 1) = k + 1 := by rw [qK, if_neg h]
/-- Three heaps in order. -/
theorem qA_three (zs : List Int) (h : zs.length = 3) : ∃ a b c : Nat, qA zs = [(a : Int), b, c] ∧ a < 3 ∧ b < 3 ∧ c < 3 ∧ a ≠ b ∧ a ≠ c ∧ b ≠ c ∧ zs.getD a 0 ≤ zs.getD b 0 ∧ zs.getD b 0 ≤ zs.getD c 0 := by
  match zs, h with
  | [x, y, z], _ =>
    have e1 : qS [x, y, z] 1 = [0] := rfl
    by_cases h1 : y < x
    · have e2 : qS [x, y, z] 2 = [1, 0] := by
        rw [qS, e1]; simp [qPos, qK, insQ, h1]
      by_cases h2 : z < x
      · by_cases h3 : z < y
        · refine ⟨2, 1, 0, ?_, by omega, by omega, by omega, by omega, by omega, by omega, by simp; omega, by simp; omega⟩
          rw [qA, show [x, y, z].length = 2 + 1 from rfl, qS, e2]; simp [qPos, qK, insQ, h2, h3]
        · refine ⟨1, 2, 0, ?_, by omega, by omega, by omega, by omega, by omega, by omega, by simp; omega, by simp; omega⟩
          rw [qA, show [x, y, z].length = 2 + 1 from rfl, qS, e2]; simp [qPos, qK, insQ, h2, h3]
      · refine ⟨1, 0, 2, ?_, by omega, by omega, by omega, by omega, by omega, by omega, by simp; omega, by simp; omega⟩
        rw [qA, show [x, y, z].length = 2 + 1 from rfl, qS, e2]; simp [qPos, qK, insQ, h2]
    · have e2 : qS [x, y, z] 2 = [0, 1] := by
        rw [qS, e1]; simp [qPos, qK, insQ, h1]
      by_cases h2 : z < y
      · by_cases h3 : z < x
        · refine ⟨2, 0, 1, ?_, by omega, by omega, by omega, by omega, by omega, by omega, by simp; omega, by simp; omega⟩
          rw [qA, show [x, y, z].length = 2 + 1 from rfl, qS, e2]; simp [qPos, qK, insQ, h2, h3]
        · refine ⟨0, 2, 1, ?_, by omega, by omega, by omega, by omega, by omega, by omega, by simp; omega, by simp; omega⟩
          rw [qA, show [x, y, z].length = 2 + 1 from rfl, qS, e2]; simp [qPos, qK, insQ, h2, h3]
      · refine ⟨0, 1, 2, ?_, by omega, by omega, by omega, by omega, by omega, by omega, by simp; omega, by simp; omega⟩
        rw [qA, show [x, y, z].length = 2 + 1 from rfl, qS, e2]; simp [qPos, qK, insQ, h2]

/-- The doublings for the digits of q. -/
def digs (a b c : Nat) (q : Nat) : List Db :=
  if h : q = 0 then [] else ⟨((if q % 2 = 1 then b else c : Nat) : Int), (a : Int)⟩ :: digs a b c (q / 2)
termination_by q
decreasing_by omega
theorem digs_zero (a b c : Nat) : digs a b c 0 = [] := by rw [digs]; simp
theorem digs_one {a b c q : Nat} (h : q % 2 = 1) : digs a b c q = ⟨(b : Int), (a : Int)⟩ :: digs a b c (q / 2) := by
  rw [digs]; simp [h]; omega
theorem digs_two {a b c q : Nat} (h0 : q ≠ 0) (h : q % 2 ≠ 1) : digs a b c q = ⟨(c : Int), (a : Int)⟩ :: digs a b c (q / 2) := by
  rw [digs]; simp [h, h0]
theorem digs_len (a b c : Nat) : ∀ q, (digs a b c q).length ≤ q := by
  intro q
  induction q using Nat.strongRecOn with
  | _ q ih =>
    by_cases h0 : q = 0
    · subst h0; simp [digs_zero]
    · have := ih (q / 2) (by omega)
      by_cases h : q % 2 = 1
      · rw [digs_one h]; simp; omega
      · rw [digs_two h0 h]; simp; omega
/-- The digits that are 0, as a number. -/
def comp (q : Nat) : Nat := if h : q ≤ 1 then 0 else 2 * comp (q / 2) + (1 - q % 2)
termination_by q
decreasing_by omega
theorem comp_lt : ∀ q, 1 ≤ q → comp q < q := by
  intro q
  induction q using Nat.strongRecOn with
  | _ q ih =>
    intro h1
    rw [comp]
    split
    · omega
    · have := ih (q / 2) (by omega) (by omega); omega
theorem dmade_getD {zs : List Int} {i j : Nat} (hi : i < zs.length) (hj : j < zs.length) (hij : i ≠ j) (k : Nat) :
    (dmade i j zs).getD k 0 = if k = j then 2 * zs.getD j 0 else if k = i then zs.getD i 0 - zs.getD j 0 else zs.getD k 0 := by
  unfold dmade
  by_cases h1 : k = j
  · subst h1; simp [List.getD, hj]
  · rw [if_neg h1]
    by_cases h2 : k = i
    · subst h2; simp [List.getD, hi, List.getElem_set, Ne.symm h1]
    · simp [List.getD, List.getElem?_set_ne (Ne.symm h1), List.getElem?_set_ne (Ne.symm h2), h2]
theorem digs_play (a b c : Nat) (ha : a < 3) (hb : b < 3) (hc : c < 3) (hab : a ≠ b) (hac : a ≠ c) (hbc : b ≠ c) : ∀ (q : Nat) (zs : List Int), small zs → zs.length = 3 →
    0 < zs.getD a 0 → (q : Int) * zs.getD a 0 ≤ zs.getD b 0 → (comp q : Int) * zs.getD a 0 ≤ zs.getD c 0 →
    ∃ ys, dplay zs (digs a b c q) = some ys ∧ small ys ∧ ys.length = 3 ∧ ys.getD b 0 = zs.getD b 0 - q * zs.getD a 0 := by
  intro q
  induction q using Nat.strongRecOn with
  | _ q ih =>
    intro zs hs hl h0 hbq hcq
    by_cases hq : q = 0
    · subst hq
      exact ⟨zs, by rw [digs_zero]; rfl, hs, hl, by simp⟩
    · by_cases hd : q % 2 = 1
      · have hq2 : (q : Int) = 2 * ((q / 2 : Nat) : Int) + 1 := by omega
        have hle : zs.getD a 0 ≤ zs.getD b 0 := by
          have h1 : (1 : Int) * zs.getD a 0 ≤ (q : Int) * zs.getD a 0 := Int.mul_le_mul_of_nonneg_right (by omega) (by omega)
          omega
        have hcan : canD zs (b : Int) (a : Int) = true := canD_yes ⟨by omega, by omega, by omega, by omega, by omega, by simpa using h0, by simpa using hle⟩
        have hs2 := dmade_small hs (i := b) (j := a) (by omega) (by omega) (Ne.symm hab) (by rw [← getD_get, ← getD_get]; exact hle)
        have ga := dmade_getD (zs := zs) (i := b) (j := a) (by omega) (by omega) (Ne.symm hab)
        have g1 := ga a; have g2 := ga b; have g3 := ga c
        rw [if_pos rfl] at g1
        rw [if_neg (Ne.symm hab), if_pos rfl] at g2
        rw [if_neg (Ne.symm hac), if_neg (Ne.symm hbc)] at g3
        have e1 : (q : Int) * zs.getD a 0 = ((q / 2 : Nat) : Int) * (2 * zs.getD a 0) + zs.getD a 0 := by
          rw [hq2, Int.add_mul, Int.one_mul, Int.mul_comm 2 _, Int.mul_assoc]
        have e2 : (comp (q / 2) : Int) * (2 * zs.getD a 0) ≤ zs.getD c 0 := by
          by_cases hone : q ≤ 1
          · rw [show q / 2 = 0 by omega, show comp 0 = 0 by rw [comp]; simp]
            have : 0 ≤ zs.getD c 0 := by rw [getD_get (by omega)]; exact (small_get hs c (by omega)).1
            omega
          · have : comp q = 2 * comp (q / 2) := by rw [comp]; simp [hone, hd]
            rw [this] at hcq
            rw [show ((2 * comp (q / 2) : Nat) : Int) = (comp (q / 2) : Int) * 2 by omega, Int.mul_assoc] at hcq
            exact hcq
        obtain ⟨ys, p1, p2, p3, p4⟩ := ih (q / 2) (by omega) (dmade b a zs) hs2 (by rw [dmade_length]; exact hl) (by rw [g1]; omega) (by rw [g1, g2]; omega) (by rw [g1, g3]; exact e2)
        refine ⟨ys, ?_, p2, p3, by rw [p4, g1, g2]; omega⟩
        rw [digs_one hd]
        simp only [dplay, hcan, if_true]
        rw [Int.toNat_natCast, Int.toNat_natCast]
        exact p1
      · have hq2 : (q : Int) = 2 * ((q / 2 : Nat) : Int) := by omega
        have hcomp : comp q = 2 * comp (q / 2) + 1 := by rw [comp]; simp [show ¬ q ≤ 1 by omega]; omega
        rw [hcomp] at hcq
        have e3 : ((2 * comp (q / 2) + 1 : Nat) : Int) * zs.getD a 0 = (comp (q / 2) : Int) * (2 * zs.getD a 0) + zs.getD a 0 := by
          rw [show ((2 * comp (q / 2) + 1 : Nat) : Int) = (comp (q / 2) : Int) * 2 + 1 by omega, Int.add_mul, Int.one_mul, Int.mul_assoc]
        rw [e3] at hcq
        have hnn : 0 ≤ (comp (q / 2) : Int) * (2 * zs.getD a 0) := Int.mul_nonneg (by omega) (by omega)
        have hle : zs.getD a 0 ≤ zs.getD c 0 := by omega
        have hcan : canD zs (c : Int) (a : Int) = true := canD_yes ⟨by omega, by omega, by omega, by omega, by omega, by simpa using h0, by simpa using hle⟩
        have hs2 := dmade_small hs (i := c) (j := a) (by omega) (by omega) (Ne.symm hac) (by rw [← getD_get, ← getD_get]; exact hle)
        have ga := dmade_getD (zs := zs) (i := c) (j := a) (by omega) (by omega) (Ne.symm hac)
        have g1 := ga a; have g2 := ga b; have g3 := ga c
        rw [if_pos rfl] at g1
        rw [if_neg (Ne.symm hab), if_neg hbc] at g2
        rw [if_neg (Ne.symm hac), if_pos rfl] at g3
        have e1 : (q : Int) * zs.getD a 0 = ((q / 2 : Nat) : Int) * (2 * zs.getD a 0) := by
          rw [hq2, Int.mul_comm 2 _, Int.mul_assoc]
        obtain ⟨ys, p1, p2, p3, p4⟩ := ih (q / 2) (by omega) (dmade c a zs) hs2 (by rw [dmade_length]; exact hl) (by rw [g1]; omega) (by rw [g1, g2]; omega) (by rw [g1, g3]; omega)
        refine ⟨ys, ?_, p2, p3, by rw [p4, g1, g2]; omega⟩
        rw [digs_two hq hd]
        simp only [dplay, hcan, if_true]
        rw [Int.toNat_natCast, Int.toNat_natCast]
        exact p1
/-- The least heap. -/
def lo (zs : List Int) : Int := zs.getD ((qA zs).getD 0 0).toNat 0
/-- The doublings of one quotient. -/
def qdigs (zs : List Int) : List Db :=
  digs ((qA zs).getD 0 0).toNat ((qA zs).getD 1 0).toNat ((qA zs).getD 2 0).toNat (zs.getD ((qA zs).getD 1 0).toNat 0 / lo zs).toNat
def qnext (zs : List Int) : List Int := (dplay zs (qdigs zs)).getD []
/-- All doublings of whole heaps, f rounds at most. -/
def qall : Nat → List Int → List Db
  | 0, _ => []
  | f + 1, zs => if lo zs ≤ 0 then [] else qdigs zs ++ qall f (qnext zs)
theorem qall_none {f : Nat} {zs : List Int} (h : lo zs ≤ 0) : qall f zs = [] := by
  cases f with
  | zero => rfl
  | succ f => rw [qall, if_pos h]
theorem qall_some {f : Nat} {zs : List Int} (h : ¬ lo zs ≤ 0) : qall (f + 1) zs = qdigs zs ++ qall f (qnext zs) := by rw [qall, if_neg h]
/-- What is known of three heaps at the beginning of a round. -/
structure QOrd (zs : List Int) (a b c : Nat) : Prop where
  eq : qA zs = [(a : Int), b, c]
  ha : a < 3
  hb : b < 3
  hc : c < 3
  hab : a ≠ b
  hac : a ≠ c
  hbc : b ≠ c
  le1 : zs.getD a 0 ≤ zs.getD b 0
  le2 : zs.getD b 0 ≤ zs.getD c 0
  lo_ : lo zs = zs.getD a 0
  low : ∀ k, k < 3 → zs.getD a 0 ≤ zs.getD k 0
  lo0 : 0 ≤ zs.getD a 0
  hi : ∀ k, k < 3 → zs.getD k 0 ≤ 40
  digs_ : qdigs zs = digs a b c (zs.getD b 0 / zs.getD a 0).toNat
theorem qord (zs : List Int) (hs : small zs) (h : zs.length = 3) : ∃ a b c, QOrd zs a b c := by
  obtain ⟨a, b, c, e, h1, h2, h3, h4, h5, h6, h7, h8⟩ := qA_three zs h
  have hg : ∀ k, k < 3 → 0 ≤ zs.getD k 0 ∧ zs.getD k 0 ≤ 40 := fun k hk => by
    rw [getD_get (by omega)]; exact small_get hs k (by omega)
  have hlo : lo zs = zs.getD a 0 := by unfold lo; rw [e]; simp
  refine ⟨a, b, c, e, h1, h2, h3, h4, h5, h6, h7, h8, hlo, ?_, (hg a h1).1, fun k hk => (hg k hk).2, ?_⟩
  · intro k hk
    have : k = a ∨ k = b ∨ k = c := by omega
    rcases this with rfl | rfl | rfl <;> omega
  · unfold qdigs; rw [hlo, e]; simp
/-- A round: its doublings can be made, and the least heap is less behind it. -/
theorem qround {zs : List Int} {a b c : Nat} (hs : small zs) (hl : zs.length = 3) (o : QOrd zs a b c) (h0 : 0 < zs.getD a 0) :
    dplay zs (digs a b c (zs.getD b 0 / zs.getD a 0).toNat) = some (qnext zs) ∧ small (qnext zs) ∧ (qnext zs).length = 3 ∧ lo (qnext zs) < lo zs ∧ (zs.getD b 0 / zs.getD a 0).toNat ≤ 40 := by
  have hq0 : 0 ≤ zs.getD b 0 / zs.getD a 0 := Int.ediv_nonneg (by have := o.le1; omega) (by omega)
  have hqe : ((zs.getD b 0 / zs.getD a 0).toNat : Int) = zs.getD b 0 / zs.getD a 0 := Int.toNat_of_nonneg hq0
  have hm := Int.emod_add_mul_ediv (zs.getD b 0) (zs.getD a 0)
  have hm0 := Int.emod_nonneg (zs.getD b 0) (show zs.getD a 0 ≠ 0 by omega)
  have hm1 := Int.emod_lt_of_pos (zs.getD b 0) h0
  have hq1 : 1 ≤ zs.getD b 0 / zs.getD a 0 := (Int.le_ediv_iff_mul_le h0).2 (by have := o.le1; omega)
  have hle : zs.getD b 0 / zs.getD a 0 ≤ zs.getD b 0 := Int.ediv_le_self _ (by have := o.le1; omega)
  have hb40 := o.hi b o.hb
  have hbm : ((zs.getD b 0 / zs.getD a 0).toNat : Int) * zs.getD a 0 ≤ zs.getD b 0 := by
    rw [hqe, Int.mul_comm]; omega
  have hcm : (comp (zs.getD b 0 / zs.getD a 0).toNat : Int) * zs.getD a 0 ≤ zs.getD c 0 := by
    have h1 := comp_lt (zs.getD b 0 / zs.getD a 0).toNat (by omega)
    have h2 : (comp (zs.getD b 0 / zs.getD a 0).toNat : Int) * zs.getD a 0 ≤ ((zs.getD b 0 / zs.getD a 0).toNat : Int) * zs.getD a 0 := Int.mul_le_mul_of_nonneg_right (by omega) (by omega)
    have := o.le2
    omega
  obtain ⟨ys, p1, p2, p3, p4⟩ := digs_play a b c o.ha o.hb o.hc o.hab o.hac o.hbc _ zs hs hl h0 hbm hcm
  have hn : qnext zs = ys := by unfold qnext; rw [o.digs_, p1]; rfl
  rw [hn]
  refine ⟨p1, p2, p3, ?_, by omega⟩
  obtain ⟨a', b', c', o'⟩ := qord ys p2 p3
  rw [o'.lo_, o.lo_]
  have h1 := o'.low b o.hb
  rw [p4, hqe, Int.mul_comm] at h1
  omega
theorem qall_len : ∀ (f : Nat) (zs : List Int), small zs → zs.length = 3 → (qall f zs).length ≤ 40 * f
  | 0, _, _, _ => by simp [qall]
  | f + 1, zs, hs, hl => by
    by_cases h : lo zs ≤ 0
    · rw [qall_none h]; simp
    · obtain ⟨a, b, c, o⟩ := qord zs hs hl
      obtain ⟨h1, h2, h3, _, h5⟩ := qround hs hl o (by rw [← o.lo_]; omega)
      have h6 := qall_len f _ h2 h3
      have h7 := digs_len a b c (zs.getD b 0 / zs.getD a 0).toNat
      rw [qall_some h, List.length_append, o.digs_]
      omega
/-- What is told. -/
def quoOk (zs : List Int) : Bool := few zs && decide (zs.length = 3)
def quoL (zs : List Int) : List Db := if quoOk zs then qall 41 zs else []
theorem quo_of {zs : List Int} (h : quoOk zs = true) : small zs ∧ zs.length = 3 ∧ few zs = true := by
  unfold quoOk at h
  simp at h
  exact ⟨(few_small h.1).1, h.2, h.1⟩
theorem lo_bd {zs : List Int} (hs : small zs) (hl : zs.length = 3) : 0 ≤ lo zs ∧ lo zs ≤ 40 := by
  obtain ⟨a, b, c, o⟩ := qord zs hs hl
  rw [o.lo_]; exact ⟨o.lo0, o.hi a o.ha⟩
theorem quoL_len (zs : List Int) : (quoL zs).length ≤ 100000 := by
  unfold quoL
  cases h : quoOk zs
  · simp
  · obtain ⟨hs, hl, _⟩ := quo_of h
    have := qall_len 41 zs hs hl
    simp; omega
/-- Some heap is empty. -/
theorem lo_zero {zs : List Int} (hs : small zs) (hl : zs.length = 3) : zs.contains 0 = decide (lo zs ≤ 0) := by
  obtain ⟨a, b, c, o⟩ := qord zs hs hl
  rw [o.lo_]
  by_cases h : zs.getD a 0 ≤ 0
  · rw [decide_eq_true h]
    have h0 := o.lo0
    have : zs.getD a 0 = 0 := by omega
    have ha := o.ha
    rw [getD_get (by omega)] at this
    rw [List.contains_iff_mem]
    exact this ▸ List.getElem_mem _
  · rw [decide_eq_false h]
    apply Bool.eq_false_iff.2
    intro hc
    rw [List.contains_iff_mem] at hc
    obtain ⟨k, hk, e⟩ := List.getElem_of_mem hc
    have := o.low k (by omega)
    rw [getD_get hk, e] at this
    omega
/-- One doubling of a play that can be made. -/
theorem dplay_step {ys N : List Int} {ds : List Db} {i j : Nat} (h : dplay ys (⟨(i : Int), (j : Int)⟩ :: ds) = some N) (hs : small ys) (hl : ys.length = 3) :
    i < 3 ∧ j < 3 ∧ i ≠ j ∧ ys.getD j 0 ≤ ys.getD i 0 ∧ dplay (dmade i j ys) ds = some N ∧ small (dmade i j ys) ∧ (dmade i j ys).length = 3 := by
  simp only [dplay] at h
  split at h
  · rename_i hc
    have hb := canD_bd hc
    have hs2 := small_canD hs hc
    simp only [Int.toNat_natCast] at hb hs2 h
    exact ⟨by omega, by omega, by omega, hb.2.2.2.2.2.2, h, hs2, by rw [dmade_length]; exact hl⟩
  · cases h
theorem quoOk_no1 {zs : List Int} (h : few zs = false) : quoOk zs = false := by unfold quoOk; rw [h]; rfl
theorem quoOk_no2 {zs : List Int} (h : zs.length ≠ 3) : quoOk zs = false := by unfold quoOk; rw [decide_eq_false h]; simp
theorem quoOk_yes {zs : List Int} (h1 : few zs = true) (h : zs.length = 3) : quoOk zs = true := by unfold quoOk; rw [h1, decide_eq_true h]; rfl
theorem quoL_no {zs : List Int} (h : quoOk zs = false) : quoL zs = [] := by unfold quoL; rw [h]; rfl
theorem quoL_yes {zs : List Int} (h : quoOk zs = true) : quoL zs = qall 41 zs := by unfold quoL; rw [h]; rfl
/-- The program's row of three heaps holds a 0 just where the least one is. -/
theorem inL_lo {zs : List Int} (hs : small zs) (hl : zs.length = 3) : inL [pd zs 0, pd zs 1, pd zs 2, pd zs 3] 0 = decide (lo zs ≤ 0) := by
  rw [← lo_zero hs hl]
  match zs, hl with
  | [x, y, z], _ =>
    show decide (0 ∈ [x, y, z, -1]) = _
    rw [List.contains_eq_mem]
    simp
theorem quoL_short (zs : List Int) : (quoL zs).length ≤ 100000 := quoL_len zs
end Go.Proofs.Ytkpcncgmljapeaa
