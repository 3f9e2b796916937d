import Derived.Test.YtnakkmmmkbjfbaaMg08
import Derived.Test.YtnakkmmmkbjfbaaMg00
import Derived.OneCell
import Derived.Test.YtnakkmmmkbjfbaaMg06
import Derived.Test.YtnakkmmmkbjfbaaMg18

/-
  PLAIN FACTS FOR CHAPTER 6: jobs, plans, loads, ends. No program is named here.
-/
namespace Go.Proofs.Ytnakkmmmkbjfbaa

theorem getD_at {l : List Int} {k : Nat} (h : k < l.length) : l.getD k 0 = l[k] := by simp [List.getD, List.getElem?_eq_getElem h]
/-- Jobs. -/
def jgood (zs : List Int) : Bool := decide (1 ≤ zs.length ∧ zs.length ≤ 9) && within 1 1000 zs
theorem jgood_of {zs : List Int} (h : jgood zs = true) : 1 ≤ zs.length ∧ zs.length ≤ 9 ∧ within 1 1000 zs = true := by
  unfold jgood at h; simp at h; exact ⟨by omega, h.1.2, h.2⟩
theorem jgood_in {zs : List Int} (h : 1 ≤ zs.length ∧ zs.length ≤ 9) : jgood zs = within 1 1000 zs := by unfold jgood; simp [h]
theorem jgood_out {zs : List Int} (h : ¬ (1 ≤ zs.length ∧ zs.length ≤ 9)) : jgood zs = false := by unfold jgood; simp; omega
theorem jgood_get {zs : List Int} (h : jgood zs = true) (k : Nat) (hk : k < zs.length) : 1 ≤ zs[k] ∧ zs[k] ≤ 1000 := within_get (jgood_of h).2.2 k hk
theorem jgood_small {zs : List Int} (h : jgood zs = true) : within (-1000000000) 1000000000 zs = true := within_wide (jgood_of h).2.2 (by omega) (by omega)
theorem jgood_tot {zs : List Int} (h : jgood zs = true) : 1 ≤ tot zs ∧ tot zs ≤ 9000 := by
  obtain ⟨h1, h2, h3⟩ := jgood_of h
  have := tot_bd _ _ _ h3
  omega
/-- Jobs and machines. -/
def jask (zs : List Int) (m : Int) : Bool := jgood zs && decide (1 ≤ m ∧ m ≤ 4)
theorem jask_of {zs : List Int} {m : Int} (h : jask zs m = true) : jgood zs = true ∧ 1 ≤ m ∧ m ≤ 4 := by unfold jask at h; simpa using h
theorem jask_in {zs : List Int} {m : Int} (h : 1 ≤ m ∧ m ≤ 4) : jask zs m = jgood zs := by unfold jask; simp [h]
theorem jask_no {zs : List Int} {m : Int} (h : jgood zs = false) : jask zs m = false := by unfold jask; simp [h]
theorem jask_yes {zs : List Int} {m : Int} (h : jgood zs = true) : jask zs m = decide (1 ≤ m ∧ m ≤ 4) := by unfold jask; simp [h]
/-- A plan of them. -/
def jfit (zs : List Int) (m : Int) (ps : List Int) : Bool := decide (ps.length = zs.length) && within 0 (m - 1) ps
theorem jfit_of {zs ps : List Int} {m : Int} (h : jfit zs m ps = true) : ps.length = zs.length ∧ within 0 (m - 1) ps = true := by unfold jfit at h; simpa using h
def jboth (zs : List Int) (m : Int) (ps : List Int) : Bool := jask zs m && jfit zs m ps
theorem jboth_of {zs ps : List Int} {m : Int} (h : jboth zs m ps = true) : jask zs m = true ∧ jfit zs m ps = true := by unfold jboth at h; simpa using h
theorem jboth_no {zs ps : List Int} {m : Int} (h : jask zs m = false) : jboth zs m ps = false := by unfold jboth; simp [h]
theorem jboth_yes {zs ps : List Int} {m : Int} (h : jask zs m = true) : jboth zs m ps = jfit zs m ps := by unfold jboth; simp [h]

/-- The i-th one becomes greater by v. -/
def addTo (l : List Int) (i : Nat) (v : Int) : List Int := l.set i (l.getD i 0 + v)
theorem addTo_length (l : List Int) (i : Nat) (v : Int) : (addTo l i v).length = l.length := by simp [addTo]
/-- The loads behind the first k jobs. -/
def loadsZ (zs ps : List Int) (m : Nat) : Nat → List Int
  | 0 => List.replicate m 0
  | k + 1 => addTo (loadsZ zs ps m k) (ps.getD k 0).toNat (zs.getD k 0)
theorem loadsZ_length (zs ps : List Int) (m k : Nat) : (loadsZ zs ps m k).length = m := by
  induction k with
  | zero => simp [loadsZ]
  | succ k ih => simp [loadsZ, addTo_length, ih]
theorem within_set {lo hi : Int} {zs : List Int} (h : within lo hi zs = true) (i : Nat) (v : Int) (hv : lo ≤ v ∧ v ≤ hi) : within lo hi (zs.set i v) = true := by
  refine within_of fun k hk => ?_
  rw [List.getElem_set]
  split
  · exact hv
  · exact within_get h k (by simpa using hk)
theorem loadsZ_bd {zs : List Int} (ps : List Int) (m k : Nat) (h : within 0 1000 zs = true) : within 0 (1000 * k) (loadsZ zs ps m k) = true := by
  induction k with
  | zero =>
    refine within_of fun i hi => ?_
    simp [loadsZ]
  | succ k ih =>
    have hz : 0 ≤ zs.getD k 0 ∧ zs.getD k 0 ≤ 1000 := by
      by_cases hk : k < zs.length
      · rw [show zs.getD k 0 = zs[k] from by simp [List.getD, List.getElem?_eq_getElem hk]]; exact within_get h k hk
      · rw [show zs.getD k 0 = 0 from by simp [List.getD, List.getElem?_eq_none (by omega : zs.length ≤ k)]]; omega
    unfold loadsZ addTo
    by_cases hi : (ps.getD k 0).toNat < (loadsZ zs ps m k).length
    · refine within_set (within_wide ih (by omega) (by omega)) _ _ ?_
      have := within_get ih _ hi
      rw [getD_at hi]
      omega
    · rw [List.set_eq_of_length_le (by omega)]
      exact within_wide ih (by omega) (by omega)
/-- All loads. -/
def loadsA (zs ps : List Int) (m : Nat) : List Int := loadsZ zs ps m ps.length
def loadsR (zs : List Int) (m : Int) (ps : List Int) : List Int := if jboth zs m ps then loadsA zs ps m.toNat else []
theorem loadsR_yes {zs ps : List Int} {m : Int} (h : jboth zs m ps = true) : loadsR zs m ps = loadsA zs ps m.toNat := by simp [loadsR, h]
theorem loadsR_no {zs ps : List Int} {m : Int} (h : jboth zs m ps = false) : loadsR zs m ps = [] := by simp [loadsR, h]
theorem loadsA_length (zs ps : List Int) (m : Nat) : (loadsA zs ps m).length = m := loadsZ_length _ _ _ _
theorem jboth_m {zs ps : List Int} {m : Int} (h : jboth zs m ps = true) : 1 ≤ m ∧ m ≤ 4 := (jask_of (jboth_of h).1).2
theorem loadsR_short (zs : List Int) (m : Int) (ps : List Int) : (loadsR zs m ps).length ≤ 1048576 := by
  cases h : jboth zs m ps
  · rw [loadsR_no h]; simp
  · rw [loadsR_yes h, loadsA_length]; have := jboth_m h; omega
theorem loadsA_bd {zs ps : List Int} {m : Int} (h : jboth zs m ps = true) (k : Nat) : within 0 9000 (loadsA zs ps k) = true := by
  obtain ⟨h1, h2⟩ := jboth_of h
  have h3 := (jgood_of (jask_of h1).1)
  refine within_wide (loadsZ_bd ps k ps.length (within_wide h3.2.2 (by omega) (by omega))) (by omega) ?_
  have := (jfit_of h2).1
  omega
end Go.Proofs.Ytnakkmmmkbjfbaa

/-
  ROWS OF NUMBERS AT KNOWN BLOCKS: what they hold, stores into them and elsewhere. No program is named here.
-/
namespace Go.Proofs.Ytnakkmmmkbjfbaa
open Go.RowKit Go.Deep

section
variable {w w' : World} {g : Nat} {t : TypeId} {zs : List Int}
theorem Row.at_ (h : Row w g t zs) {k : Nat} (hk : k < zs.length) : w.cell? ⟨g, k, none⟩ = some (.int .i64 zs[k]) := by
  rw [World.rowIs.cell h hk]; simp [List.getD, hk]
theorem Row.atD (h : Row w g t zs) {k : Nat} (hk : k < zs.length) : w.cell? ⟨g, k, none⟩ = some (.int .i64 (zs.getD k 0)) := World.rowIs.cell h hk
theorem Row.free (h : Row w g t zs) (k : Nat) : w.frozen? ⟨g, k, none⟩ = false := World.rowIs.frozen h k
theorem Row.lt (h : Row w g t zs) : g < w.heap.size := World.rowIs.lt h
theorem Row.put (h : Row w g t zs) (k : Nat) (v : Int) : Row (w.setCell ⟨g, k, none⟩ (.int .i64 v)) g t (zs.set k v) := by
  unfold Row
  rw [List.length_set]
  refine (World.rowIs.set h k _).congr fun i hi => ?_
  by_cases e : i = k
  · subst e; simp [List.getD, hi]
  · simp [List.getD, e, List.getElem?_set_ne (Ne.symm e)]
theorem Row.past (h : Row w g t zs) {a : Addr} (ha : g ≠ a.block) (v : Value) : Row (w.setCell a v) g t zs := World.rowIs.setOther h ha v
theorem Row.new (h : Row w g t zs) (o : Obj) : Row (w.alloc o) g t zs := World.rowIs.alloc h o
theorem Row.below (h : Row w g t zs) {B : Nat} (hb : Below B w w') (hg : g < B) : Row w' g t zs := World.rowIs.of_block h (hb.block g hg)
theorem Row.same (h : Row w g t zs) (e : w'.heap[g]? = w.heap[g]?) : Row w' g t zs := World.rowIs.of_block h e
theorem Row.drewN (h : Row w g t zs) (n : Nat) : Row (w.drewN n) g t zs := h
theorem Row.zeros (w : World) (m : Nat) (t : TypeId) : Row (w.alloc (.cells (madeCells #[.int .i64 0] m) t)) w.heap.size t (List.replicate m 0) := by
  unfold Row
  rw [List.length_replicate]
  exact (World.rowIs_made w _ m _).congr (fun i hi => by simp [List.getD, hi])
theorem Row.is (h : Row w g t zs) {ys : List Int} (e : ys = zs) : Row w g t ys := e ▸ h
end
/-- A block of one cell: a captured variable. -/
def One (w : World) (b : Nat) (t : TypeId) (v : Value) : Prop := w.heap[b]? = some (.cells #[v] t (0, 0))
section
variable {w w' : World} {b : Nat} {t : TypeId} {v : Value}
theorem One.cell (h : One w b t v) : w.cell? ⟨b, 0, none⟩ = some v := cell_of_one h
theorem One.free (h : One w b t v) : w.frozen? ⟨b, 0, none⟩ = false := free_of_one h
theorem One.lt (h : One w b t v) : b < w.heap.size := lt_of_block h
theorem One.put (h : One w b t v) (u : Value) : One (w.setCell ⟨b, 0, none⟩ u) b t u := one_setCell h
theorem One.past (h : One w b t v) {a : Addr} (ha : b ≠ a.block) (u : Value) : One (w.setCell a u) b t v := (Below.heap_setCell _ _ _ _ ha).trans h
theorem One.new (h : One w b t v) (o : Obj) : One (w.alloc o) b t v := (Below.heap_alloc _ _ _ h.lt).trans h
theorem One.below (h : One w b t v) {B : Nat} (hb : Below B w w') (hg : b < B) : One w' b t v := (hb.block b hg).trans h
theorem One.same (h : One w b t v) (e : w'.heap[b]? = w.heap[b]?) : One w' b t v := e.trans h
theorem One.drewN (h : One w b t v) (n : Nat) : One (w.drewN n) b t v := h
theorem One.made (w : World) (t : TypeId) (v : Value) : One (w.alloc (.cells #[v] t)) w.heap.size t v := by
  unfold One
  show (w.heap.push _)[w.heap.size]? = _
  rw [Array.getElem?_push]; simp
end
/-- All blocks but one are as they were. -/
def Save (g : Nat) (w w' : World) : Prop := ∀ h, h < w.heap.size → h ≠ g → w'.heap[h]? = w.heap[h]?
theorem Save.refl (g : Nat) (w : World) : Save g w w := fun _ _ _ => rfl
theorem Save.put {g : Nat} {w w' : World} (h : Save g w w') (k : Nat) (v : Value) : Save g w (w'.setCell ⟨g, k, none⟩ v) := fun b hb hn => (Below.heap_setCell _ _ _ _ hn).trans (h b hb hn)
theorem Save.drewN {g : Nat} {w w' : World} (h : Save g w w') (n : Nat) : Save g w (w'.drewN n) := h
theorem cell_of_block {w w' : World} {p : Addr} (e : w'.heap[p.block]? = w.heap[p.block]?) : w'.cell? p = w.cell? p := by simp [World.cell?, e]
theorem Save.cell {g : Nat} {w w' : World} (h : Save g w w') {p : Addr} (hp : p.block < w.heap.size) (hn : p.block ≠ g) : w'.cell? p = w.cell? p := cell_of_block (h _ hp hn)
/-- 0, 1, .., m - 1. -/
def rng (m : Nat) : List Int := (List.range m).map fun (i : Nat) => (i : Int)
theorem rng_length (m : Nat) : (rng m).length = m := by simp [rng]
theorem rng_get {m k : Nat} (h : k < m) : (rng m)[k]'(by rw [rng_length]; exact h) = (k : Int) := by simp [rng]
theorem rng_getD {m k : Nat} (h : k < m) : (rng m).getD k 0 = (k : Int) := by simp [rng, List.getD, h]
theorem rng_succ (m : Nat) : rng (m + 1) = rng m ++ [(m : Int)] := by simp [rng, List.range_succ]
end Go.Proofs.Ytnakkmmmkbjfbaa

/-
  GIVING JOBS OUT, PLAINLY: the first one of the least loads, plans in some order. No program is named here.
-/
namespace Go.Proofs.Ytnakkmmmkbjfbaa

/-- The first one of the least ones of the first k. -/
def flAt (l : List Int) : Nat → Nat
  | 0 => 0
  | k + 1 => if l.getD k 0 < l.getD (flAt l k) 0 then k else flAt l k
theorem flAt_lt (l : List Int) (h : 0 < l.length) : ∀ k, k ≤ l.length → flAt l k < l.length
  | 0, _ => h
  | k + 1, hk => by
    unfold flAt
    split
    · omega
    · exact flAt_lt l h k (by omega)
theorem flAt_yes {l : List Int} {k : Nat} (h : l.getD k 0 < l.getD (flAt l k) 0) : flAt l (k + 1) = k := by
  rw [flAt, if_pos h]
theorem flAt_no {l : List Int} {k : Nat} (h : ¬ l.getD k 0 < l.getD (flAt l k) 0) : flAt l (k + 1) = flAt l k := by
  rw [flAt, if_neg h]
theorem flAt_one (l : List Int) : flAt l 1 = 0 := by
  show (if _ then _ else _) = _
  split <;> rfl
/-- The plan and the loads behind the first k jobs of an order. -/
def giveS (zs os : List Int) (m : Nat) : Nat → List Int × List Int
  | 0 => (List.replicate zs.length 0, List.replicate m 0)
  | k + 1 =>
    ((giveS zs os m k).1.set (os.getD k 0).toNat (flAt (giveS zs os m k).2 m),
      (giveS zs os m k).2.set (flAt (giveS zs os m k).2 m) ((giveS zs os m k).2.getD (flAt (giveS zs os m k).2 m) 0 + zs.getD (os.getD k 0).toNat 0))
theorem giveS_len (zs os : List Int) (m : Nat) : ∀ k, (giveS zs os m k).1.length = zs.length ∧ (giveS zs os m k).2.length = m
  | 0 => by simp [giveS]
  | k + 1 => by
    have := giveS_len zs os m k
    simp [giveS, this]
theorem giveS_bd {zs : List Int} (os : List Int) (m : Nat) (h : within 0 1000 zs = true) : ∀ k : Nat, within 0 (1000 * k) (giveS zs os m k).2 = true
  | 0 => by
    refine within_of fun i hi => ?_
    simp [giveS]
  | k + 1 => by
    have ih := giveS_bd os m h k
    have hz : 0 ≤ zs.getD (os.getD k 0).toNat 0 ∧ zs.getD (os.getD k 0).toNat 0 ≤ 1000 := by
      by_cases hk : (os.getD k 0).toNat < zs.length
      · rw [getD_at hk]; exact within_get h _ hk
      · rw [show zs.getD (os.getD k 0).toNat 0 = 0 from by rw [List.getD, List.getElem?_eq_none (by omega)]; rfl]; omega
    show within _ _ ((giveS zs os m k).2.set _ _) = true
    by_cases hi : flAt (giveS zs os m k).2 m < (giveS zs os m k).2.length
    · refine within_set (within_wide ih (by omega) (by omega)) _ _ ?_
      have := within_get ih _ hi
      rw [getD_at hi]
      omega
    · rw [List.set_eq_of_length_le (by omega)]
      exact within_wide ih (by omega) (by omega)
def giveP (zs os : List Int) (m : Nat) : List Int := (giveS zs os m os.length).1
theorem giveP_length (zs os : List Int) (m : Nat) : (giveP zs os m).length = zs.length := (giveS_len zs os m _).1
theorem giveS_step (zs os : List Int) (m k jb f : Nat) (p l : List Int) (h : giveS zs os m k = (p, l)) (hj : os.getD k 0 = (jb : Int)) (hf : flAt l m = f) (x y : Int) (hx : l.getD f 0 = x) (hy : zs.getD jb 0 = y) :
    giveS zs os m (k + 1) = (p.set jb (f : Int), l.set f (x + y)) := by
  show (_, _) = _
  rw [h, hj]
  simp only [Int.toNat_natCast, hf, hx, hy]
end Go.Proofs.Ytnakkmmmkbjfbaa

/-
  QUOTIENTS OF THREE HEAPS, plainly. No program is named here.
-/
namespace Go.Proofs.Ytnakkmmmkbjfbaa

/-- Where a heap of n is put among the first k of an order: lesser ones first. -/
def qK (zs os : List Int) (n : Int) : Nat → Nat
  | 0 => 0
  | k + 1 => if n < zs.getD (os.getD k 0).toNat 0 then qK zs os n k else k + 1
theorem qK_le (zs os : List Int) (n : Int) : ∀ k, qK zs os n k ≤ k
  | 0 => Nat.le_refl _
  | k + 1 => by
    unfold qK
    split
    · have := qK_le zs os n k; omega
    · exact Nat.le_refl _
def insQ (os : List Int) (k : Nat) (i : Int) : List Int := os.take k ++ [i] ++ os.drop k
def qPos (zs os : List Int) (n : Int) : Nat := qK zs os n os.length
theorem qPos_le (zs os : List Int) (n : Int) : qPos zs os n ≤ os.length := qK_le _ _ _ _
/-- The order of the first i heaps. -/
def qS (zs : List Int) : Nat → List Int
  | 0 => []
  | i + 1 => insQ (qS zs i) (qPos zs (qS zs i) (zs.getD i 0)) i
theorem insQ_length (os : List Int) (k : Nat) (i : Int) (h : k ≤ os.length) : (insQ os k i).length = os.length + 1 := by
  simp [insQ]; omega
theorem qS_length (zs : List Int) : ∀ i, (qS zs i).length = i
  | 0 => rfl
  | i + 1 => by
    rw [qS, insQ_length _ _ _ (qPos_le _ _ _), qS_length zs i]
theorem qS_mem (zs : List Int) : ∀ (i : Nat) (x : Int), x ∈ qS zs i → ∃ j : Nat, x = (j : Int) ∧ j < i
  | 0, x, h => by simp [qS] at h
  | i + 1, x, h => by
    rw [qS, insQ] at h
    simp only [List.mem_append, List.mem_singleton] at h
    rcases h with (h | h) | h
    · obtain ⟨j, h1, h2⟩ := qS_mem zs i x (List.mem_of_mem_take h); exact ⟨j, h1, by omega⟩
    · exact ⟨i, h, by omega⟩
    · obtain ⟨j, h1, h2⟩ := qS_mem zs i x (List.mem_of_mem_drop h); exact ⟨j, h1, by omega⟩
theorem qS_get (zs : List Int) (i k : Nat) (h : k < i) : ∃ j : Nat, (qS zs i).getD k 0 = (j : Int) ∧ j < i := by
  have hk : k < (qS zs i).length := by rw [qS_length]; exact h
  rw [getD_at hk]
  exact qS_mem zs i _ (List.getElem_mem hk)
def qA (zs : List Int) : List Int := qS zs zs.length
theorem qA_length (zs : List Int) : (qA zs).length = zs.length := qS_length _ _
theorem qK_yes {zs os : List Int} {n : Int} {k : Nat} (h : n < zs.getD (os.getD k 0).toNat 0) : qK zs os n (k + 1) = qK zs os n k := by rw [qK, if_pos h]
theorem qK_no {zs os : List Int} {n : Int} {k : Nat} (h : ¬ n < zs.getD (os.getD k 0).toNat 0) : qK zs os n (k + 1) = k + 1 := by rw [qK, if_neg h]
/-- Three heaps in order. -/
theorem qA_three (zs : List Int) (h : zs.length = 3) : ∃ a b c : Nat, qA zs = [(a : Int), b, c] ∧ a < 3 ∧ b < 3 ∧ c < 3 ∧ a ≠ b ∧ a ≠ c ∧ b ≠ c ∧ zs.getD a 0 ≤ zs.getD b 0 ∧ zs.getD b 0 ≤ zs.getD c 0 := by
  match zs, h with
  | [x, y, z], _ =>
    have e1 : qS [x, y, z] 1 = [0] := rfl
    by_cases h1 : y < x
    · have e2 : qS [x, y, z] 2 = [1, 0] := by
        rw [qS, e1]; simp [qPos, qK, insQ, h1]
      by_cases h2 : z < x
      · by_cases h3 : z < y
        · refine ⟨2, 1, 0, ?_, by omega, by omega, by omega, by omega, by omega, by omega, by simp; omega, by simp; omega⟩
          rw [qA, show [x, y, z].length = 2 + 1 from rfl, qS, e2]; simp [qPos, qK, insQ, h2, h3]
        · refine ⟨1, 2, 0, ?_, by omega, by omega, by omega, by omega, by omega, by omega, by simp; omega, by simp; omega⟩
          rw [qA, show [x, y, z].length = 2 + 1 from rfl, qS, e2]; simp [qPos, qK, insQ, h2, h3]
      · refine ⟨1, 0, 2, ?_, by omega, by omega, by omega, by omega, by omega, by omega, by simp; omega, by simp; omega⟩
        rw [qA, show [x, y, z].length = 2 + 1 from rfl, qS, e2]; simp [qPos, qK, insQ, h2]
    · have e2 : qS [x, y, z] 2 = [0, 1] := by
        rw [qS, e1]; simp [qPos, qK, insQ, h1]
      by_cases h2 : z < y
      · by_cases h3 : z < x
        · refine ⟨2, 0, 1, ?_, by omega, by omega, by omega, by omega, by omega, by omega, by simp; omega, by simp; omega⟩
          rw [qA, show [x, y, z].length = 2 + 1 from rfl, qS, e2]; simp [qPos, qK, insQ, h2, h3]
        · refine ⟨0, 2, 1, ?_, by omega, by omega, by omega, by omega, by omega, by omega, by simp; omega, by simp; omega⟩
          rw [qA, show [x, y, z].length = 2 + 1 from rfl, qS, e2]; simp [qPos, qK, insQ, h2, h3]
      · refine ⟨0, 1, 2, ?_, by omega, by omega, by omega, by omega, by omega, by omega, by simp; omega, by simp; omega⟩
        rw [qA, show [x, y, z].length = 2 + 1 from rfl, qS, e2]; simp [qPos, qK, insQ, h2]

/-- The doublings for the digits of q. -/
def digs (a b c : Nat) (q : Nat) : List Db :=
  if h : q = 0 then [] else ⟨((if q % 2 = 1 then b else c : Nat) : Int), (a : Int)⟩ :: digs a b c (q / 2)
termination_by q
decreasing_by omega
theorem digs_zero (a b c : Nat) : digs a b c 0 = [] := by rw [digs]; simp
theorem digs_one {a b c q : Nat} (h : q % 2 = 1) : digs a b c q = ⟨(b : Int), (a : Int)⟩ :: digs a b c (q / 2) := by
  rw [digs]; simp [h]; omega
theorem digs_two {a b c q : Nat} (h0 : q ≠ 0) (h : q % 2 ≠ 1) : digs a b c q = ⟨(c : Int), (a : Int)⟩ :: digs a b c (q / 2) := by
  rw [digs]; simp [h, h0]
theorem digs_len (a b c : Nat) : ∀ q, (digs a b c q).length ≤ q := by
  intro q
  induction q using Nat.strongRecOn with
  | _ q ih =>
    by_cases h0 : q = 0
    · subst h0; simp [digs_zero]
    · have := ih (q / 2) (by omega)
      by_cases h : q % 2 = 1
      · rw [digs_one h]; simp; omega
      · rw [digs_two h0 h]; simp; omega
/-- The digits that are 0, as a number. -/
def comp (q : Nat) : Nat := if h : q ≤ 1 then 0 else 2 * comp (q / 2) + (1 - q % 2)
termination_by q
decreasing_by omega
theorem comp_lt : ∀ q, 1 ≤ q → comp q < q := by
  intro q
  induction q using Nat.strongRecOn with
  | _ q ih =>
    intro h1
    rw [comp]
    split
    · omega
    · have := ih (q / 2) (by omega) (by omega); omega
theorem dmade_getD {zs : List Int} {i j : Nat} (hi : i < zs.length) (hj : j < zs.length) (hij : i ≠ j) (k : Nat) :
    (dmade i j zs).getD k 0 = if k = j then 2 * zs.getD j 0 else if k = i then zs.getD i 0 - zs.getD j 0 else zs.getD k 0 := by
  unfold dmade
  by_cases h1 : k = j
  · subst h1; simp [List.getD, hj]
  · rw [if_neg h1]
    by_cases h2 : k = i
    · subst h2; simp [List.getD, hi, List.getElem_set, Ne.symm h1]
    · simp [List.getD, List.getElem?_set_ne (Ne.symm h1), List.getElem?_set_ne (Ne.symm h2), h2]
theorem digs_play (a b c : Nat) (ha : a < 3) (hb : b < 3) (hc : c < 3) (hab : a ≠ b) (hac : a ≠ c) (hbc : b ≠ c) : ∀ (q : Nat) (zs : List Int), small zs → zs.length = 3 →
    0 < zs.getD a 0 → (q : Int) * zs.getD a 0 ≤ zs.getD b 0 → (comp q : Int) * zs.getD a 0 ≤ zs.getD c 0 →
    ∃ ys, dplay zs (digs a b c q) = some ys ∧ small ys ∧ ys.length = 3 ∧ ys.getD b 0 = zs.getD b 0 - q * zs.getD a 0 := by
  intro q
  induction q using Nat.strongRecOn with
  | _ q ih =>
    intro zs hs hl h0 hbq hcq
    by_cases hq : q = 0
    · subst hq
      exact ⟨zs, by rw [digs_zero]; rfl, hs, hl, by simp⟩
    · by_cases hd : q % 2 = 1
      · have hq2 : (q : Int) = 2 * ((q / 2 : Nat) : Int) + 1 := by omega
        have hle : zs.getD a 0 ≤ zs.getD b 0 := by
          have h1 : (1 : Int) * zs.getD a 0 ≤ (q : Int) * zs.getD a 0 := Int.mul_le_mul_of_nonneg_right (by omega) (by omega)
          omega
        have hcan : canD zs (b : Int) (a : Int) = true := canD_yes ⟨by omega, by omega, by omega, by omega, by omega, by simpa using h0, by simpa using hle⟩
        have hs2 := dmade_small hs (i := b) (j := a) (by omega) (by omega) (Ne.symm hab) (by rw [← getD_get, ← getD_get]; exact hle)
        have ga := dmade_getD (zs := zs) (i := b) (j := a) (by omega) (by omega) (Ne.symm hab)
        have g1 := ga a; have g2 := ga b; have g3 := ga c
        rw [if_pos rfl] at g1
        rw [if_neg (Ne.symm hab), if_pos rfl] at g2
        rw [if_neg (Ne.symm hac), if_neg (Ne.symm hbc)] at g3
        have e1 : (q : Int) * zs.getD a 0 = ((q / 2 : Nat) : Int) * (2 * zs.getD a 0) + zs.getD a 0 := by
          rw [hq2, Int.add_mul, Int.one_mul, Int.mul_comm 2 _, Int.mul_assoc]
        have e2 : (comp (q / 2) : Int) * (2 * zs.getD a 0) ≤ zs.getD c 0 := by
          by_cases hone : q ≤ 1
          · rw [show q / 2 = 0 by omega, show comp 0 = 0 by rw [comp]; simp]
            have : 0 ≤ zs.getD c 0 := by rw [getD_get (by omega)]; exact (small_get hs c (by omega)).1
            omega
          · have : comp q = 2 * comp (q / 2) := by rw [comp]; simp [hone, hd]
            rw [this] at hcq
            rw [show ((2 * comp (q / 2) : Nat) : Int) = (comp (q / 2) : Int) * 2 by omega, Int.mul_assoc] at hcq
            exact hcq
        obtain ⟨ys, p1, p2, p3, p4⟩ := ih (q / 2) (by omega) (dmade b a zs) hs2 (by rw [dmade_length]; exact hl) (by rw [g1]; omega) (by rw [g1, g2]; omega) (by rw [g1, g3]; exact e2)
        refine ⟨ys, ?_, p2, p3, by rw [p4, g1, g2]; omega⟩
        rw [digs_one hd]
        simp only [dplay, hcan, if_true]
        rw [Int.toNat_natCast, Int.toNat_natCast]
        exact p1
      · have hq2 : (q : Int) = 2 * ((q / 2 : Nat) : Int) := by omega
        have hcomp : comp q = 2 * comp (q / 2) + 1 := by rw [comp]; simp [show ¬ q ≤ 1 by omega]; omega
        rw [hcomp] at hcq
        have e3 : ((2 * comp (q / 2) + 1 : Nat) : Int) * zs.getD a 0 = (comp (q / 2) : Int) * (2 * zs.getD a 0) + zs.getD a 0 := by
          rw [show ((2 * comp (q / 2) + 1 : Nat) : Int) = (comp (q / 2) : Int) * 2 + 1 by omega, Int.add_mul, Int.one_mul, Int.mul_assoc]
        rw [e3] at hcq
        have hnn : 0 ≤ (comp (q / 2) : Int) * (2 * zs.getD a 0) := Int.mul_nonneg (by omega) (by omega)
        have hle : zs.getD a 0 ≤ zs.getD c 0 := by omega
        have hcan : canD zs (c : Int) (a : Int) = true := canD_yes ⟨by omega, by omega, by omega, by omega, by omega, by simpa using h0, by simpa using hle⟩
        have hs2 := dmade_small hs (i := c) (j := a) (by omega) (by omega) (Ne.symm hac) (by rw [← getD_get, ← getD_get]; exact hle)
        have ga := dmade_getD (zs := zs) (i := c) (j := a) (by omega) (by omega) (Ne.symm hac)
        have g1 := ga a; have g2 := ga b; have g3 := ga c
        rw [if_pos rfl] at g1
        rw [if_neg (Ne.symm hab), if_neg hbc] at g2
        rw [if_neg (Ne.symm hac), if_pos rfl] at g3
        have e1 : (q : Int) * zs.getD a 0 = ((q / 2 : Nat) : Int) * (2 * zs.getD a 0) := by
          rw [hq2, Int.mul_comm 2 _, Int.mul_assoc]
        obtain ⟨ys, p1, p2, p3, p4⟩ := ih (q / 2) (by omega) (dmade c a zs) hs2 (by rw [dmade_length]; exact hl) (by rw [g1]; omega) (by rw [g1, g2]; omega) (by rw [g1, g3]; omega)
        refine ⟨ys, ?_, p2, p3, by rw [p4, g1, g2]; omega⟩
        rw [digs_two hq hd]
        simp only [dplay, hcan, if_true]
        rw [Int.toNat_natCast, Int.toNat_natCast]
        exact p1
/-- The least heap. -/
def lo (zs : List Int) : Int := zs.getD ((qA zs).getD 0 0).toNat 0
/-- The doublings of one quotient. -/
def qdigs (zs : List Int) : List Db :=
  digs ((qA zs).getD 0 0).toNat ((qA zs).getD 1 0).toNat ((qA zs).getD 2 0).toNat (zs.getD ((qA zs).getD 1 0).toNat 0 / lo zs).toNat
def qnext (zs : List Int) : List Int := (dplay zs (qdigs zs)).getD []
/-- All doublings of whole heaps, f rounds at most. -/
def qall : Nat → List Int → List Db
  | 0, _ => []
  | f + 1, zs => if lo zs ≤ 0 then [] else qdigs zs ++ qall f (qnext zs)
theorem qall_none {f : Nat} {zs : List Int} (h : lo zs ≤ 0) : qall f zs = [] := by
  cases f with
  | zero => rfl
  | succ f => rw [qall, if_pos h]
theorem qall_some {f : Nat} {zs : List Int} (h : ¬ lo zs ≤ 0) : qall (f + 1) zs = qdigs zs ++ qall f (qnext zs) := by rw [qall, if_neg h]
/-- What is known of three heaps at the beginning of a round. -/
structure QOrd (zs : List Int) (a b c : Nat) : Prop where
  eq : qA zs = [(a : Int), b, c]
  ha : a < 3
  hb : b < 3
  hc : c < 3
  hab : a ≠ b
  hac : a ≠ c
  hbc : b ≠ c
  le1 : zs.getD a 0 ≤ zs.getD b 0
  le2 : zs.getD b 0 ≤ zs.getD c 0
  lo_ : lo zs = zs.getD a 0
  low : ∀ k, k < 3 → zs.getD a 0 ≤ zs.getD k 0
  lo0 : 0 ≤ zs.getD a 0
  hi : ∀ k, k < 3 → zs.getD k 0 ≤ 40
  digs_ : qdigs zs = digs a b c (zs.getD b 0 / zs.getD a 0).toNat
theorem qord (zs : List Int) (hs : small zs) (h : zs.length = 3) : ∃ a b c, QOrd zs a b c := by
  obtain ⟨a, b, c, e, h1, h2, h3, h4, h5, h6, h7, h8⟩ := qA_three zs h
  have hg : ∀ k, k < 3 → 0 ≤ zs.getD k 0 ∧ zs.getD k 0 ≤ 40 := fun k hk => by
    rw [getD_get (by omega)]; exact small_get hs k (by omega)
  have hlo : lo zs = zs.getD a 0 := by unfold lo; rw [e]; simp
  refine ⟨a, b, c, e, h1, h2, h3, h4, h5, h6, h7, h8, hlo, ?_, (hg a h1).1, fun k hk => (hg k hk).2, ?_⟩
  · intro k hk
    have : k = a ∨ k = b ∨ k = c := by omega
    rcases this with rfl | rfl | rfl <;> omega
  · unfold qdigs; rw [hlo, e]; simp
/-- A round: its doublings can be made, and the least heap is less behind it. -/
theorem qround {zs : List Int} {a b c : Nat} (hs : small zs) (hl : zs.length = 3) (o : QOrd zs a b c) (h0 : 0 < zs.getD a 0) :
    dplay zs (digs a b c (zs.getD b 0 / zs.getD a 0).toNat) = some (qnext zs) ∧ small (qnext zs) ∧ (qnext zs).length = 3 ∧ lo (qnext zs) < lo zs ∧ (zs.getD b 0 / zs.getD a 0).toNat ≤ 40 := by
  have hq0 : 0 ≤ zs.getD b 0 / zs.getD a 0 := Int.ediv_nonneg (by have := o.le1; omega) (by omega)
  have hqe : ((zs.getD b 0 / zs.getD a 0).toNat : Int) = zs.getD b 0 / zs.getD a 0 := Int.toNat_of_nonneg hq0
  have hm := Int.emod_add_mul_ediv (zs.getD b 0) (zs.getD a 0)
  have hm0 := Int.emod_nonneg (zs.getD b 0) (show zs.getD a 0 ≠ 0 by omega)
  have hm1 := Int.emod_lt_of_pos (zs.getD b 0) h0
  have hq1 : 1 ≤ zs.getD b 0 / zs.getD a 0 := (Int.le_ediv_iff_mul_le h0).2 (by have := o.le1; omega)
  have hle : zs.getD b 0 / zs.getD a 0 ≤ zs.getD b 0 := Int.ediv_le_self _ (by have := o.le1; omega)
  have hb40 := o.hi b o.hb
  have hbm : ((zs.getD b 0 / zs.getD a 0).toNat : Int) * zs.getD a 0 ≤ zs.getD b 0 := by
    rw [hqe, Int.mul_comm]; omega
  have hcm : (comp (zs.getD b 0 / zs.getD a 0).toNat : Int) * zs.getD a 0 ≤ zs.getD c 0 := by
    have h1 := comp_lt (zs.getD b 0 / zs.getD a 0).toNat (by omega)
    have h2 : (comp (zs.getD b 0 / zs.getD a 0).toNat : Int) * zs.getD a 0 ≤ ((zs.getD b 0 / zs.getD a 0).toNat : Int) * zs.getD a 0 := Int.mul_le_mul_of_nonneg_right (by omega) (by omega)
    have := o.le2
    omega
  obtain ⟨ys, p1, p2, p3, p4⟩ := digs_play a b c o.ha o.hb o.hc o.hab o.hac o.hbc _ zs hs hl h0 hbm hcm
  have hn : qnext zs = ys := by unfold qnext; rw [o.digs_, p1]; rfl
  rw [hn]
  refine ⟨p1, p2, p3, ?_, by omega⟩
  obtain ⟨a', b', c', o'⟩ := qord ys p2 p3
  rw [o'.lo_, o.lo_]
  have h1 := o'.low b o.hb
  rw [p4, hqe, Int.mul_comm] at h1
  omega
theorem qall_len : ∀ (f : Nat) (zs : List Int), small zs → zs.length = 3 → (qall f zs).length ≤ 40 * f
  | 0, _, _, _ => by simp [qall]
  | f + 1, zs, hs, hl => by
    by_cases h : lo zs ≤ 0
    · rw [qall_none h]; simp
    · obtain ⟨a, b, c, o⟩ := qord zs hs hl
      obtain ⟨h1, h2, h3, _, h5⟩ := qround hs hl o (by rw [← o.lo_]; omega)
      have h6 := qall_len f _ h2 h3
      have h7 := digs_len a b c (zs.getD b 0 / zs.getD a 0).toNat
      rw [qall_some h, List.length_append, o.digs_]
      omega
/-- What is told. -/
def quoOk (zs : List Int) : Bool := few zs && decide (zs.length = 3)
def quoL (zs : List Int) : List Db := if quoOk zs then qall 41 zs else []
theorem quo_of {zs : List Int} (h : quoOk zs = true) : small zs ∧ zs.length = 3 ∧ few zs = true := by
  unfold quoOk at h
  simp at h
  exact ⟨(few_small h.1).1, h.2, h.1⟩
theorem lo_bd {zs : List Int} (hs : small zs) (hl : zs.length = 3) : 0 ≤ lo zs ∧ lo zs ≤ 40 := by
  obtain ⟨a, b, c, o⟩ := qord zs hs hl
  rw [o.lo_]; exact ⟨o.lo0, o.hi a o.ha⟩
theorem quoL_len (zs : List Int) : (quoL zs).length ≤ 100000 := by
  unfold quoL
  cases h : quoOk zs
  · simp
  · obtain ⟨hs, hl, _⟩ := quo_of h
    have := qall_len 41 zs hs hl
    simp; omega
/-- Some heap is empty. -/
theorem lo_zero {zs : List Int} (hs : small zs) (hl : zs.length = 3) : zs.contains 0 = decide (lo zs ≤ 0) := by
  obtain ⟨a, b, c, o⟩ := qord zs hs hl
  rw [o.lo_]
  by_cases h : zs.getD a 0 ≤ 0
  · rw [decide_eq_true h]
    have h0 := o.lo0
    have : zs.getD a 0 = 0 := by omega
    have ha := o.ha
    rw [getD_get (by omega)] at this
    rw [List.contains_iff_mem]
    exact this ▸ List.getElem_mem _
  · rw [decide_eq_false h]
    apply Bool.eq_false_iff.2
    intro hc
    rw [List.contains_iff_mem] at hc
    obtain ⟨k, hk, e⟩ := List.getElem_of_mem hc
    have := o.low k (by omega)
    rw [getD_get hk, e] at this
    omega
/-- One doubling of a play that can be made. -/
theorem dplay_step {ys N : List Int} {ds : List Db} {i j : Nat} (h : dplay ys (⟨(i : Int), (j : Int)⟩ :: ds) = some N) (hs : small ys) (hl : ys.length = 3) :
    i < 3 ∧ j < 3 ∧ i ≠ j ∧ ys.getD j 0 ≤ ys.getD i 0 ∧ dplay (dmade i j ys) ds = some N ∧ small (dmade i j ys) ∧ (dmade i j ys).length = 3 := by
  simp only [dplay] at h
  split at h
  · rename_i hc
    have hb := canD_bd hc
    have hs2 := small_canD hs hc
    simp only [Int.toNat_natCast] at hb hs2 h
    exact ⟨by omega, by omega, by omega, hb.2.2.2.2.2.2, h, hs2, by rw [dmade_length]; exact hl⟩
  · cases h
theorem quoOk_no1 {zs : List Int} (h : few zs = false) : quoOk zs = false := by unfold quoOk; rw [h]; rfl
theorem quoOk_no2 {zs : List Int} (h : zs.length ≠ 3) : quoOk zs = false := by unfold quoOk; rw [decide_eq_false h]; simp
theorem quoOk_yes {zs : List Int} (h1 : few zs = true) (h : zs.length = 3) : quoOk zs = true := by unfold quoOk; rw [h1, decide_eq_true h]; rfl
theorem quoL_no {zs : List Int} (h : quoOk zs = false) : quoL zs = [] := by unfold quoL; rw [h]; rfl
theorem quoL_yes {zs : List Int} (h : quoOk zs = true) : quoL zs = qall 41 zs := by unfold quoL; rw [h]; rfl
/-- The program's row of three heaps holds a 0 just where the least one is. -/
theorem inL_lo {zs : List Int} (hs : small zs) (hl : zs.length = 3) : inL [pd zs 0, pd zs 1, pd zs 2, pd zs 3] 0 = decide (lo zs ≤ 0) := by
  rw [← lo_zero hs hl]
  match zs, hl with
  | [x, y, z], _ =>
    show decide (0 ∈ [x, y, z, -1]) = _
    rw [List.contains_eq_mem]
    simp
theorem quoL_short (zs : List Int) : (quoL zs).length ≤ 100000 := quoL_len zs
end Go.Proofs.Ytnakkmmmkbjfbaa
