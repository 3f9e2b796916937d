
/-
  LISTS OF STRUCTS OF 4 NUMBERS (impl.Clue): the laws' own helpers toClue, toClueS, eqClue. Printed by structs.py.
-/
import Derived.Test.YtmjlfmlbmegheaaDoorLaws0
import Derived.Test.YtmjlfmlbmegheaaDoorOwn
import Derived.WalkLawsBesides
import Derived.Laws.ResultCell
namespace Go.Proofs.YtmjlfmlbmegheaaDoor
open Go.RowKit Go.Deep
set_option linter.unusedVariables false

structure Cl where
  x0 : Int
  x1 : Int
  x2 : Int
  x3 : Int

theorem eqClue_same (m : Cl) (w : World) :
    Calls Tryd.prog 39 #[.agg #[.int .i64 m.x0, .int .i64 m.x1, .int .i64 m.x2, .int .i64 m.x3], .agg #[.int .i64 m.x0, .int .i64 m.x1, .int .i64 m.x2, .int .i64 m.x3]] w fun e w' => e = .returned (.bool true) ∧ Below w.heap.size w w' := by
  have e0 : (m.x0 != m.x0) = false := by simp
  have e1 : (m.x1 != m.x1) = false := by simp
  have e2 : (m.x2 != m.x2) = false := by simp
  have e3 : (m.x3 != m.x3) = false := by simp
  go_enter Tryd.func39, Tryd.ntmps39
  go_wp2_with fail
  go_ret
  exact ⟨rfl, ((Below.refl _ _).alloc (Nat.le_refl _) _).alloc (by simp) _⟩

theorem toClue_any (m : Cl) (w : World) :
    Calls Tryd.prog 32 #[.agg #[.int .i64 m.x0, .int .i64 m.x1, .int .i64 m.x2, .int .i64 m.x3]] w fun e w' => e = .returned (.agg #[.int .i64 m.x0, .int .i64 m.x1, .int .i64 m.x2, .int .i64 m.x3]) ∧ Below w.heap.size w w' := by
  go_enter Tryd.func32, Tryd.ntmps32
  go_wp2_with fail
  exact bodyPost_ret (v := .agg #[.int .i64 m.x0, .int .i64 m.x1, .int .i64 m.x2, .int .i64 m.x3]) (by simp [results, Tryd.results32, go_sem]) rfl
    ⟨rfl, (((Below.refl _ _).alloc (Nat.le_refl _) _).alloc (by simp) _).alloc (by simp; omega) _⟩

theorem run_make_rowCl {P : Program} (t e : TypeId) (i : TypeInfo) (z : Value) (ht : P.underlying t = some (.slice e)) (hi : P.info? e = some i) (hz : i.zero = some z)
    (kl kc : IntKind) (n c : Nat) (hnc : n ≤ c) (hbytes : i.bytes * c ≤ 281474976710656) (h63 : c ≤ 9223372036854775807) (w : World) :
    (Instr.makeSlice t (.int kl (n : Int)) (.int kc (c : Int))).run P w = .ok (.slice (some ⟨w.heap.size, 0, none⟩) n c) (w.alloc (.cells (madeCells z.cells (c * i.size)) e)) := by
  have hb : (i.bytes : Int) * (c : Int) ≤ 281474976710656 := by
    have h : ((i.bytes * c : Nat) : Int) ≤ 281474976710656 := by omega
    rwa [Int.natCast_mul] at h
  have hr := run_make (P := P) w t e i z ht hi hz kl kc n c (by omega) (by omega) hb (by omega)
  simp only [Int.toNat_natCast] at hr
  exact hr

/-- The number in the cell at i of a row. -/
def numCl (ms : List Cl) (i : Nat) : Int :=
  match i % 4 with
  | 0 => (ms.getD (i / 4) ⟨0, 0, 0, 0⟩).x0
  | 1 => (ms.getD (i / 4) ⟨0, 0, 0, 0⟩).x1
  | 2 => (ms.getD (i / 4) ⟨0, 0, 0, 0⟩).x2
  | _ => (ms.getD (i / 4) ⟨0, 0, 0, 0⟩).x3
/-- The cell at i. -/
def cellCl (ms : List Cl) (i : Nat) : Value := .int .i64 (numCl ms i)
theorem cellCl_0 (ms : List Cl) (k : Nat) (h : k < ms.length) : cellCl ms (k * 4) = .int .i64 ms[k].x0 := by
  simp [cellCl, numCl, show (k * 4) % 4 = 0 from by omega, show (k * 4) / 4 = k from by omega, List.getD, h]
theorem cellCl_1 (ms : List Cl) (k : Nat) (h : k < ms.length) : cellCl ms (k * 4 + 1) = .int .i64 ms[k].x1 := by
  simp [cellCl, numCl, show (k * 4 + 1) % 4 = 1 from by omega, show (k * 4 + 1) / 4 = k from by omega, List.getD, h]
theorem cellCl_2 (ms : List Cl) (k : Nat) (h : k < ms.length) : cellCl ms (k * 4 + 2) = .int .i64 ms[k].x2 := by
  simp [cellCl, numCl, show (k * 4 + 2) % 4 = 2 from by omega, show (k * 4 + 2) / 4 = k from by omega, List.getD, h]
theorem cellCl_3 (ms : List Cl) (k : Nat) (h : k < ms.length) : cellCl ms (k * 4 + 3) = .int .i64 ms[k].x3 := by
  simp [cellCl, numCl, show (k * 4 + 3) % 4 = 3 from by omega, show (k * 4 + 3) / 4 = k from by omega, List.getD, h]

/-- One more is laid. -/
theorem row_Cl {w : World} {g T N : Nat} {ms : List Cl} {k : Nat} (hk : k < ms.length) (h : w.rowIs g T N (fun j => if j < k * 4 then cellCl ms j else .int .i64 0)) :
    ((((w.setCell ⟨g, k * 4, none⟩ (.int .i64 ms[k].x0)).setCell ⟨g, k * 4 + 1, none⟩ (.int .i64 ms[k].x1)).setCell ⟨g, k * 4 + 2, none⟩ (.int .i64 ms[k].x2)).setCell ⟨g, k * 4 + 3, none⟩ (.int .i64 ms[k].x3)).rowIs g T N (fun j => if j < (k + 1) * 4 then cellCl ms j else .int .i64 0) := by
  refine ((((h.set (k * 4) _).set (k * 4 + 1) _).set (k * 4 + 2) _).set (k * 4 + 3) _).congr fun i _ => ?_
  by_cases h3 : i = k * 4 + 3
  · rw [if_pos h3, if_pos (by omega), h3, cellCl_3 ms k hk]
  · rw [if_neg h3]
    by_cases h2 : i = k * 4 + 2
    · rw [if_pos h2, if_pos (by omega), h2, cellCl_2 ms k hk]
    · rw [if_neg h2]
      by_cases h1 : i = k * 4 + 1
      · rw [if_pos h1, if_pos (by omega), h1, cellCl_1 ms k hk]
      · rw [if_neg h1]
        by_cases h0 : i = k * 4
        · rw [if_pos h0, if_pos (by omega), h0, cellCl_0 ms k hk]
        · rw [if_neg h0]
          by_cases hlt : i < k * 4
          · rw [if_pos hlt, if_pos (by omega)]
          · rw [if_neg hlt, if_neg (by omega)]
theorem made_Cl (w : World) (T n : Nat) : (w.alloc (.cells (madeCells #[.int .i64 0, .int .i64 0, .int .i64 0, .int .i64 0] n) T)).rowIs w.heap.size T n (fun j => if j < 0 * 4 then cellCl [] j else .int .i64 0) := by
  have h := World.rowIs_alloc w (madeCells #[.int .i64 0, .int .i64 0, .int .i64 0, .int .i64 0] n) T (fun _ => .int .i64 0) (fun i hi => by
    rw [size_madeCells] at hi
    have h3 : i % 4 = 0 ∨ i % 4 = 1 ∨ i % 4 = 2 ∨ i % 4 = 3 := by omega
    rcases h3 with h3 | h3 | h3 | h3 <;> simp [madeCells, hi, h3])
  rw [size_madeCells] at h
  exact h.congr fun i _ => by simp

/-- The slice value '.slice A n c' reads as ms, below block B. -/
def Cls (w : World) (B : Nat) (A : Option Addr) (n : Nat) (ms : List Cl) : Prop :=
  ms.length = n ∧ (0 < n → ∃ b off, A = some ⟨b, off, none⟩ ∧ b < B ∧ ∀ i, i < n * 4 → w.cell? ⟨b, off + i, none⟩ = some (cellCl ms i))
section
variable {w w' : World} {B B' n : Nat} {A : Option Addr} {ms : List Cl}
theorem Cls.len (h : Cls w B A n ms) : ms.length = n := h.1
theorem Cls.at_ {k : Nat} (h : Cls w B A n ms) (hk : k < n) (hk' : k < ms.length) :
    ∃ b off, A = some ⟨b, off, none⟩ ∧ b < B ∧ w.cell? ⟨b, off + k * 4, none⟩ = some (.int .i64 ms[k].x0) ∧ w.cell? ⟨b, off + k * 4 + 1, none⟩ = some (.int .i64 ms[k].x1) ∧ w.cell? ⟨b, off + k * 4 + 2, none⟩ = some (.int .i64 ms[k].x2) ∧ w.cell? ⟨b, off + k * 4 + 3, none⟩ = some (.int .i64 ms[k].x3) := by
  obtain ⟨b, off, e, hb, hc⟩ := h.2 (by omega)
  refine ⟨b, off, e, hb, ?_, ?_, ?_, ?_⟩
  · rw [hc (k * 4) (by omega), cellCl_0 ms k hk']
  · rw [Nat.add_assoc, hc (k * 4 + 1) (by omega), cellCl_1 ms k hk']
  · rw [Nat.add_assoc, hc (k * 4 + 2) (by omega), cellCl_2 ms k hk']
  · rw [Nat.add_assoc, hc (k * 4 + 3) (by omega), cellCl_3 ms k hk']
theorem Cls.keep (h : Cls w B A n ms) (hk : ∀ p : Addr, p.block < B → w'.cell? p = w.cell? p) : Cls w' B A n ms :=
  ⟨h.1, fun hn => by
    obtain ⟨b, off, e, hb, hc⟩ := h.2 hn
    exact ⟨b, off, e, hb, fun i hi => (hk _ hb).trans (hc i hi)⟩⟩
theorem Cls.more (h : Cls w B A n ms) (hB : B ≤ B') : Cls w B' A n ms :=
  ⟨h.1, fun hn => by
    obtain ⟨b, off, e, hb, hc⟩ := h.2 hn
    exact ⟨b, off, e, by omega, hc⟩⟩
theorem Cls.below {C : Nat} (h : Cls w B A n ms) (hb : Below C w w') (hC : B ≤ C) : Cls w' B A n ms := h.keep fun _ hp => hb.cell (by omega)
theorem Cls.alloc (h : Cls w B A n ms) (hB : B ≤ w.heap.size) (o : Obj) : Cls (w.alloc o) B A n ms := h.keep fun p hp => World.cell?_alloc_lt w o p (by omega)
theorem Cls.none_ : Cls w B A 0 [] := ⟨rfl, fun h => absurd h (by omega)⟩
end

theorem infoCl : (Tryd.prog.info? 44).map (fun i => (i.zero, i.size, i.bytes)) = some (some (.agg #[.int .i64 0, .int .i64 0, .int .i64 0, .int .i64 0]), 4, 32) := by kernel_rfl

/-- Block g is a row of ms. -/
def RowCl (w : World) (g : Nat) (ms : List Cl) : Prop := w.rowIs g 44 (ms.length * 4) (cellCl ms)
theorem RowCl.list {w : World} {g B : Nat} {ms : List Cl} (h : RowCl w g ms) (hg : g < B) : Cls w B (some ⟨g, 0, none⟩) ms.length ms :=
  ⟨rfl, fun _ => ⟨g, 0, rfl, hg, fun i hi => by rw [Nat.zero_add]; exact World.rowIs.cell h hi⟩⟩
def CopiedCl (ms : List Cl) (w : World) (e : Ending) (w' : World) : Prop :=
  ∃ g, w.heap.size ≤ g ∧ g < w'.heap.size ∧ e = .returned (.slice (some ⟨g, 0, none⟩) ms.length ms.length) ∧ RowCl w' g ms ∧ Below w.heap.size w w'

set_option maxRecDepth 1000000 in
theorem toClueS_any (A : Option Addr) (n c : Nat) (ms : List Cl) (w : World) (hr : Cls w w.heap.size A n ms) (hn : n ≤ 1099511627776) :
    Calls Tryd.prog 17 #[.slice A n c] w (CopiedCl ms w) := by
  obtain rfl := hr.len
  obtain ⟨i0, hi, hz0, hz1, hz2⟩ := info_parts infoCl
  have hmk : ∀ w, (Instr.makeSlice 28 (.int .i64 (ms.length : Int)) (.int .i64 (ms.length : Int))).run Tryd.prog w = .ok (.slice (some ⟨w.heap.size, 0, none⟩) ms.length ms.length) (w.alloc (.cells (madeCells #[.int .i64 0, .int .i64 0, .int .i64 0, .int .i64 0] (ms.length * 4)) 44)) := by
    intro w
    have := run_make_rowCl (P := Tryd.prog) 28 44 i0 _ Tryd.underlying28 hi hz0 .i64 .i64 ms.length ms.length (Nat.le_refl _) (by rw [hz2]; omega) (by omega) w
    rw [hz1] at this
    exact this
  go_enter Tryd.func17, Tryd.ntmps17
  go_wp2_with fail
  go_loopw [4] (fun i wr => ∃ k : Nat, k ≤ ms.length ∧ i = .int .i64 k ∧ wr.rowIs w.heap.size 44 (ms.length * 4) (fun j => if j < k * 4 then cellCl ms j else .int .i64 0) ∧ Below w.heap.size w wr ∧ w.heap.size < wr.heap.size)
    (fun i _ => ms.length - (intOf i).toNat)
  case atStart => exact ⟨0, Nat.zero_le _, rfl, (made_Cl w _ _).congr (fun i _ => by simp), (Below.refl _ _).alloc (Nat.le_refl _) _, by simp⟩
  case round =>
    obtain ⟨k, hk, rfl, hrow, hb, hs⟩ := hrel
    by_cases hlt : k < ms.length
    · obtain ⟨b, off, rfl, hab, hc0, hc1, hc2, hc3⟩ := (hr.below hb (Nat.le_refl _)).at_ hlt hlt
      go_wp2_with fail
      refine (toClue_any ms[k] wr).mono ?_
      rintro e w2 ⟨rfl, hb2⟩
      have hg : w.heap.size < wr.heap.size := hs
      have hrow2 := hrow.of_block (hb2.block _ hg)
      have s2 := hb2.size
      have o0 := hrow2.cell (show k * 4 < ms.length * 4 by omega)
      have o1 := hrow2.cell (show k * 4 + 1 < ms.length * 4 by omega)
      have o2 := hrow2.cell (show k * 4 + 2 < ms.length * 4 by omega)
      have o3 := hrow2.cell (show k * 4 + 3 < ms.length * 4 by omega)
      rw [if_neg (by omega)] at o0 o1 o2 o3
      have f0 := hrow2.frozen (k * 4)
      have f1 := hrow2.frozen (k * 4 + 1)
      have f2 := hrow2.frozen (k * 4 + 2)
      have f3 := hrow2.frozen (k * 4 + 3)
      go_wp2_with fail
      go_roundw
      case rel => exact ⟨k + 1, by omega, by go_num, row_Cl hlt hrow2, (((((hb.trans (hb2.mono (by omega))).setCell (Nat.le_refl _) _).setCell (Nat.le_refl _) _).setCell (Nat.le_refl _) _).setCell (Nat.le_refl _) _), by simp; omega⟩
      case measure => simp [intOf]; omega
    · go_wp2_with fail
      go_ret
      exact ⟨_, Nat.le_refl _, hs, rfl, hrow.congr (fun i hi => by rw [if_pos (by omega)]), hb⟩
end Go.Proofs.YtmjlfmlbmegheaaDoor
