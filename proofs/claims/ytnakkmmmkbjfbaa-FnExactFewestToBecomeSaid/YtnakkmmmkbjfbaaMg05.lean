import Derived.Test.YtnakkmmmkbjfbaaMg01
import Derived.Test.YtnakkmmmkbjfbaaMg02
import Derived.WalkLawsBesides
import Derived.Laws.ResultCell

/-
  LISTS OF STRUCTS OF 2 NUMBERS (impl.Doubling): the laws' own helpers toDoubling, toDoublingS, eqDoubling. Printed by structs.py.
-/
namespace Go.Proofs.Ytnakkmmmkbjfbaa
open Go.RowKit Go.Deep
set_option linter.unusedVariables false

structure Db where
  x0 : Int
  x1 : Int

theorem eqDoubling_same (m : Db) (w : World) :
    Calls Try.prog 30 #[.agg #[.int .i64 m.x0, .int .i64 m.x1], .agg #[.int .i64 m.x0, .int .i64 m.x1]] w fun e w' => e = .returned (.bool true) ∧ Below w.heap.size w w' := by
  have e0 : (m.x0 != m.x0) = false := by simp
  have e1 : (m.x1 != m.x1) = false := by simp
  go_enter Try.func30, Try.ntmps30
  go_wp2_with fail
  go_ret
  exact ⟨rfl, ((Below.refl _ _).alloc (Nat.le_refl _) _).alloc (by simp) _⟩

theorem run_make_rowDb {P : Program} (t e : TypeId) (i : TypeInfo) (z : Value) (ht : P.underlying t = some (.slice e)) (hi : P.info? e = some i) (hz : i.zero = some z)
    (kl kc : IntKind) (n c : Nat) (hnc : n ≤ c) (hbytes : i.bytes * c ≤ 281474976710656) (h63 : c ≤ 9223372036854775807) (w : World) :
    (Instr.makeSlice t (.int kl (n : Int)) (.int kc (c : Int))).run P w = .ok (.slice (some ⟨w.heap.size, 0, none⟩) n c) (w.alloc (.cells (madeCells z.cells (c * i.size)) e)) := by
  have hb : (i.bytes : Int) * (c : Int) ≤ 281474976710656 := by
    have h : ((i.bytes * c : Nat) : Int) ≤ 281474976710656 := by omega
    rwa [Int.natCast_mul] at h
  have hr := run_make (P := P) w t e i z ht hi hz kl kc n c (by omega) (by omega) hb (by omega)
  simp only [Int.toNat_natCast] at hr
  exact hr

/-- The number in the cell at i of a row. -/
def numDb (ms : List Db) (i : Nat) : Int :=
  match i % 2 with
  | 0 => (ms.getD (i / 2) ⟨0, 0⟩).x0
  | _ => (ms.getD (i / 2) ⟨0, 0⟩).x1
/-- The cell at i. -/
def cellDb (ms : List Db) (i : Nat) : Value := .int .i64 (numDb ms i)
theorem cellDb_0 (ms : List Db) (k : Nat) (h : k < ms.length) : cellDb ms (k * 2) = .int .i64 ms[k].x0 := by
  simp [cellDb, numDb, show (k * 2) % 2 = 0 from by omega, show (k * 2) / 2 = k from by omega, List.getD, h]
theorem cellDb_1 (ms : List Db) (k : Nat) (h : k < ms.length) : cellDb ms (k * 2 + 1) = .int .i64 ms[k].x1 := by
  simp [cellDb, numDb, show (k * 2 + 1) % 2 = 1 from by omega, show (k * 2 + 1) / 2 = k from by omega, List.getD, h]

/-- One more is laid. -/
theorem row_Db {w : World} {g T N : Nat} {ms : List Db} {k : Nat} (hk : k < ms.length) (h : w.rowIs g T N (fun j => if j < k * 2 then cellDb ms j else .int .i64 0)) :
    ((w.setCell ⟨g, k * 2, none⟩ (.int .i64 ms[k].x0)).setCell ⟨g, k * 2 + 1, none⟩ (.int .i64 ms[k].x1)).rowIs g T N (fun j => if j < (k + 1) * 2 then cellDb ms j else .int .i64 0) := by
  refine ((h.set (k * 2) _).set (k * 2 + 1) _).congr fun i _ => ?_
  by_cases h1 : i = k * 2 + 1
  · rw [if_pos h1, if_pos (by omega), h1, cellDb_1 ms k hk]
  · rw [if_neg h1]
    by_cases h0 : i = k * 2
    · rw [if_pos h0, if_pos (by omega), h0, cellDb_0 ms k hk]
    · rw [if_neg h0]
      by_cases hlt : i < k * 2
      · rw [if_pos hlt, if_pos (by omega)]
      · rw [if_neg hlt, if_neg (by omega)]
theorem made_Db (w : World) (T n : Nat) : (w.alloc (.cells (madeCells #[.int .i64 0, .int .i64 0] n) T)).rowIs w.heap.size T n (fun j => if j < 0 * 2 then cellDb [] j else .int .i64 0) := by
  have h := World.rowIs_alloc w (madeCells #[.int .i64 0, .int .i64 0] n) T (fun _ => .int .i64 0) (fun i hi => by
    rw [size_madeCells] at hi
    have h3 : i % 2 = 0 ∨ i % 2 = 1 := by omega
    rcases h3 with h3 | h3 <;> simp [madeCells, hi, h3])
  rw [size_madeCells] at h
  exact h.congr fun i _ => by simp

/-- The slice value '.slice A n c' reads as ms, below block B. -/
def Dbs (w : World) (B : Nat) (A : Option Addr) (n : Nat) (ms : List Db) : Prop :=
  ms.length = n ∧ (0 < n → ∃ b off, A = some ⟨b, off, none⟩ ∧ b < B ∧ ∀ i, i < n * 2 → w.cell? ⟨b, off + i, none⟩ = some (cellDb ms i))
section
variable {w w' : World} {B B' n : Nat} {A : Option Addr} {ms : List Db}
theorem Dbs.len (h : Dbs w B A n ms) : ms.length = n := h.1
theorem Dbs.at_ {k : Nat} (h : Dbs w B A n ms) (hk : k < n) (hk' : k < ms.length) :
    ∃ b off, A = some ⟨b, off, none⟩ ∧ b < B ∧ w.cell? ⟨b, off + k * 2, none⟩ = some (.int .i64 ms[k].x0) ∧ w.cell? ⟨b, off + k * 2 + 1, none⟩ = some (.int .i64 ms[k].x1) := by
  obtain ⟨b, off, e, hb, hc⟩ := h.2 (by omega)
  refine ⟨b, off, e, hb, ?_, ?_⟩
  · rw [hc (k * 2) (by omega), cellDb_0 ms k hk']
  · rw [Nat.add_assoc, hc (k * 2 + 1) (by omega), cellDb_1 ms k hk']
theorem Dbs.keep (h : Dbs w B A n ms) (hk : ∀ p : Addr, p.block < B → w'.cell? p = w.cell? p) : Dbs w' B A n ms :=
  ⟨h.1, fun hn => by
    obtain ⟨b, off, e, hb, hc⟩ := h.2 hn
    exact ⟨b, off, e, hb, fun i hi => (hk _ hb).trans (hc i hi)⟩⟩
theorem Dbs.more (h : Dbs w B A n ms) (hB : B ≤ B') : Dbs w B' A n ms :=
  ⟨h.1, fun hn => by
    obtain ⟨b, off, e, hb, hc⟩ := h.2 hn
    exact ⟨b, off, e, by omega, hc⟩⟩
theorem Dbs.below {C : Nat} (h : Dbs w B A n ms) (hb : Below C w w') (hC : B ≤ C) : Dbs w' B A n ms := h.keep fun _ hp => hb.cell (by omega)
theorem Dbs.alloc (h : Dbs w B A n ms) (hB : B ≤ w.heap.size) (o : Obj) : Dbs (w.alloc o) B A n ms := h.keep fun p hp => World.cell?_alloc_lt w o p (by omega)
theorem Dbs.none_ : Dbs w B A 0 [] := ⟨rfl, fun h => absurd h (by omega)⟩
end

theorem infoDb : (Try.prog.info? 38).map (fun i => (i.zero, i.size, i.bytes)) = some (some (.agg #[.int .i64 0, .int .i64 0]), 2, 16) := by kernel_rfl

/-- Block g is a row of ms. -/
def RowDb (w : World) (g : Nat) (ms : List Db) : Prop := w.rowIs g 38 (ms.length * 2) (cellDb ms)
theorem RowDb.list {w : World} {g B : Nat} {ms : List Db} (h : RowDb w g ms) (hg : g < B) : Dbs w B (some ⟨g, 0, none⟩) ms.length ms :=
  ⟨rfl, fun _ => ⟨g, 0, rfl, hg, fun i hi => by rw [Nat.zero_add]; exact World.rowIs.cell h hi⟩⟩
def CopiedDb (ms : List Db) (w : World) (e : Ending) (w' : World) : Prop :=
  ∃ g, w.heap.size ≤ g ∧ g < w'.heap.size ∧ e = .returned (.slice (some ⟨g, 0, none⟩) ms.length ms.length) ∧ RowDb w' g ms ∧ Below w.heap.size w w'

end Go.Proofs.Ytnakkmmmkbjfbaa
