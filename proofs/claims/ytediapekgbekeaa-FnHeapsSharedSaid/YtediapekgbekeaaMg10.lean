import Derived.Test.YtediapekgbekeaaMg03
import Derived.Test.YtediapekgbekeaaMg06
import Derived.WalkLawsBesides
import Derived.Laws.ResultCell

/-
  LISTS OF STRUCTS OF 3 NUMBERS (impl.Move): the laws' own helpers toMove, toMoveS, eqMove. Printed by structs.py.
-/
namespace Go.Proofs.Ytediapekgbekeaa
open Go.RowKit Go.Deep
set_option linter.unusedVariables false

structure Mo where
  x0 : Int
  x1 : Int
  x2 : Int

theorem run_make_rowMo {P : Program} (t e : TypeId) (i : TypeInfo) (z : Value) (ht : P.underlying t = some (.slice e)) (hi : P.info? e = some i) (hz : i.zero = some z)
    (kl kc : IntKind) (n c : Nat) (hnc : n ≤ c) (hbytes : i.bytes * c ≤ 281474976710656) (h63 : c ≤ 9223372036854775807) (w : World) :
    (Instr.makeSlice t (.int kl (n : Int)) (.int kc (c : Int))).run P w = .ok (.slice (some ⟨w.heap.size, 0, none⟩) n c) (w.alloc (.cells (madeCells z.cells (c * i.size)) e)) := by
  have hb : (i.bytes : Int) * (c : Int) ≤ 281474976710656 := by
    have h : ((i.bytes * c : Nat) : Int) ≤ 281474976710656 := by omega
    rwa [Int.natCast_mul] at h
  have hr := run_make (P := P) w t e i z ht hi hz kl kc n c (by omega) (by omega) hb (by omega)
  simp only [Int.toNat_natCast] at hr
  exact hr

/-- The number in the cell at i of a row. -/
def numMo (ms : List Mo) (i : Nat) : Int :=
  match i % 3 with
  | 0 => (ms.getD (i / 3) ⟨0, 0, 0⟩).x0
  | 1 => (ms.getD (i / 3) ⟨0, 0, 0⟩).x1
  | _ => (ms.getD (i / 3) ⟨0, 0, 0⟩).x2
/-- The cell at i. -/
def cellMo (ms : List Mo) (i : Nat) : Value := .int .i64 (numMo ms i)
theorem cellMo_0 (ms : List Mo) (k : Nat) (h : k < ms.length) : cellMo ms (k * 3) = .int .i64 ms[k].x0 := by
  simp [cellMo, numMo, show (k * 3) % 3 = 0 from by omega, show (k * 3) / 3 = k from by omega, List.getD, h]
theorem cellMo_1 (ms : List Mo) (k : Nat) (h : k < ms.length) : cellMo ms (k * 3 + 1) = .int .i64 ms[k].x1 := by
  simp [cellMo, numMo, show (k * 3 + 1) % 3 = 1 from by omega, show (k * 3 + 1) / 3 = k from by omega, List.getD, h]
theorem cellMo_2 (ms : List Mo) (k : Nat) (h : k < ms.length) : cellMo ms (k * 3 + 2) = .int .i64 ms[k].x2 := by
  simp [cellMo, numMo, show (k * 3 + 2) % 3 = 2 from by omega, show (k * 3 + 2) / 3 = k from by omega, List.getD, h]

/-- One more is laid. -/
theorem row_Mo {w : World} {g T N : Nat} {ms : List Mo} {k : Nat} (hk : k < ms.length) (h : w.rowIs g T N (fun j => if j < k * 3 then cellMo ms j else .int .i64 0)) :
    (((w.setCell ⟨g, k * 3, none⟩ (.int .i64 ms[k].x0)).setCell ⟨g, k * 3 + 1, none⟩ (.int .i64 ms[k].x1)).setCell ⟨g, k * 3 + 2, none⟩ (.int .i64 ms[k].x2)).rowIs g T N (fun j => if j < (k + 1) * 3 then cellMo ms j else .int .i64 0) := by
  refine (((h.set (k * 3) _).set (k * 3 + 1) _).set (k * 3 + 2) _).congr fun i _ => ?_
  by_cases h2 : i = k * 3 + 2
  · rw [if_pos h2, if_pos (by omega), h2, cellMo_2 ms k hk]
  · rw [if_neg h2]
    by_cases h1 : i = k * 3 + 1
    · rw [if_pos h1, if_pos (by omega), h1, cellMo_1 ms k hk]
    · rw [if_neg h1]
      by_cases h0 : i = k * 3
      · rw [if_pos h0, if_pos (by omega), h0, cellMo_0 ms k hk]
      · rw [if_neg h0]
        by_cases hlt : i < k * 3
        · rw [if_pos hlt, if_pos (by omega)]
        · rw [if_neg hlt, if_neg (by omega)]
theorem made_Mo (w : World) (T n : Nat) : (w.alloc (.cells (madeCells #[.int .i64 0, .int .i64 0, .int .i64 0] n) T)).rowIs w.heap.size T n (fun j => if j < 0 * 3 then cellMo [] j else .int .i64 0) := by
  have h := World.rowIs_alloc w (madeCells #[.int .i64 0, .int .i64 0, .int .i64 0] n) T (fun _ => .int .i64 0) (fun i hi => by
    rw [size_madeCells] at hi
    have h3 : i % 3 = 0 ∨ i % 3 = 1 ∨ i % 3 = 2 := by omega
    rcases h3 with h3 | h3 | h3 <;> simp [madeCells, hi, h3])
  rw [size_madeCells] at h
  exact h.congr fun i _ => by simp

/-- The slice value '.slice A n c' reads as ms, below block B. -/
def Mos (w : World) (B : Nat) (A : Option Addr) (n : Nat) (ms : List Mo) : Prop :=
  ms.length = n ∧ (0 < n → ∃ b off, A = some ⟨b, off, none⟩ ∧ b < B ∧ ∀ i, i < n * 3 → w.cell? ⟨b, off + i, none⟩ = some (cellMo ms i))
section
variable {w w' : World} {B B' n : Nat} {A : Option Addr} {ms : List Mo}
theorem Mos.len (h : Mos w B A n ms) : ms.length = n := h.1
theorem Mos.at_ {k : Nat} (h : Mos w B A n ms) (hk : k < n) (hk' : k < ms.length) :
    ∃ b off, A = some ⟨b, off, none⟩ ∧ b < B ∧ w.cell? ⟨b, off + k * 3, none⟩ = some (.int .i64 ms[k].x0) ∧ w.cell? ⟨b, off + k * 3 + 1, none⟩ = some (.int .i64 ms[k].x1) ∧ w.cell? ⟨b, off + k * 3 + 2, none⟩ = some (.int .i64 ms[k].x2) := by
  obtain ⟨b, off, e, hb, hc⟩ := h.2 (by omega)
  refine ⟨b, off, e, hb, ?_, ?_, ?_⟩
  · rw [hc (k * 3) (by omega), cellMo_0 ms k hk']
  · rw [Nat.add_assoc, hc (k * 3 + 1) (by omega), cellMo_1 ms k hk']
  · rw [Nat.add_assoc, hc (k * 3 + 2) (by omega), cellMo_2 ms k hk']
theorem Mos.keep (h : Mos w B A n ms) (hk : ∀ p : Addr, p.block < B → w'.cell? p = w.cell? p) : Mos w' B A n ms :=
  ⟨h.1, fun hn => by
    obtain ⟨b, off, e, hb, hc⟩ := h.2 hn
    exact ⟨b, off, e, hb, fun i hi => (hk _ hb).trans (hc i hi)⟩⟩
theorem Mos.more (h : Mos w B A n ms) (hB : B ≤ B') : Mos w B' A n ms :=
  ⟨h.1, fun hn => by
    obtain ⟨b, off, e, hb, hc⟩ := h.2 hn
    exact ⟨b, off, e, by omega, hc⟩⟩
theorem Mos.below {C : Nat} (h : Mos w B A n ms) (hb : Below C w w') (hC : B ≤ C) : Mos w' B A n ms := h.keep fun _ hp => hb.cell (by omega)
theorem Mos.alloc (h : Mos w B A n ms) (hB : B ≤ w.heap.size) (o : Obj) : Mos (w.alloc o) B A n ms := h.keep fun p hp => World.cell?_alloc_lt w o p (by omega)
theorem Mos.none_ : Mos w B A 0 [] := ⟨rfl, fun h => absurd h (by omega)⟩
end

theorem infoMo : (Try.prog.info? 43).map (fun i => (i.zero, i.size, i.bytes)) = some (some (.agg #[.int .i64 0, .int .i64 0, .int .i64 0]), 3, 24) := by kernel_rfl

/-- Block g is a row of ms. -/
def RowMo (w : World) (g : Nat) (ms : List Mo) : Prop := w.rowIs g 43 (ms.length * 3) (cellMo ms)
theorem RowMo.list {w : World} {g B : Nat} {ms : List Mo} (h : RowMo w g ms) (hg : g < B) : Mos w B (some ⟨g, 0, none⟩) ms.length ms :=
  ⟨rfl, fun _ => ⟨g, 0, rfl, hg, fun i hi => by rw [Nat.zero_add]; exact World.rowIs.cell h hi⟩⟩
def CopiedMo (ms : List Mo) (w : World) (e : Ending) (w' : World) : Prop :=
  ∃ g, w.heap.size ≤ g ∧ g < w'.heap.size ∧ e = .returned (.slice (some ⟨g, 0, none⟩) ms.length ms.length) ∧ RowMo w' g ms ∧ Below w.heap.size w w'

end Go.Proofs.Ytediapekgbekeaa
