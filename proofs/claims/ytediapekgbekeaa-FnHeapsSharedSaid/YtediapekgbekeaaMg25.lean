import Derived.Test.YtediapekgbekeaaMg03
import Derived.Test.YtediapekgbekeaaMg22
import Derived.WalkLawsBesides
import Derived.Laws.ResultCell
import Derived.StillTailTactics

/-
  MOVES: lists of structs of three numbers. The laws' own helpers toMove, toMoveS, eqMove, eqMoveS, szMoveS.
-/
namespace Go.Proofs.Ytediapekgbekeaa
open Go.RowKit Go.Deep

/-- A move as a value. -/
def mvV (m : Mv) : Value := .agg #[.int .i64 m.f, .int .i64 m.t, .int .i64 m.c]

theorem run_make_rowN {P : Program} (t e : TypeId) (i : TypeInfo) (z : Value) (ht : P.underlying t = some (.slice e)) (hi : P.info? e = some i) (hz : i.zero = some z)
    (kl kc : IntKind) (n c : Nat) (hnc : n ≤ c) (hbytes : i.bytes * c ≤ 281474976710656) (h63 : c ≤ 9223372036854775807) (w : World) :
    (Instr.makeSlice t (.int kl (n : Int)) (.int kc (c : Int))).run P w = .ok (.slice (some ⟨w.heap.size, 0, none⟩) n c) (w.alloc (.cells (madeCells z.cells (c * i.size)) e)) := by
  have hb : (i.bytes : Int) * (c : Int) ≤ 281474976710656 := by
    have h : ((i.bytes * c : Nat) : Int) ≤ 281474976710656 := by omega
    rwa [Int.natCast_mul] at h
  have hr := run_make (P := P) w t e i z ht hi hz kl kc n c (by omega) (by omega) hb (by omega)
  simp only [Int.toNat_natCast] at hr
  exact hr

/-- The cell at i of a row of moves. -/
def cellM (ms : List Mv) (i : Nat) : Value :=
  match i % 3 with
  | 0 => .int .i64 (ms.getD (i / 3) ⟨0, 0, 0⟩).f
  | 1 => .int .i64 (ms.getD (i / 3) ⟨0, 0, 0⟩).t
  | _ => .int .i64 (ms.getD (i / 3) ⟨0, 0, 0⟩).c
theorem cellM_0 (ms : List Mv) (k : Nat) (h : k < ms.length) : cellM ms (k * 3) = .int .i64 ms[k].f := by
  simp [cellM, List.getD, h]
theorem cellM_1 (ms : List Mv) (k : Nat) (h : k < ms.length) : cellM ms (k * 3 + 1) = .int .i64 ms[k].t := by
  simp [cellM, show (k * 3 + 1) % 3 = 1 from by omega, show (k * 3 + 1) / 3 = k from by omega, List.getD, h]
theorem cellM_2 (ms : List Mv) (k : Nat) (h : k < ms.length) : cellM ms (k * 3 + 2) = .int .i64 ms[k].c := by
  simp [cellM, show (k * 3 + 2) % 3 = 2 from by omega, show (k * 3 + 2) / 3 = k from by omega, List.getD, h]
theorem cellM_int (ms : List Mv) (i : Nat) : ∃ x, cellM ms i = .int .i64 x := by
  unfold cellM; split <;> exact ⟨_, rfl⟩

/-- One move more is laid. -/
theorem row_mv {w : World} {g T N : Nat} {ms : List Mv} {k : Nat} (hk : k < ms.length) (h : w.rowIs g T N (fun j => if j < k * 3 then cellM ms j else .int .i64 0)) :
    (((w.setCell ⟨g, k * 3, none⟩ (.int .i64 ms[k].f)).setCell ⟨g, k * 3 + 1, none⟩ (.int .i64 ms[k].t)).setCell ⟨g, k * 3 + 2, none⟩ (.int .i64 ms[k].c)).rowIs g T N (fun j => if j < (k + 1) * 3 then cellM ms j else .int .i64 0) := by
  refine (((h.set (k * 3) _).set (k * 3 + 1) _).set (k * 3 + 2) _).congr fun i _ => ?_
  by_cases h2 : i = k * 3 + 2
  · rw [if_pos h2, if_pos (by omega), h2, cellM_2 ms k hk]
  · rw [if_neg h2]
    by_cases h1 : i = k * 3 + 1
    · rw [if_pos h1, if_pos (by omega), h1, cellM_1 ms k hk]
    · rw [if_neg h1]
      by_cases h0 : i = k * 3
      · rw [if_pos h0, if_pos (by omega), h0, cellM_0 ms k hk]
      · rw [if_neg h0]
        by_cases hlt : i < k * 3
        · rw [if_pos hlt, if_pos (by omega)]
        · rw [if_neg hlt, if_neg (by omega)]
theorem made_mv (w : World) (T n : Nat) : (w.alloc (.cells (madeCells #[.int .i64 0, .int .i64 0, .int .i64 0] n) T)).rowIs w.heap.size T n (fun j => if j < 0 * 3 then cellM [] j else .int .i64 0) := by
  have h := World.rowIs_alloc w (madeCells #[.int .i64 0, .int .i64 0, .int .i64 0] n) T (fun _ => .int .i64 0) (fun i hi => by
    rw [size_madeCells] at hi
    have h3 : i % 3 = 0 ∨ i % 3 = 1 ∨ i % 3 = 2 := by omega
    rcases h3 with h3 | h3 | h3 <;> simp [madeCells, hi, h3])
  rw [size_madeCells] at h
  exact h.congr fun i _ => by simp

/-- The slice value '.slice A n c' reads as the moves ms, below block B. -/
def Mvs (w : World) (B : Nat) (A : Option Addr) (n : Nat) (ms : List Mv) : Prop :=
  ms.length = n ∧ (0 < n → ∃ b off, A = some ⟨b, off, none⟩ ∧ b < B ∧ ∀ i, i < n * 3 → w.cell? ⟨b, off + i, none⟩ = some (cellM ms i))
section
variable {w w' : World} {B B' n : Nat} {A : Option Addr} {ms : List Mv}
theorem Mvs.len (h : Mvs w B A n ms) : ms.length = n := h.1
theorem Mvs.at_ {k : Nat} (h : Mvs w B A n ms) (hk : k < n) (hk' : k < ms.length) :
    ∃ b off, A = some ⟨b, off, none⟩ ∧ b < B ∧ w.cell? ⟨b, off + k * 3, none⟩ = some (.int .i64 ms[k].f) ∧ w.cell? ⟨b, off + k * 3 + 1, none⟩ = some (.int .i64 ms[k].t) ∧ w.cell? ⟨b, off + k * 3 + 2, none⟩ = some (.int .i64 ms[k].c) := by
  obtain ⟨b, off, e, hb, hc⟩ := h.2 (by omega)
  refine ⟨b, off, e, hb, ?_, ?_, ?_⟩
  · rw [hc (k * 3) (by omega), cellM_0 ms k hk']
  · rw [Nat.add_assoc, hc (k * 3 + 1) (by omega), cellM_1 ms k hk']
  · rw [Nat.add_assoc, hc (k * 3 + 2) (by omega), cellM_2 ms k hk']
theorem Mvs.keep (h : Mvs w B A n ms) (hk : ∀ p : Addr, p.block < B → w'.cell? p = w.cell? p) : Mvs w' B A n ms :=
  ⟨h.1, fun hn => by
    obtain ⟨b, off, e, hb, hc⟩ := h.2 hn
    exact ⟨b, off, e, hb, fun i hi => (hk _ hb).trans (hc i hi)⟩⟩
theorem Mvs.more (h : Mvs w B A n ms) (hB : B ≤ B') : Mvs w B' A n ms :=
  ⟨h.1, fun hn => by
    obtain ⟨b, off, e, hb, hc⟩ := h.2 hn
    exact ⟨b, off, e, by omega, hc⟩⟩
theorem Mvs.below {C : Nat} (h : Mvs w B A n ms) (hb : Below C w w') (hC : B ≤ C) : Mvs w' B A n ms := h.keep fun _ hp => hb.cell (by omega)
end

theorem infoMv : (Try.prog.info? 43).map (fun i => (i.zero, i.size, i.bytes)) = some (some (.agg #[.int .i64 0, .int .i64 0, .int .i64 0]), 3, 24) := by kernel_rfl

/-- Block g is a row of the moves ms. -/
def RowM (w : World) (g : Nat) (ms : List Mv) : Prop := w.rowIs g 43 (ms.length * 3) (cellM ms)
def CopiedM (ms : List Mv) (w : World) (e : Ending) (w' : World) : Prop :=
  ∃ g, w.heap.size ≤ g ∧ g < w'.heap.size ∧ e = .returned (.slice (some ⟨g, 0, none⟩) ms.length ms.length) ∧ RowM w' g ms ∧ Below w.heap.size w w'

end Go.Proofs.Ytediapekgbekeaa

/-
  MOVES, THE SECOND PART: eqMoveS, szMoveS.
-/
namespace Go.Proofs.Ytediapekgbekeaa
open Go.RowKit Go.Deep

end Go.Proofs.Ytediapekgbekeaa
