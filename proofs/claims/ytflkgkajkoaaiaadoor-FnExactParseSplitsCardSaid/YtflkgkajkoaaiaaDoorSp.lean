
/-
  LISTS OF STRUCTS OF 2 NUMBERS (impl.Split): the laws' own helpers toSplit, toSplitS, eqSplit. Printed by structs.py.
-/
import Derived.Test.YtflkgkajkoaaiaaDoorLaws0
import Derived.Test.YtflkgkajkoaaiaaDoorOwn
import Derived.WalkLawsBesides
import Derived.Laws.ResultCell
namespace Go.Proofs.YtflkgkajkoaaiaaDoor
open Go.RowKit Go.Deep
set_option linter.unusedVariables false

structure Sp where
  x0 : Int
  x1 : Int

theorem eqSplit_same (m : Sp) (w : World) :
    Calls Tryd.prog 20 #[.agg #[.int .i64 m.x0, .int .i64 m.x1], .agg #[.int .i64 m.x0, .int .i64 m.x1]] w fun e w' => e = .returned (.bool true) ∧ Below w.heap.size w w' := by
  have e0 : (m.x0 != m.x0) = false := by simp
  have e1 : (m.x1 != m.x1) = false := by simp
  go_enter Tryd.func20, Tryd.ntmps20
  go_wp2_with fail
  go_ret
  exact ⟨rfl, ((Below.refl _ _).alloc (Nat.le_refl _) _).alloc (by simp) _⟩

theorem toSplit_any (m : Sp) (w : World) :
    Calls Tryd.prog 16 #[.agg #[.int .i64 m.x0, .int .i64 m.x1]] w fun e w' => e = .returned (.agg #[.int .i64 m.x0, .int .i64 m.x1]) ∧ Below w.heap.size w w' := by
  go_enter Tryd.func16, Tryd.ntmps16
  go_wp2_with fail
  exact bodyPost_ret (v := .agg #[.int .i64 m.x0, .int .i64 m.x1]) (by simp [results, Tryd.results16, go_sem]) rfl
    ⟨rfl, (((Below.refl _ _).alloc (Nat.le_refl _) _).alloc (by simp) _).alloc (by simp; omega) _⟩

theorem run_make_rowSp {P : Program} (t e : TypeId) (i : TypeInfo) (z : Value) (ht : P.underlying t = some (.slice e)) (hi : P.info? e = some i) (hz : i.zero = some z)
    (kl kc : IntKind) (n c : Nat) (hnc : n ≤ c) (hbytes : i.bytes * c ≤ 281474976710656) (h63 : c ≤ 9223372036854775807) (w : World) :
    (Instr.makeSlice t (.int kl (n : Int)) (.int kc (c : Int))).run P w = .ok (.slice (some ⟨w.heap.size, 0, none⟩) n c) (w.alloc (.cells (madeCells z.cells (c * i.size)) e)) := by
  have hb : (i.bytes : Int) * (c : Int) ≤ 281474976710656 := by
    have h : ((i.bytes * c : Nat) : Int) ≤ 281474976710656 := by omega
    rwa [Int.natCast_mul] at h
  have hr := run_make (P := P) w t e i z ht hi hz kl kc n c (by omega) (by omega) hb (by omega)
  simp only [Int.toNat_natCast] at hr
  exact hr

/-- The number in the cell at i of a row. -/
def numSp (ms : List Sp) (i : Nat) : Int :=
  match i % 2 with
  | 0 => (ms.getD (i / 2) ⟨0, 0⟩).x0
  | _ => (ms.getD (i / 2) ⟨0, 0⟩).x1
/-- The cell at i. -/
def cellSp (ms : List Sp) (i : Nat) : Value := .int .i64 (numSp ms i)
theorem cellSp_0 (ms : List Sp) (k : Nat) (h : k < ms.length) : cellSp ms (k * 2) = .int .i64 ms[k].x0 := by
  simp [cellSp, numSp, show (k * 2) % 2 = 0 from by omega, show (k * 2) / 2 = k from by omega, List.getD, h]
theorem cellSp_1 (ms : List Sp) (k : Nat) (h : k < ms.length) : cellSp ms (k * 2 + 1) = .int .i64 ms[k].x1 := by
  simp [cellSp, numSp, show (k * 2 + 1) % 2 = 1 from by omega, show (k * 2 + 1) / 2 = k from by omega, List.getD, h]

/-- One more is laid. -/
theorem row_Sp {w : World} {g T N : Nat} {ms : List Sp} {k : Nat} (hk : k < ms.length) (h : w.rowIs g T N (fun j => if j < k * 2 then cellSp ms j else .int .i64 0)) :
    ((w.setCell ⟨g, k * 2, none⟩ (.int .i64 ms[k].x0)).setCell ⟨g, k * 2 + 1, none⟩ (.int .i64 ms[k].x1)).rowIs g T N (fun j => if j < (k + 1) * 2 then cellSp ms j else .int .i64 0) := by
  refine ((h.set (k * 2) _).set (k * 2 + 1) _).congr fun i _ => ?_
  by_cases h1 : i = k * 2 + 1
  · rw [if_pos h1, if_pos (by omega), h1, cellSp_1 ms k hk]
  · rw [if_neg h1]
    by_cases h0 : i = k * 2
    · rw [if_pos h0, if_pos (by omega), h0, cellSp_0 ms k hk]
    · rw [if_neg h0]
      by_cases hlt : i < k * 2
      · rw [if_pos hlt, if_pos (by omega)]
      · rw [if_neg hlt, if_neg (by omega)]
theorem made_Sp (w : World) (T n : Nat) : (w.alloc (.cells (madeCells #[.int .i64 0, .int .i64 0] n) T)).rowIs w.heap.size T n (fun j => if j < 0 * 2 then cellSp [] j else .int .i64 0) := by
  have h := World.rowIs_alloc w (madeCells #[.int .i64 0, .int .i64 0] n) T (fun _ => .int .i64 0) (fun i hi => by
    rw [size_madeCells] at hi
    have h3 : i % 2 = 0 ∨ i % 2 = 1 := by omega
    rcases h3 with h3 | h3 <;> simp [madeCells, hi, h3])
  rw [size_madeCells] at h
  exact h.congr fun i _ => by simp

/-- The slice value '.slice A n c' reads as ms, below block B. -/
def Sps (w : World) (B : Nat) (A : Option Addr) (n : Nat) (ms : List Sp) : Prop :=
  ms.length = n ∧ (0 < n → ∃ b off, A = some ⟨b, off, none⟩ ∧ b < B ∧ ∀ i, i < n * 2 → w.cell? ⟨b, off + i, none⟩ = some (cellSp ms i))
section
variable {w w' : World} {B B' n : Nat} {A : Option Addr} {ms : List Sp}
theorem Sps.len (h : Sps w B A n ms) : ms.length = n := h.1
theorem Sps.at_ {k : Nat} (h : Sps w B A n ms) (hk : k < n) (hk' : k < ms.length) :
    ∃ b off, A = some ⟨b, off, none⟩ ∧ b < B ∧ w.cell? ⟨b, off + k * 2, none⟩ = some (.int .i64 ms[k].x0) ∧ w.cell? ⟨b, off + k * 2 + 1, none⟩ = some (.int .i64 ms[k].x1) := by
  obtain ⟨b, off, e, hb, hc⟩ := h.2 (by omega)
  refine ⟨b, off, e, hb, ?_, ?_⟩
  · rw [hc (k * 2) (by omega), cellSp_0 ms k hk']
  · rw [Nat.add_assoc, hc (k * 2 + 1) (by omega), cellSp_1 ms k hk']
theorem Sps.keep (h : Sps w B A n ms) (hk : ∀ p : Addr, p.block < B → w'.cell? p = w.cell? p) : Sps w' B A n ms :=
  ⟨h.1, fun hn => by
    obtain ⟨b, off, e, hb, hc⟩ := h.2 hn
    exact ⟨b, off, e, hb, fun i hi => (hk _ hb).trans (hc i hi)⟩⟩
theorem Sps.more (h : Sps w B A n ms) (hB : B ≤ B') : Sps w B' A n ms :=
  ⟨h.1, fun hn => by
    obtain ⟨b, off, e, hb, hc⟩ := h.2 hn
    exact ⟨b, off, e, by omega, hc⟩⟩
theorem Sps.below {C : Nat} (h : Sps w B A n ms) (hb : Below C w w') (hC : B ≤ C) : Sps w' B A n ms := h.keep fun _ hp => hb.cell (by omega)
theorem Sps.alloc (h : Sps w B A n ms) (hB : B ≤ w.heap.size) (o : Obj) : Sps (w.alloc o) B A n ms := h.keep fun p hp => World.cell?_alloc_lt w o p (by omega)
theorem Sps.none_ : Sps w B A 0 [] := ⟨rfl, fun h => absurd h (by omega)⟩
end

theorem infoSp : (Tryd.prog.info? 37).map (fun i => (i.zero, i.size, i.bytes)) = some (some (.agg #[.int .i64 0, .int .i64 0]), 2, 16) := by kernel_rfl

/-- Block g is a row of ms. -/
def RowSp (w : World) (g : Nat) (ms : List Sp) : Prop := w.rowIs g 37 (ms.length * 2) (cellSp ms)
theorem RowSp.list {w : World} {g B : Nat} {ms : List Sp} (h : RowSp w g ms) (hg : g < B) : Sps w B (some ⟨g, 0, none⟩) ms.length ms :=
  ⟨rfl, fun _ => ⟨g, 0, rfl, hg, fun i hi => by rw [Nat.zero_add]; exact World.rowIs.cell h hi⟩⟩
def CopiedSp (ms : List Sp) (w : World) (e : Ending) (w' : World) : Prop :=
  ∃ g, w.heap.size ≤ g ∧ g < w'.heap.size ∧ e = .returned (.slice (some ⟨g, 0, none⟩) ms.length ms.length) ∧ RowSp w' g ms ∧ Below w.heap.size w w'

set_option maxRecDepth 1000000 in
theorem toSplitS_any (A : Option Addr) (n c : Nat) (ms : List Sp) (w : World) (hr : Sps w w.heap.size A n ms) (hn : n ≤ 1099511627776) :
    Calls Tryd.prog 7 #[.slice A n c] w (CopiedSp ms w) := by
  obtain rfl := hr.len
  obtain ⟨i0, hi, hz0, hz1, hz2⟩ := info_parts infoSp
  have hmk : ∀ w, (Instr.makeSlice 26 (.int .i64 (ms.length : Int)) (.int .i64 (ms.length : Int))).run Tryd.prog w = .ok (.slice (some ⟨w.heap.size, 0, none⟩) ms.length ms.length) (w.alloc (.cells (madeCells #[.int .i64 0, .int .i64 0] (ms.length * 2)) 37)) := by
    intro w
    have := run_make_rowSp (P := Tryd.prog) 26 37 i0 _ Tryd.underlying26 hi hz0 .i64 .i64 ms.length ms.length (Nat.le_refl _) (by rw [hz2]; omega) (by omega) w
    rw [hz1] at this
    exact this
  go_enter Tryd.func7, Tryd.ntmps7
  go_wp2_with fail
  go_loopw [4] (fun i wr => ∃ k : Nat, k ≤ ms.length ∧ i = .int .i64 k ∧ wr.rowIs w.heap.size 37 (ms.length * 2) (fun j => if j < k * 2 then cellSp ms j else .int .i64 0) ∧ Below w.heap.size w wr ∧ w.heap.size < wr.heap.size)
    (fun i _ => ms.length - (intOf i).toNat)
  case atStart => exact ⟨0, Nat.zero_le _, rfl, (made_Sp w _ _).congr (fun i _ => by simp), (Below.refl _ _).alloc (Nat.le_refl _) _, by simp⟩
  case round =>
    obtain ⟨k, hk, rfl, hrow, hb, hs⟩ := hrel
    by_cases hlt : k < ms.length
    · obtain ⟨b, off, rfl, hab, hc0, hc1⟩ := (hr.below hb (Nat.le_refl _)).at_ hlt hlt
      go_wp2_with fail
      refine (toSplit_any ms[k] wr).mono ?_
      rintro e w2 ⟨rfl, hb2⟩
      have hg : w.heap.size < wr.heap.size := hs
      have hrow2 := hrow.of_block (hb2.block _ hg)
      have s2 := hb2.size
      have o0 := hrow2.cell (show k * 2 < ms.length * 2 by omega)
      have o1 := hrow2.cell (show k * 2 + 1 < ms.length * 2 by omega)
      rw [if_neg (by omega)] at o0 o1
      have f0 := hrow2.frozen (k * 2)
      have f1 := hrow2.frozen (k * 2 + 1)
      go_wp2_with fail
      go_roundw
      case rel => exact ⟨k + 1, by omega, by go_num, row_Sp hlt hrow2, (((hb.trans (hb2.mono (by omega))).setCell (Nat.le_refl _) _).setCell (Nat.le_refl _) _), by simp; omega⟩
      case measure => simp [intOf]; omega
    · go_wp2_with fail
      go_ret
      exact ⟨_, Nat.le_refl _, hs, rfl, hrow.congr (fun i hi => by rw [if_pos (by omega)]), hb⟩
end Go.Proofs.YtflkgkajkoaaiaaDoor
