
/-
  MARKS IN A LIST OF MOVES: markMoveS, heldMoveS. The row's cells are one list of numbers, three for each move.
-/
import Derived.Test.YtdaghclnggbmoaaMark
import Derived.Test.YtdaghclnggbmoaaMove
namespace Go.Proofs.Ytdaghclnggbmoaa
open Go.RowKit Go.Deep

/-- Nil, or a row of the call's own of n moves whose cells are the numbers xs. -/
def OwnI (w : World) (base : Nat) (v : Value) (n : Nat) (xs : List Int) : Prop := w.ownsRow base 44 3 v n (xs.map (Value.int .i64)) ∧ xs.length = n * 3

section
variable {w w' : World} {base n : Nat} {v : Value} {xs : List Int}
theorem OwnI.keep (h : OwnI w base v n xs) (hk : ∀ g, base ≤ g → g < w.heap.size → w'.heap[g]? = w.heap[g]?) : OwnI w' base v n xs := by
  refine ⟨⟨h.1.1, ?_⟩, h.2⟩
  rcases h.1.2 with h2 | ⟨g, cap, cur, hv, hb, hg, r⟩
  · exact .inl h2
  · obtain ⟨hlt, _⟩ := Array.getElem?_eq_some_iff.1 hg
    exact .inr ⟨g, cap, cur, hv, hb, (hk g hb hlt).trans hg, r⟩
theorem OwnI.below (h : OwnI w base v n xs) (hb : Below w.heap.size w w') : OwnI w' base v n xs := h.keep fun g _ hg => hb.block g hg
theorem OwnI.form (h : OwnI w base v n xs) : (v = .slice none 0 0 ∧ n = 0) ∨ ∃ g c, v = .slice (some ⟨g, 0, none⟩) n c ∧ base ≤ g ∧ g < w.heap.size := by
  rcases h.1.2 with ⟨rfl, h0⟩ | ⟨g, cap, cur, rfl, hb, hg, hn, hm, _⟩
  · exact .inl ⟨rfl, h0⟩
  · refine .inr ⟨g, cap, rfl, hb, ?_⟩
    obtain ⟨hlt, _⟩ := Array.getElem?_eq_some_iff.1 hg
    exact hlt

/-- One move more is marked. -/
theorem OwnI.mark {g c : Nat} {k0 : Int} {j : Nat} (h : OwnI w base (.slice (some ⟨g, 0, none⟩) n c) n (mixed k0 (j * 3) xs)) (hl : xs.length = n * 3) (hj : j < n) {a b d : Int}
    (ha : a = k0 + ((j * 3 : Nat) : Int)) (hb : b = k0 + ((j * 3 + 1 : Nat) : Int)) (hd : d = k0 + ((j * 3 + 1 + 1 : Nat) : Int)) :
    OwnI (((w.setCell ⟨g, j * 3, none⟩ (.int .i64 a)).setCell ⟨g, j * 3 + 1, none⟩ (.int .i64 b)).setCell ⟨g, j * 3 + 2, none⟩ (.int .i64 d)) base (.slice (some ⟨g, 0, none⟩) n c) n (mixed k0 ((j + 1) * 3) xs) := by
  subst ha; subst hb; subst hd
  refine ⟨?_, by rw [mixed_length _ _ _ (by omega)]; exact hl⟩
  have h1 := (World.ownsRow.stored (World.ownsRow.stored (World.ownsRow.stored h.1 (j * 3) (.int .i64 (k0 + ((j * 3 : Nat) : Int)))).1 (j * 3 + 1) (.int .i64 (k0 + ((j * 3 + 1 : Nat) : Int)))).1 (j * 3 + 2) (.int .i64 (k0 + ((j * 3 + 1 + 1 : Nat) : Int)))).1
  rw [← List.map_set, mixed_set k0 (j * 3) xs (by omega), ← List.map_set, mixed_set k0 (j * 3 + 1) xs (by omega), show j * 3 + 2 = j * 3 + 1 + 1 from rfl, ← List.map_set, mixed_set k0 (j * 3 + 1 + 1) xs (by omega),
    show j * 3 + 1 + 1 + 1 = (j + 1) * 3 from by omega] at h1
  exact h1
theorem OwnI.at_ {g c k : Nat} (h : OwnI w base (.slice (some ⟨g, 0, none⟩) n c) n xs) (hk : k < n * 3) (hk' : k < xs.length) : w.cell? ⟨g, k, none⟩ = some (.int .i64 xs[k]) := by
  rw [World.ownsRow.cellAt h.1 k hk, List.getElem?_map, List.getElem?_eq_getElem hk', Option.map_some]
end

/-- The number in the cell at i of a row of moves. -/
def numM (ms : List Mv) (i : Nat) : Int :=
  match i % 3 with
  | 0 => (ms.getD (i / 3) ⟨0, 0, 0⟩).f
  | 1 => (ms.getD (i / 3) ⟨0, 0, 0⟩).t
  | _ => (ms.getD (i / 3) ⟨0, 0, 0⟩).c
theorem cellM_num (ms : List Mv) (i : Nat) : cellM ms i = .int .i64 (numM ms i) := by
  unfold cellM numM; split <;> rename_i h <;> simp [h]
def numsM (ms : List Mv) : List Int := (List.range (ms.length * 3)).map (numM ms)
theorem OwnI.of_row {w : World} {base g : Nat} {ms : List Mv} (h : RowM w g ms) (hb : base ≤ g) (hm : ms.length ≤ maxLen) : OwnI w base (.slice (some ⟨g, 0, none⟩) ms.length ms.length) ms.length (numsM ms) := by
  obtain ⟨cur, h1, h2, h3⟩ := h
  refine ⟨⟨by simp [numsM], .inr ⟨g, ms.length, cur, rfl, hb, h1, Nat.le_refl _, hm, by omega, ?_⟩⟩, by simp [numsM]⟩
  apply List.ext_getElem?
  intro i
  by_cases hi : i < ms.length * 3
  · rw [List.getElem?_take, if_pos (by omega), Array.getElem?_toList, h3 i hi, List.getElem?_map]
    simp [numsM, hi, cellM_num]
  · rw [List.getElem?_eq_none (by simp; omega), List.getElem?_eq_none (by simp [numsM]; omega)]

/-- WHAT markMoveS LEAVES. -/
def MarkedM (base : Nat) (A : Option Addr) (n c : Nat) (k0 : Int) (w : World) (e : Ending) (w' : World) : Prop :=
  e = .returned (.int .i64 (k0 + 3 * (n : Int))) ∧ OwnI w' base (.slice A n c) n (marks k0 (n * 3)) ∧ Below base w w' ∧ ∀ h, h < w.heap.size → (∀ ad, A = some ad → h ≠ ad.block) → w'.heap[h]? = w.heap[h]?

theorem markMoveS_any (base : Nat) (A : Option Addr) (n c : Nat) (xs : List Int) (k0 : Int) (w : World) (hown : OwnI w base (.slice A n c) n xs) (hn : n ≤ 1048576) (hk0 : 0 ≤ k0) (hk1 : k0 ≤ 2000000) :
    Calls Try.prog 24 #[.slice A n c, .int .i64 k0] w (MarkedM base A n c k0 w) := by
  have hl := hown.2
  rcases hown.form with ⟨h1, rfl⟩ | ⟨g, c', h1, hb, hg⟩
  · injection h1 with h1 h2 h3
    subst h1; subst h3
    have hx : xs = [] := List.eq_nil_of_length_eq_zero (by omega)
    subst hx
    go_enter Try.func24, Try.ntmps24
    go_wp2
    refine wp_loop_rounds 1 ?_
    rw [rounds_succ]
    go_wp2
    go_ret
    exact ⟨ret_int (by simp), hown, Below.refl _ _, fun _ _ _ => rfl⟩
  · injection h1 with h1 h2 h3
    subst h1; subst h3
    clear h2
    go_enter Try.func24, Try.ntmps24
    go_wp2
    go_loopw [1, 5] (fun kv i wr => ∃ j : Nat, j ≤ n ∧ i = .int .i64 j ∧ kv = .int .i64 (k0 + 3 * (j : Int)) ∧ OwnI wr base (.slice (some ⟨g, 0, none⟩) n c) n (mixed k0 (j * 3) xs) ∧
        Below base w wr ∧ ∀ h, h < w.heap.size → h ≠ g → wr.heap[h]? = w.heap[h]?)
      (fun _ i _ => n - (intOf i).toNat)
    case atStart => exact ⟨0, Nat.zero_le _, rfl, by simp, by rw [Nat.zero_mul, mixed_zero]; exact hown, Below.refl _ _, fun _ _ _ => rfl⟩
    case round =>
      obtain ⟨j, hj, rfl, rfl, ho, hbl, hoth⟩ := hrel
      have HO := hide hoth
      clear hoth
      by_cases hlt : j < n
      · have HL := hide (show (mixed k0 (j * 3) xs).length = n * 3 from by rw [mixed_length k0 (j * 3) xs (by omega)]; exact hl)
        have o0 := ho.at_ (k := j * 3) (by omega) (by rw [HL.out]; omega)
        have o1 := ho.at_ (k := j * 3 + 1) (by omega) (by rw [HL.out]; omega)
        have o2 := ho.at_ (k := j * 3 + 2) (by omega) (by rw [HL.out]; omega)
        have f0 := World.ownsRow.frozenAt ho.1 (j * 3)
        have f1 := World.ownsRow.frozenAt ho.1 (j * 3 + 1)
        have f2 := World.ownsRow.frozenAt ho.1 (j * 3 + 2)
        have HS := hide (fun a b d => OwnI.mark (a := a) (b := b) (d := d) ho hl hlt)
        go_wp2
        go_roundw
        case rel =>
          refine ⟨j + 1, by omega, by go_num, by go_num, HS.out _ _ _ (by omega) (by omega) (by omega), ((hbl.setCell hb _).setCell hb _).setCell hb _, fun h hh hne => ?_⟩
          rw [Below.heap_setCell _ _ _ _ hne, Below.heap_setCell _ _ _ _ hne, Below.heap_setCell _ _ _ _ hne]
          exact HO.out h hh hne
        case measure => simp [intOf]; omega
      · obtain rfl : j = n := by omega
        rw [← hl, mixed_all, hl] at ho
        go_wp2
        go_ret
        exact ⟨rfl, ho, hbl, fun h hh hne => HO.out h hh (fun e => hne _ rfl e)⟩

end Go.Proofs.Ytdaghclnggbmoaa
