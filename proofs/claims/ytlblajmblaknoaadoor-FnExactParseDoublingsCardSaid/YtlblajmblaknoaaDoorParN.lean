
/-
  THE PIECES THAT strings.SplitN GIVES (as in ParS, for a seat without numbers).
-/
import Derived.Test.YtlblajmblaknoaaDoorParM
import Derived.Test.YtlblajmblaknoaaDoorShelfT
import Derived.Laws.Rows
import Derived.ChangeAgain
namespace Go.Proofs.YtlblajmblaknoaaDoor
open Go.RowKit Go.Deep
set_option linter.unusedVariables false

/-- The world's shape is kept by what leaves the old blocks alone. -/
theorem shaped_below {P : Program} {w w' : World} (h : w.ShapedOpen P) (hb : Below w.heap.size w w') : w'.ShapedOpen P := by
  have same : ∀ {i : Nat} {o : Obj}, w.heap[i]? = some o → w'.heap[i]? = some o := by
    intro i o ho
    have hlt : i < w.heap.size := by
      rcases Nat.lt_or_ge i w.heap.size with h1 | h1
      · exact h1
      · rw [Array.getElem?_eq_none h1] at ho; cases ho
    rw [hb.block i hlt]; exact ho
  have shp : ∀ (b : Nat) x, w.shape? b = some x → w'.shape? b = some x := by
    intro b x hx
    unfold World.shape? at hx ⊢
    cases ho : w.heap[b]? with
    | none => rw [ho] at hx; simp at hx
    | some o => rw [same ho]; rw [ho] at hx; exact hx
  refine ⟨fun g zero t hg hz => ?_, fun k h1 h2 => ?_⟩
  · obtain ⟨cs, a1, a2, a3⟩ := h.1 g zero t hg hz
    exact ⟨cs, same a1, a2, fun hq => Row.ok_of_shape (fun b x => shp b x) (a3 hq)⟩
  · obtain ⟨o, o₀, a1, a2, a3⟩ := h.2 k h1 h2
    exact ⟨o, o₀, same a1, a2, a3⟩

theorem bs_data (l : List UInt8) : (bs l).data.toList = l := by simp [bs]

theorem splitB_bs (k : Nat) (l : List UInt8) : Lib.splitB ⟨#[45]⟩ 0 k (bs l) = (Lib.splitK [45] 0 k l).map bs := by
  have h := Lib.splitB_data ⟨#[45]⟩ 0 k (bs l)
  have e : ∀ ps : List ByteArray, ps = (ps.map (·.data.toList)).map bs := by
    intro ps
    rw [List.map_map]
    have : (bs ∘ fun x : ByteArray => x.data.toList) = id := by
      funext x
      simp [bs]
    rw [this, List.map_id]
  rw [e (Lib.splitB ⟨#[45]⟩ 0 k (bs l)), h, bs_data]

theorem cells_at (q : List (List UInt8)) (N k : Nat) (hk : k < q.length) : (Lib.cellsOf (q.map bs) N)[k]? = some (.string (bs (q.getD k []))) := by
  unfold Lib.cellsOf
  rw [List.getElem?_toArray, List.getElem?_append_left (by simpa using hk), List.getElem?_map, List.getElem?_map, List.getElem?_eq_getElem hk]
  simp [List.getD, List.getElem?_eq_getElem hk]
/-- The pieces of a text, at most m + 1: all where there are no more than m. -/
theorem SplitN_any (l : List UInt8) (m : Nat) (hm : 1 ≤ m) (hm2 : m ≤ 1000) (hl : l.length < 4294967281) (w : World) (hS : w.ShapedOpen Tryd.prog) :
    Calls Tryd.prog 17 #[.string (bs l), .string ⟨#[45]⟩, .int .i64 ((m : Int) + 1)] w fun e w' =>
      ∃ (ws : List (List UInt8)) (c : Nat), e = .returned (.slice (some ⟨w.heap.size, 0, none⟩) ws.length c) ∧ Strs w' w'.heap.size (some ⟨w.heap.size, 0, none⟩) ws.length ws ∧ Below w.heap.size w w' ∧ ws.length ≤ m + 1 ∧
        ((sp l).length ≤ m → ws = sp l) ∧ (m < (sp l).length → ws.length = m + 1) := by
  have hk := sp_length l
  have hcl : l.count 45 ≤ l.length := List.count_le_length
  have hN := Lib.splitB_length_le ⟨#[45]⟩ 0 (min (m + 1) ((bs l).size + 1) - 1) (bs l)
  rw [splitB_bs, List.length_map] at hN
  have hc := Tryd.strings_SplitN_shaped (bs l) ⟨#[45]⟩ (m + 1) w hS (by rw [bs_len]; exact hl) (Nat.le_refl _) (by omega) (by omega)
  rw [splitB_bs] at hc
  rw [show (((m + 1 : Nat)) : Int) = (m : Int) + 1 from by omega] at hc
  refine hc.mono ?_
  rintro e w' ⟨rfl, rfl⟩
  rw [bs_len] at *
  refine ⟨Lib.splitK [45] 0 (min (m + 1) (l.length + 1) - 1) l, min (m + 1) (l.length + 1), by rw [List.length_map], ?_, (Below.refl _ _).alloc (Nat.le_refl _) _, by omega, ?_, ?_⟩
  · refine ⟨rfl, fun _ => ⟨_, rfl, by simp, fun k hk => ?_⟩⟩
    rw [add_head]
    rw [World.cell?_alloc_at]
    · exact cells_at _ _ k hk
    · rfl
  · intro h
    exact splitK_sp _ l (by omega)
  · intro h
    rw [splitK_over _ l (by omega)]
    omega

end Go.Proofs.YtlblajmblaknoaaDoor
