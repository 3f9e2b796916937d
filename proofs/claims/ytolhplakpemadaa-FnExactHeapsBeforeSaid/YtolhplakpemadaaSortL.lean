
/-
  slices.SortFunc OVER LISTS OF NUMBERS: what the comparison reads while the sort goes on.
-/
import Derived.Test.YtolhplakpemadaaCmpP
import Derived.Test.YtolhplakpemadaaOwnPs
import Derived.Shelf.SlSortCmp.Kit1
namespace Go.Proofs.Ytolhplakpemadaa
open Go.RowKit Go.Deep
set_option linter.unusedVariables false

/-- A row of the list: a value, and what it reads as. -/
abbrev RowOf (L : List (Value × List Int)) := {x : Value × List Int // x ∈ L}
def encR (L : List (Value × List Int)) (x : RowOf L) : Value := x.1.1
def cfR (L : List (Value × List Int)) (x y : RowOf L) : Int := cmpL x.1.2 y.1.2
theorem swoR (L : List (Value × List Int)) : Go.Sort.SWO (Go.Proofs.ltOf (cfR L)) where
  irrefl x := by unfold Go.Proofs.ltOf cfR; rw [cmpL_self]; rfl
  trans x y z h1 h2 := by
    unfold Go.Proofs.ltOf cfR at *
    simp only [decide_eq_true_eq] at *
    exact cmpL_trans _ _ _ h1 h2
  ntrans x y z h1 h2 := by
    unfold Go.Proofs.ltOf cfR at *
    simp only [decide_eq_false_iff_not] at *
    exact cmpL_ntrans _ _ _ h1 h2

theorem grow_get (w : World) (os : Array Obj) (h : Nat) (hl : h < w.heap.size) : (Go.Sort.grow w os).heap[h]? = w.heap[h]? := by
  show (w.heap ++ os)[h]? = _
  rw [Array.getElem?_append_left hl]
theorem putRow_get {α : Type} [Inhabited α] (enc : α → Value) (w : World) (g o h : Nat) (dk : Array α) (hne : h ≠ g) : (Go.Sort.putRow enc w g o dk).heap[h]? = w.heap[h]? := by
  show (w.heap.modify g _)[h]? = _
  rw [Array.getElem?_modify, if_neg (Ne.symm hne)]
theorem sortWorld_get {α : Type} [Inhabited α] (enc : α → Value) (w : World) (g o m h : Nat) (dk : Array α) (os : Array Obj) (hl : h < w.heap.size) (hne : h ≠ g) : (Go.Proofs.sortWorld enc w g o m dk os).heap[h]? = w.heap[h]? := by
  unfold Go.Proofs.sortWorld
  rw [grow_get _ _ _ (by show h < (w.heap.modify g _).size; rw [Array.size_modify]; exact hl), putRow_get _ _ _ _ _ _ hne]
  rfl

theorem enters_cmp : Enters Try.prog 24 := enters_of Try.func24 (by kernel_rfl) rfl
set_option maxRecDepth 100000 in
/-- What slices.Compare tells of two rows while they are sorted. -/
theorem cmpReads_rows (w : World) (base g : Nat) (L : List (Value × List Int)) [Inhabited (RowOf L)] (ho : ∀ x ∈ L, Own w base 3 x.1 x.2 ∧ ∀ b, x.1.ownBlock = some b → b ≠ g) (hl : ∀ x ∈ L, x.2.length ≤ 17592186044416) (size : Nat) :
    Go.Proofs.CmpReads Try.prog 24 #[] (encR L) (cfR L) g 0 size w := by
  intro m os dk _ x y
  have one : ∀ x : RowOf L, ∃ A c, encR L x = .slice A x.1.2.length c ∧ ∃ B, Ints (Go.Proofs.sortWorld (encR L) w g 0 m dk os) B A x.1.2.length x.1.2 := fun x => by
    have h := ho x.1 x.2
    have h' : Own (Go.Proofs.sortWorld (encR L) w g 0 m dk os) base 3 x.1.1 x.1.2 := h.1.keepB fun b hb hlt => sortWorld_get _ _ _ _ _ _ _ _ hlt (h.2 b hb)
    obtain ⟨A, c, e, _⟩ := h'.shape
    rw [e] at h'
    exact ⟨A, c, e, _, h'.ints⟩
  obtain ⟨A, c, e1, B1, h1⟩ := one x
  obtain ⟨A', c', e2, B2, h2⟩ := one y
  rw [e1, e2]
  exact (slCompare_any A A' _ _ c c' (max B1 B2) x.1.2 y.1.2 _ (h1.more (Nat.le_max_left _ _)) (h2.more (Nat.le_max_right _ _)) (hl _ x.2) (hl _ y.2)).mono fun e w' ⟨he, hw⟩ => ⟨he, 0, by rw [← hw]; rfl⟩

theorem apart_symm {x y : Value × List Int} (h : apart x y) : apart y x := fun b hb hx => h b hx hb
theorem block_sorted {w : World} {g m : Nat} {cur : Array Value} {e : TypeId} {L : List (Value × List Int)} [Inhabited (RowOf L)] (d : Array (RowOf L)) (os : Array Obj) (hg : w.heap[g]? = some (.cells cur e (0, 0))) :
    (Go.Proofs.sortWorld (encR L) w g 0 m d os).heap[g]? = some (.cells (Go.Sort.putCells (encR L) 0 d cur) e (0, 0)) := by
  obtain ⟨hlt, he⟩ := Array.getElem?_eq_some_iff.1 hg
  unfold Go.Proofs.sortWorld
  rw [grow_get _ _ _ (by show g < (w.heap.modify g _).size; rw [Array.size_modify]; exact hlt)]
  show (w.heap.modify g _)[g]? = _
  rw [Array.getElem?_modify, if_pos rfl, hg]
  rfl
/-- The list behind the sort. -/
theorem sorted_rows (w : World) (base g c m : Nat) (L : List (Value × List Int)) [Inhabited (RowOf L)] (d : Array (RowOf L)) (os : Array Obj) (hps : OwnPs w base (.slice (some ⟨g, 0, none⟩) L.length c) L) (hd : d.size = L.length) (hperm : (d.toList.map Subtype.val).Perm L) :
    OwnPs (Go.Proofs.sortWorld (encR L) w g 0 m d os) base (.slice (some ⟨g, 0, none⟩) L.length c) (d.toList.map Subtype.val) := by
  have hlen : (d.toList.map Subtype.val).length = L.length := by rw [List.length_map, Array.length_toList, hd]
  refine ⟨⟨by rw [List.length_map, hlen]; omega, ?_⟩, fun x hx => ?_, (List.Perm.pairwise_iff (fun h => apart_symm h) hperm).2 hps.2.2⟩
  · rcases hps.1.2 with ⟨h, _⟩ | ⟨g', cap, cur, hv, hb, hg, hn, hm, hs, ht⟩
    · cases h
    · cases hv
      refine .inr ⟨g, c, _, by rw [hlen], hb, block_sorted d os hg, by rw [hlen]; exact hn, hm, by unfold Go.Sort.putCells; rw [Array.size_mapIdx]; exact hs, ?_⟩
      apply List.ext_getElem?
      intro i
      rw [List.getElem?_take, Array.getElem?_toList]
      by_cases hi : i < L.length
      · rw [if_pos (by rw [hlen]; omega)]
        unfold Go.Sort.putCells
        rw [Array.getElem?_mapIdx, Array.getElem?_eq_getElem (by omega), Option.map_some, if_pos ⟨Nat.zero_le _, by omega⟩]
        simp only [Nat.sub_zero]
        rw [getElem!_pos d i (by omega)]
        simp [show i < d.size by omega, encR]
      · rw [if_neg (by rw [hlen]; omega), List.getElem?_eq_none (by rw [List.length_map, hlen]; omega)]
  · have hx' := hps.2.1 x (hperm.mem_iff.1 hx)
    exact ⟨hx'.1.keepB fun b hb hlt => sortWorld_get _ _ _ _ _ _ _ _ hlt (fun e => hx'.2 b hb (by rw [e]; rfl)), hx'.2⟩
theorem holds_rows (w : World) (base g c : Nat) (L : List (Value × List Int)) [Inhabited (RowOf L)] (hps : OwnPs w base (.slice (some ⟨g, 0, none⟩) L.length c) L) : Go.Sort.Holds (encR L) w g 0 L.attach.toArray := by
  intro j hj
  have hj' : j < L.length := by simpa using hj
  refine ⟨?_, by rw [Nat.zero_add]; exact World.ownsRow.frozenAt hps.1 j⟩
  rw [Nat.zero_add, World.ownsRow.cellAt hps.1 j (by omega), getElem!_pos _ j hj]
  simp [hj', encR]
end Go.Proofs.Ytolhplakpemadaa
