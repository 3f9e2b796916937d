import Derived.Test.YtnakkmmmkbjfbaaMg01
import Derived.Test.YtnakkmmmkbjfbaaMg02

/-
  THE LAWS' OWN HELPERS THAT WRITE MARKS INTO A LIST AND LOOK FOR THEM: markIntS, heldIntS.
-/
namespace Go.Proofs.Ytnakkmmmkbjfbaa
open Go.RowKit Go.Deep

/-- k0, k0 + 1, .. -/
def marks (k0 : Int) (n : Nat) : List Int := (List.range n).map fun (i : Nat) => k0 + (i : Int)
theorem marks_length (k0 : Int) (n : Nat) : (marks k0 n).length = n := by simp [marks]
theorem marks_succ (k0 : Int) (n : Nat) : marks k0 (n + 1) = marks k0 n ++ [k0 + (n : Int)] := by simp [marks, List.range_succ]
theorem marks_get (k0 : Int) (n k : Nat) (hk : k < n) : (marks k0 n)[k]'(by rw [marks_length]; exact hk) = k0 + (k : Int) := by simp [marks]
/-- The first j are marked. -/
def mixed (k0 : Int) (j : Nat) (zs : List Int) : List Int := marks k0 j ++ zs.drop j
theorem mixed_zero (k0 : Int) (zs : List Int) : mixed k0 0 zs = zs := by simp [mixed, marks]
theorem mixed_all (k0 : Int) (zs : List Int) : mixed k0 zs.length zs = marks k0 zs.length := by simp [mixed]
theorem mixed_length (k0 : Int) (j : Nat) (zs : List Int) (h : j ≤ zs.length) : (mixed k0 j zs).length = zs.length := by
  simp [mixed, marks_length]; omega
theorem mixed_set (k0 : Int) (j : Nat) (zs : List Int) (h : j < zs.length) : (mixed k0 j zs).set j (k0 + (j : Int)) = mixed k0 (j + 1) zs := by
  unfold mixed
  rw [List.set_append_right _ _ (by rw [marks_length]; exact Nat.le_refl _), marks_length, Nat.sub_self, List.drop_eq_getElem_cons h, List.set_cons_zero, marks_succ]
  simp

/-- WHAT markIntS LEAVES: the marks in the list, whose block alone has turned. -/
def Marked (base : Nat) (A : Option Addr) (n c : Nat) (k0 : Int) (w : World) (e : Ending) (w' : World) : Prop :=
  e = .returned (.int .i64 (k0 + (n : Int))) ∧ Own w' base 3 (.slice A n c) (marks k0 n) ∧ Below base w w' ∧ ∀ h, h < w.heap.size → (∀ ad, A = some ad → h ≠ ad.block) → w'.heap[h]? = w.heap[h]?

theorem Own.stored {w : World} {base g n c : Nat} {e : TypeId} {zs : List Int} (h : Own w base e (.slice (some ⟨g, 0, none⟩) n c) zs) (hn : zs.length = n) (j : Nat) (u : Int) :
    Own (w.setCell ⟨g, j, none⟩ (.int .i64 u)) base e (.slice (some ⟨g, 0, none⟩) n c) (zs.set j u) := by
  subst hn
  have := (World.ownsRow.stored h j (.int .i64 u)).1
  unfold Own
  rw [List.length_set, List.map_set]
  exact this

theorem markIntS_any (base : Nat) (A : Option Addr) (n c : Nat) (zs : List Int) (k0 : Int) (w : World) (hown : Own w base 3 (.slice A n c) zs) (hlen : zs.length = n) (hn : n ≤ 1048576) (hk0 : 0 ≤ k0) (hk1 : k0 ≤ 100000000) :
    Calls Try.prog 14 #[.slice A n c, .int .i64 k0] w (Marked base A n c k0 w) := by
  subst hlen
  rcases hown.form with ⟨h1, rfl⟩ | ⟨g, c', h1, hb, hg, hc, hm⟩
  · injection h1 with h1 h2 h3
    subst h1; subst h3
    go_enter Try.func14, Try.ntmps14
    go_wp2
    refine wp_loop_rounds 1 ?_
    rw [rounds_succ]
    go_wp2
    go_ret
    exact ⟨ret_int (by simp), Own.nil _ _ _, Below.refl _ _, fun _ _ _ => rfl⟩
  · injection h1 with h1 h2 h3
    subst h1; subst h3
    clear h2
    go_enter Try.func14, Try.ntmps14
    go_wp2
    go_loopw [1, 5] (fun kv i wr => ∃ j : Nat, j ≤ zs.length ∧ i = .int .i64 j ∧ kv = .int .i64 (k0 + (j : Int)) ∧ Own wr base 3 (.slice (some ⟨g, 0, none⟩) zs.length c) (mixed k0 j zs) ∧
        Below base w wr ∧ ∀ h, h < w.heap.size → h ≠ g → wr.heap[h]? = w.heap[h]?)
      (fun _ i _ => zs.length - (intOf i).toNat)
    case atStart => exact ⟨0, Nat.zero_le _, rfl, by simp, by rw [mixed_zero]; exact hown, Below.refl _ _, fun _ _ _ => rfl⟩
    case round =>
      obtain ⟨j, hj, rfl, rfl, ho, hbl, hoth⟩ := hrel
      have HO := hide hoth
      clear hoth
      by_cases hlt : j < zs.length
      · have HL := hide (mixed_length k0 j zs (by omega))
        have ho' := ho
        unfold Own at ho'
        rw [HL.out] at ho'
        have hold := World.ownsRow.cellAt ho' j (by omega)
        rw [List.getElem?_map, List.getElem?_eq_getElem (by rw [HL.out]; exact hlt), Option.map_some] at hold
        have hfz := World.ownsRow.frozenAt ho' j
        clear ho'
        have HS := hide (mixed_set k0 j zs hlt)
        go_wp2
        go_roundw
        case rel =>
          refine ⟨j + 1, by omega, by go_num, by go_num, ?_, hbl.setCell hb _, fun h hh hne => ?_⟩
          · have := Own.stored ho HL.out j (k0 + (j : Int))
            rw [HS.out] at this
            exact this
          · rw [Below.heap_setCell _ _ _ _ hne]
            exact HO.out h hh hne
        case measure => simp [intOf]; omega
      · obtain rfl : j = zs.length := by omega
        rw [mixed_all] at ho
        go_wp2
        go_ret
        exact ⟨rfl, ho, hbl, fun h hh hne => HO.out h hh (fun e => hne _ rfl e)⟩

end Go.Proofs.Ytnakkmmmkbjfbaa
