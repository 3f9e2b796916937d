
/-
  slices.SortFunc OVER LISTS OF NUMBERS, by the shelf's contract.
-/
import Derived.Test.YtolhplakpemadaaSortL
import Derived.Test.YtolhplakpemadaaShelfS
namespace Go.Proofs.Ytolhplakpemadaa
open Go.RowKit Go.Deep
set_option linter.unusedVariables false

theorem below_sorted {α : Type} [Inhabited α] (enc : α → Value) (w : World) (g o m base : Nat) (d : Array α) (os : Array Obj) (hbg : base ≤ g) (hbs : base ≤ w.heap.size) : Below base w (Go.Proofs.sortWorld enc w g o m d os) := by
  refine ⟨rfl, rfl, rfl, ?_, fun h hh => sortWorld_get enc w g o m h d os (by omega) (by omega)⟩
  show w.heap.size ≤ ((w.heap.modify g _) ++ os).size
  rw [Array.size_append, Array.size_modify]
  omega
theorem sortRows_any (w : World) (base g c : Nat) (L : List (Value × List Int)) (hne : L ≠ []) (hps : OwnPs w base (.slice (some ⟨g, 0, none⟩) L.length c) L) (hl : ∀ x ∈ L, x.2.length ≤ 17592186044416) (hsz : L.length < 4611686018427387904) (hbg : base ≤ g) (hg : g < w.heap.size) :
    Calls Try.prog 23 #[.slice (some ⟨g, 0, none⟩) L.length c, .func (.func 24) #[] #[]] w fun e w' => e = .returned (.tuple #[]) ∧
      ∃ L' : List (Value × List Int), L'.Perm L ∧ L'.Pairwise (fun x y => ¬ cmpL y.2 x.2 < 0) ∧ OwnPs w' base (.slice (some ⟨g, 0, none⟩) L.length c) L' ∧ (∀ h, h < w.heap.size → h ≠ g → w'.heap[h]? = w.heap[h]?) ∧ Below base w w' := by
  obtain ⟨x0, hx0⟩ := List.exists_mem_of_ne_nil L hne
  letI : Inhabited (RowOf L) := ⟨⟨x0, hx0⟩⟩
  have hd : L.attach.toArray.size = L.length := by simp
  have hc := cmpReads_rows w base g L (fun x hx => ⟨(hps.2.1 x hx).1, fun b hb e => (hps.2.1 x hx).2 b hb (by rw [e]; rfl)⟩) hl L.attach.toArray.size
  have h := Try.slices_SortFunc (encR L) (fun x => (hps.2.1 x.1 x.2).1.cell1) (cfR L) (swoR L) 24 #[] g 0 c L.attach.toArray w enters_cmp hc.lays (holds_rows w base g c L hps) hg (by rw [hd]; exact hsz)
  rw [hd] at h
  refine h.mono ?_
  rintro e w' ⟨rfl, d', m, os, hperm, hsort, rfl⟩
  obtain ⟨p1, _, p3⟩ := hperm
  have hs : d'.size = L.length := p1.trans hd
  have e1 : d'.extract 0 L.length = d' := by rw [← hs]; simp
  have e2 : (L.attach.toArray).extract 0 L.length = L.attach.toArray := by
    rw [Array.extract_eq_self_of_le (by rw [hd]; exact Nat.le_refl _)]
  rw [e1, e2] at p3
  have hp : (d'.toList.map Subtype.val).Perm L := by
    have h3 := p3.map Subtype.val
    rw [show (L.attach.toArray.toList) = L.attach from rfl, List.attach_map_subtype_val] at h3
    exact h3
  refine ⟨rfl, _, hp, ?_, sorted_rows w base g c m L d' os hps hs hp, fun h hh hn => sortWorld_get _ _ _ _ _ _ _ _ hh hn, below_sorted _ _ _ _ _ _ _ _ hbg (by omega)⟩
  rw [List.pairwise_map]
  refine List.pairwise_iff_getElem.2 fun i j hi hj hij => ?_
  have hi' : i < d'.size := by simpa using hi
  have hj' : j < d'.size := by simpa using hj
  have := hsort i j (Nat.zero_le _) hij (by omega)
  rw [getElem!_pos d' i hi', getElem!_pos d' j hj'] at this
  unfold Go.Proofs.ltOf cfR at this
  simpa using this
end Go.Proofs.Ytolhplakpemadaa
