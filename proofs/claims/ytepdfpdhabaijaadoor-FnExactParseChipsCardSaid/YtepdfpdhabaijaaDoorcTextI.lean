
/-
  THE TEXT OF HEAPS, BOTH WAYS, and the walk of its law.
-/
import Derived.Test.YtepdfpdhabaijaaDoorcTextH
import Derived.Test.YtepdfpdhabaijaaDoorCh
import Derived.Test.YtepdfpdhabaijaaDoorOwn
namespace Go.Proofs.YtepdfpdhabaijaaDoor
open Go.RowKit Go.Deep
set_option linter.unusedVariables false

def heapsT (zs : List Int) : ByteArray := if hgood zs then bs (txt zs) else ⟨#[]⟩
theorem good_z {zs : List Int} (h : hgood zs = true) : ∀ (k : Nat) (_ : k < zs.length), 0 ≤ zs[k] ∧ zs[k] < 1000000 := fun k hk => by
  have := hgood_get h k hk; omega

theorem ChipsText_any (A : Option Addr) (n c B : Nat) (zs : List Int) (w : World) (hr : Ints w B A n zs) (hB : B ≤ w.heap.size) (hn : n ≤ 17592186044416) (hT : TabP w) :
    Calls Tryd.prog 7 #[.slice A n c] w fun e w' => e = .returned (.tuple #[.string (heapsT zs), .bool (hgood zs)]) ∧ Below w.heap.size w w' := by
  obtain rfl := hr.len
  have HG := hide (AreChips_any A zs.length c B zs w hr hn)
  cases hg : hgood zs
  · have H := hide (show heapsT zs = ⟨#[]⟩ from by unfold heapsT; rw [hg]; rfl)
    rw [hg] at HG
    rw [H.out]
    clear hg hT
    go_enter Tryd.func7, Tryd.ntmps7
    go_wp2_with fail
    refine HG.out.mono ?_; rintro e w' ⟨rfl, rfl⟩
    go_wp2_with fail
    go_ret2
    exact ⟨rfl, Below.refl _ _⟩
  · have H := hide (show heapsT zs = bs (txt zs) from by unfold heapsT; rw [hg]; rfl)
    have HJ := hide (joinNumbers_any A zs.length c B zs w hr hB (by have := (hgood_of hg).2.1; omega) (good_z hg) hT)
    rw [hg] at HG
    rw [H.out]
    generalize bs (txt zs) = t at *
    clear hg hT
    go_enter Tryd.func7, Tryd.ntmps7
    go_wp2_with fail
    refine HG.out.mono ?_; rintro e w' ⟨rfl, rfl⟩
    go_wp2_with fail
    refine HJ.out.mono ?_; rintro e w' ⟨rfl, hb⟩
    go_wp2_with fail
    go_ret2
    exact ⟨rfl, hb⟩

theorem specChipsText_any (A : Option Addr) (n c B : Nat) (zs : List Int) (w : World) (hr : Ints w B A n zs) (hB : B ≤ w.heap.size) (hn : n ≤ 17592186044416) :
    Calls Tryd.prog 5 #[.slice A n c] w fun e w' => e = .returned (.tuple #[.string (heapsT zs), .bool (hgood zs)]) ∧ Below w.heap.size w w' := by
  obtain rfl := hr.len
  have HG := hide (chGood_any A zs.length c B zs w hr hn)
  cases hg : hgood zs
  · have H := hide (show heapsT zs = ⟨#[]⟩ from by unfold heapsT; rw [hg]; rfl)
    rw [hg] at HG
    rw [H.out]
    clear hg
    go_enter Tryd.func5, Tryd.ntmps5
    go_wp2_with fail
    refine HG.out.mono ?_; rintro e w' ⟨rfl, rfl⟩
    go_wp2_with fail
    go_ret2
    exact ⟨rfl, Below.refl _ _⟩
  · have H := hide (show heapsT zs = bs (txt zs) from by unfold heapsT; rw [hg]; rfl)
    have HJ := hide (chText_any A zs.length c B zs w hr hB (by have := (hgood_of hg).2.1; omega) (good_z hg))
    rw [hg] at HG
    rw [H.out]
    generalize bs (txt zs) = t at *
    clear hg
    go_enter Tryd.func5, Tryd.ntmps5
    go_wp2_with fail
    refine HG.out.mono ?_; rintro e w' ⟨rfl, rfl⟩
    go_wp2_with fail
    refine HJ.out.mono ?_; rintro e w' ⟨rfl, hb⟩
    go_wp2_with fail
    go_ret2
    exact ⟨rfl, hb⟩

theorem lawChipsText (A : Option Addr) (n c : Nat) (zs : List Int) (w : World) (hr : Ints w w.heap.size A n zs) (hT : TabP w) :
    Calls Tryd.prog 3 #[.slice A n c] w fun e w' => e = .returned (.bool true) ∧ Below w.heap.size w w' := by
  obtain rfl := hr.len
  by_cases hbig : 1048576 < zs.length
  · clear hT
    go_enter Tryd.func3, Tryd.ntmps3
    go_wp2_with fail
    go_ret
    exact ⟨rfl, Below.refl _ _⟩
  · have hcap : zs.length ≤ 17592186044416 := by omega
    have HS := hide (fun (g : Nat) (B : Nat) (W : World) (h1 : Ints W B (some ⟨g, 0, none⟩) zs.length zs) (h2 : B ≤ W.heap.size) => specChipsText_any (some ⟨g, 0, none⟩) zs.length zs.length B zs W h1 h2 hcap)
    have HI := hide (fun (g : Nat) (B : Nat) (W : World) (h1 : Ints W B (some ⟨g, 0, none⟩) zs.length zs) (h2 : B ≤ W.heap.size) (h3 : TabP W) => ChipsText_any (some ⟨g, 0, none⟩) zs.length zs.length B zs W h1 h2 hcap h3)
    have HT := hide hT
    clear hT
    generalize heapsT zs = t at *
    generalize hgood zs = o at *
    have e2 : (o != o) = false := by simp
    go_enter Tryd.func3, Tryd.ntmps3
    go_wp2_with fail
    refine (toIntS_any _ _ _ _ _ hr hcap).mono ?_
    rintro e w1 ⟨g1, _, hz1, rfl, hrow1, hb1⟩
    have hr1 := hr.next hb1
    go_wp2_with fail
    refine (HS.out _ _ _ (hrow1.ints hz1) (Nat.le_refl _)).mono ?_
    rintro e w2 ⟨rfl, hb2⟩
    have hr2 := hr1.next hb2
    go_wp2_with fail
    refine (toIntS_any _ _ _ _ _ hr2 hcap).mono ?_
    rintro e w3 ⟨g2, _, hz2, rfl, hrow2, hb3⟩
    have hr3 := hr2.next hb3
    have hx3 := hrow2.ints hz2
    go_wp2_with fail
    refine (HI.out _ _ _ hx3 (Nat.le_refl _) (((HT.out.next hb1).next hb2).next hb3)).mono ?_
    rintro e w4 ⟨rfl, hb4⟩
    have hr4 := hr3.next hb4
    have hx4 := hx3.next hb4
    go_wp2_with fail
    refine (toIntS_any _ _ _ _ _ hr4 hcap).mono ?_
    rintro e w5 ⟨g3, _, hz3, rfl, hrow3, hb5⟩
    have hx5 := hx4.next hb5
    go_wp2_with fail
    refine (eqIntS_same _ _ _ _ _ _ _ _ _ hx5 (hrow3.ints hz3) (Nat.le_refl _) (Nat.le_refl _) (by omega)).mono ?_
    rintro e w6 ⟨rfl, hb6⟩
    go_wp2_with fail
    go_ret
    exact ⟨rfl, below_next (below_next (below_next (below_next (below_next hb1 hb2) hb3) hb4) hb5) hb6⟩
end Go.Proofs.YtepdfpdhabaijaaDoor
