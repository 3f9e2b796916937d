
/-
  THE WALKS OF EXACT LAWS OVER TWO LISTS WHOSE RESULT IS A LIST OF NUMBERS, the given frame left out: for all numbers the law returns true and writes nothing that was there.
-/
import Derived.Test.YtcfofofhdbnlaaaLaws0
import Derived.Test.YtcfofofhdbnlaaaMark
import Derived.Test.YtcfofofhdbnlaaaLnX
import Derived.Test.YtcfofofhdbnlaaaLnW
namespace Go.Proofs.Ytcfofofhdbnlaaa
open Go.RowKit Go.Deep

set_option maxRecDepth 100000 in
set_option maxHeartbeats 1000000 in
theorem lawFireInOrder (A : Option Addr) (n c : Nat) (zs : List Int) (A' : Option Addr) (n' c' : Nat) (ys : List Int) (w : World) (hr : Ints w w.heap.size A n zs) (hs : Ints w w.heap.size A' n' ys) :
    Calls Try.prog 6 #[.slice A n c, .slice A' n' c'] w fun e w' => e = .returned (.bool true) ∧ Below w.heap.size w w' := by
  obtain rfl := hr.len
  obtain rfl := hs.len
  by_cases hbig : 1048576 < zs.length
  · go_enter Try.func6, Try.ntmps6
    go_wp2_with fail
    go_ret
    exact ⟨rfl, Below.refl _ _⟩
  by_cases hbig2 : 1048576 < ys.length
  · go_enter Try.func6, Try.ntmps6
    go_wp2_with fail
    go_ret
    exact ⟨rfl, Below.refl _ _⟩
  have hcap : zs.length ≤ 17592186044416 := by omega
  have hcap2 : ys.length ≤ 17592186044416 := by omega
  have hF : (ordR zs ys).length ≤ 1048576 := ordR_short zs ys (by omega)
  have HS := hide (fun A n c A' n' c' B B' w (h1 : Ints w B A n zs) (h2 : Ints w B' A' n' ys) (h3 : B ≤ w.heap.size) (h4 : B' ≤ w.heap.size) (h5 : n ≤ 17592186044416) (h6 : n' ≤ 17592186044416) => specFireInOrder_any A A' n c n' c' B B' zs ys w h1 h2 h3 h4 h5 h6)
  have HI := hide (fun A n c A' n' c' B B' w (h1 : Ints w B A n zs) (h2 : Ints w B' A' n' ys) (h3 : B ≤ w.heap.size) (h4 : B' ≤ w.heap.size) (h5 : n ≤ 17592186044416) (h6 : n' ≤ 17592186044416) => FireInOrder_any A A' n c n' c' B B' zs ys w h1 h2 h3 h4 h5 h6)
  generalize ordR zs ys = fs at *
  generalize ordOk zs ys = bs at *
  go_enter Try.func6, Try.ntmps6
  -- the model's answer
  go_wp2_with fail
  refine (toIntS_any _ _ _ _ _ hr hcap).mono ?_
  rintro e w1 ⟨g1, _, hz1, rfl, hrow1, hb1⟩
  have hr1 := hr.below hb1 (Nat.le_refl _)
  have hs1 := hs.below hb1 (Nat.le_refl _)
  have hx1 := hrow1.ints hz1
  have s1 := hb1.size
  go_wp2_with fail
  refine (toIntS_any _ _ _ _ _ (hs1.more s1) hcap2).mono ?_
  rintro e w1b ⟨g1b, _, hz1b, rfl, hrow1b, hb1b⟩
  have hr1b := hr1.below hb1b s1
  have hs1b := hs1.below hb1b s1
  have hx1b := hx1.below hb1b (Nat.le_refl _)
  have s1b := hb1b.size
  go_wp2_with fail
  refine (HS.out _ _ _ _ _ _ _ _ _ hx1b (hrow1b.ints hz1b) s1b (Nat.le_refl _) (by omega) (by omega)).mono ?_
  rintro e w2 ⟨Aw, cw, rfl, hw1, hw2, hownw, hb2⟩
  have q2 := below_next (below_next hb1 hb1b) hb2
  have hr2 := hr.below q2 (Nat.le_refl _)
  have hs2 := hs.below q2 (Nat.le_refl _)
  have hW2 := hownw.ints
  have s2 := hb2.size
  have t2 := q2.size
  clear hr1 hs1 hx1 hr1b hs1b hx1b hb1 hb1b hb2 hrow1 hrow1b
  -- the program's
  go_wp2_with fail
  refine (toIntS_any _ _ _ _ _ (hr2.more t2) hcap).mono ?_
  rintro e w3 ⟨g2, ha2, hz2, rfl, hrow2, hb3⟩
  have hr3 := hr2.below hb3 t2
  have hs3 := hs2.below hb3 t2
  have hW3 := hW2.below hb3 (Nat.le_refl _)
  have hX3 := Own.of_row hrow2 ha2 (by unfold maxLen; omega)
  have s3 := hb3.size
  go_wp2_with fail
  refine (toIntS_any _ _ _ _ _ (hs3.more (by omega)) hcap2).mono ?_
  rintro e w3b ⟨g2b, ha2b, hz2b, rfl, hrow2b, hb3b⟩
  have hr3b := hr3.below hb3b (by omega)
  have hs3b := hs3.below hb3b (by omega)
  have hW3b := hW3.below hb3b s3
  have hX3b := hX3.below hb3b
  have hY3b := Own.of_row hrow2b ha2b (by unfold maxLen; omega)
  have s3b := hb3b.size
  go_wp2_with fail
  refine (HI.out _ _ _ _ _ _ _ _ _ hX3b.ints (hrow2b.ints hz2b) (Nat.le_refl _) (Nat.le_refl _) (by omega) (by omega)).mono ?_
  rintro e w4 ⟨Ag, cg, rfl, hg1, hg2, hG4, hb4⟩
  have hr4 := hr3b.below hb4 (by omega)
  have hs4 := hs3b.below hb4 (by omega)
  have hW4 := hW3b.below hb4 (by omega)
  have hX4 := hX3b.below hb4
  have hY4 := hY3b.below hb4
  have s4 := hb4.size
  have q4 := below_next (below_next (below_next q2 hb3) hb3b) hb4
  clear hr2 hs2 hr3 hs3 hr3b hs3b hW2 hW3 hW3b hX3 hX3b hY3b hb3 hb3b hb4 hrow2 hrow2b q2
  -- they are the same, and the arguments' copies are as they were
  go_wp2_with fail
  refine (eqIntS_same _ _ _ _ _ _ _ _ _ hG4.ints hW4 (Nat.le_refl _) (by omega) (by omega)).mono ?_
  rintro e w5 ⟨rfl, hb5⟩
  have hr5 := hr4.below hb5 (by omega)
  have hs5 := hs4.below hb5 (by omega)
  have hW5 := hW4.below hb5 (by omega)
  have hX5 := hX4.below hb5
  have hY5 := hY4.below hb5
  have hG5 := hG4.below hb5
  have s5 := hb5.size
  go_wp2_with fail
  refine (toIntS_any _ _ _ _ _ (hr5.more (by omega)) hcap).mono ?_
  rintro e w6 ⟨g3, _, hz3, rfl, hrow3, hb6⟩
  have hr6 := hr5.below hb6 (by omega)
  have hs6 := hs5.below hb6 (by omega)
  have hW6 := hW5.below hb6 (by omega)
  have hX6 := hX5.below hb6
  have hY6 := hY5.below hb6
  have hG6 := hG5.below hb6
  have s6 := hb6.size
  go_wp2_with fail
  refine (eqIntS_same _ _ _ _ _ _ _ _ _ hX6.ints (hrow3.ints hz3) (Nat.le_refl _) (Nat.le_refl _) (by omega)).mono ?_
  rintro e w7 ⟨rfl, hb7⟩
  have hr7 := hr6.below hb7 (by omega)
  have hs7 := hs6.below hb7 (by omega)
  have hW7 := hW6.below hb7 (by omega)
  have hX7 := hX6.below hb7
  have hY7 := hY6.below hb7
  have hG7 := hG6.below hb7
  have s7 := hb7.size
  go_wp2_with fail
  refine (toIntS_any _ _ _ _ _ (hs7.more (by omega)) hcap2).mono ?_
  rintro e w6b ⟨g3b, _, hz3b, rfl, hrow3b, hb6b⟩
  have hr6b := hr7.below hb6b (by omega)
  have hs6b := hs7.below hb6b (by omega)
  have hW6b := hW7.below hb6b (by omega)
  have hX6b := hX7.below hb6b
  have hY6b := hY7.below hb6b
  have hG6b := hG7.below hb6b
  have s6b := hb6b.size
  go_wp2_with fail
  refine (eqIntS_same _ _ _ _ _ _ _ _ _ hY6b.ints (hrow3b.ints hz3b) (Nat.le_refl _) (Nat.le_refl _) (by omega)).mono ?_
  rintro e w7b ⟨rfl, hb7b⟩
  have hr7b := hr6b.below hb7b (by omega)
  have hs7b := hs6b.below hb7b (by omega)
  have hW7b := hW6b.below hb7b (by omega)
  have hX7b := hX6b.below hb7b
  have hY7b := hY6b.below hb7b
  have hG7b := hG6b.below hb7b
  have s7b := hb7b.size
  have q7 := below_next (below_next (below_next (below_next (below_next q4 hb5) hb6) hb7) hb6b) hb7b
  have t7 := q7.size
  clear hr4 hs4 hr5 hs5 hr6 hs6 hr7 hs7 hr6b hs6b hW4 hW5 hW6 hW7 hW6b hX4 hX5 hX6 hX7 hX6b hY4 hY5 hY6 hY7 hY6b hG4 hG5 hG6 hG7 hG6b hrow3 hrow3b hb5 hb6 hb7 hb6b hb7b q4
  -- the arguments' copies are marked: the answer stays
  go_wp2_with fail
  refine (markIntS_any _ _ _ _ _ _ _ hX7b rfl (by omega) (by omega) (by omega)).mono ?_
  rintro e w8 ⟨rfl, _, hb8, hoth8⟩
  have q8 := q7.trans (hb8.mono (by omega))
  have hr8 := hr7b.below hb8 (by omega)
  have hs8 := hs7b.below hb8 (by omega)
  have hW8 := hW7b.below hb8 (Nat.le_refl _)
  have hG8 : Own w8 w3b.heap.size 3 (.slice Ag fs.length cg) fs := hG7b.keep fun h hh hl => hoth8 h hl (fun ad hA e => by injection hA with hA; subst hA; simp at e; omega)
  have hY8 : Own w8 w3.heap.size 3 (.slice (some ⟨g2b, 0, none⟩) ys.length ys.length) ys := hY7b.keep fun h hh hl => hoth8 h hl (fun ad hA e => by injection hA with hA; subst hA; simp at e; omega)
  have s8 := hb8.size
  clear hoth8 hb8 hr7b hs7b hW7b hG7b hY7b hX7b q7
  go_wp2_with fail
  refine (markIntS_any _ _ _ _ _ _ _ hY8 rfl (by omega) (by omega) (by omega)).mono ?_
  rintro e w8b ⟨rfl, _, hb8b, hoth8b⟩
  have q8b := q8.trans (hb8b.mono (by omega))
  have hr8b := hr8.below hb8b (by omega)
  have hs8b := hs8.below hb8b (by omega)
  have hW8b := hW8.below hb8b (by omega)
  have hG8b : Own w8b w3b.heap.size 3 (.slice Ag fs.length cg) fs := hG8.keep fun h hh hl => hoth8b h hl (fun ad hA e => by injection hA with hA; subst hA; simp at e; omega)
  have s8b := hb8b.size
  clear hoth8b hb8b hr8 hs8 hW8 hG8 hY8 q8
  go_wp2_with fail
  refine (eqIntS_same _ _ _ _ _ _ _ _ _ hG8b.ints hW8b (Nat.le_refl _) (by omega) (by omega)).mono ?_
  rintro e w9 ⟨rfl, hb9⟩
  have hr9 := hr8b.below hb9 (by omega)
  have hs9 := hs8b.below hb9 (by omega)
  have hW9 := hW8b.below hb9 (by omega)
  have hG9 := hG8b.below hb9
  have q9 := below_next q8b hb9
  have s9 := hb9.size
  -- the answer is marked, and bears its marks
  go_wp2_with fail
  refine (markIntS_any _ _ _ _ _ _ _ hG9 rfl (by omega) (by omega) (by omega)).mono ?_
  rintro e w10 ⟨rfl, hG10, hb10, _⟩
  have hr10 := hr9.below hb10 (by omega)
  have hs10 := hs9.below hb10 (by omega)
  have hW10 := hW9.below hb10 (by omega)
  have q10 := q9.trans (hb10.mono (by omega))
  have s10 := hb10.size
  clear hr8b hs8b hW8b hG8b hr9 hs9 hW9 hG9 hb9 hb10 q8b q9
  go_wp2_with fail
  refine (heldIntS_any _ _ _ _ _ _ (by simpa [marks_length] using hG10.ints) (by omega) (by omega) (by omega)).mono ?_
  rintro e w' ⟨rfl, rfl⟩
  -- another call answers the same and leaves the marks alone
  go_wp2_with fail
  refine (toIntS_any _ _ _ _ _ (hr10.more (by omega)) hcap).mono ?_
  rintro e w11 ⟨g4, ha4, hz4, rfl, hrow4, hb11⟩
  have hs11 := hs10.below hb11 (by omega)
  have hW11 := hW10.below hb11 (by omega)
  have hG11 := hG10.below hb11
  have hx11 := hrow4.ints hz4
  have s11 := hb11.size
  go_wp2_with fail
  refine (toIntS_any _ _ _ _ _ (hs11.more (by omega)) hcap2).mono ?_
  rintro e w11b ⟨g4b, ha4b, hz4b, rfl, hrow4b, hb11b⟩
  have hW11b := hW11.below hb11b (by omega)
  have hG11b := hG11.below hb11b
  have hx11b := hx11.below hb11b (Nat.le_refl _)
  have s11b := hb11b.size
  go_wp2_with fail
  refine (HI.out _ _ _ _ _ _ _ _ _ hx11b (hrow4b.ints hz4b) (by omega) (Nat.le_refl _) (by omega) (by omega)).mono ?_
  rintro e w12 ⟨Ah, ch, rfl, hh1, hh2, hH12, hb12⟩
  have hW12 := hW11b.below hb12 (by omega)
  have hG12 := hG11b.below hb12
  have s12 := hb12.size
  go_wp2_with fail
  refine (eqIntS_same _ _ _ _ _ _ _ _ _ hH12.ints hW12 (Nat.le_refl _) (by omega) (by omega)).mono ?_
  rintro e w13 ⟨rfl, hb13⟩
  have hG13 := hG12.below hb13
  go_wp2_with fail
  refine (heldIntS_any _ _ _ _ _ _ (by simpa [marks_length] using hG13.ints) (by omega) (by omega) (by omega)).mono ?_
  rintro e w' ⟨rfl, rfl⟩
  go_wp2_with fail
  go_ret
  exact ⟨rfl, below_next (below_next (below_next (below_next q10 hb11) hb11b) hb12) hb13⟩
end Go.Proofs.Ytcfofofhdbnlaaa
