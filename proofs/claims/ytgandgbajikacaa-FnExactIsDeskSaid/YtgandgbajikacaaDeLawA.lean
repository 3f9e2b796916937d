
/-
  THE WALKS OF THE LAWS OF FirstDesk AND IsDesk, the given frame left out.
-/
import Derived.Test.YtgandgbajikacaaDf
import Derived.Test.YtgandgbajikacaaGood
import Derived.Deep.RegionHeld3
namespace Go.Proofs.Ytgandgbajikacaa
open Go.RowKit Go.Deep
set_option linter.unusedVariables false

theorem One.next {w w' : World} {b : Nat} {t : TypeId} {v : Value} (h : One w b t v) (hb : Below w.heap.size w w') : One w' b t v := h.below hb h.lt
def Made3 (zs : List Int) (w : World) (e : Ending) (w' : World) : Prop :=
  ∃ g, w.heap.size ≤ g ∧ g < w'.heap.size ∧ e = .returned (.agg #[.slice (some ⟨g, 0, none⟩) 3 3]) ∧ Own w' w.heap.size 3 (.slice (some ⟨g, 0, none⟩) 3 3) zs ∧ Below w.heap.size w w'
theorem Own.at3 {w : World} {base g : Nat} {zs : List Int} (h : Own w base 3 (.slice (some ⟨g, 0, none⟩) 3 3) zs) (hl : zs.length = 3) : Ints w w.heap.size (some ⟨g, 0, none⟩) 3 zs := hl ▸ Own.ints h

set_option maxRecDepth 100000 in
theorem lawFirstDesk (w : World) :
    Calls Try.prog 3 #[] w fun e w' => e = .returned (.bool true) ∧ Below w.heap.size w w' := by
  have HF : ∃ zs : List Int, zs.length = 3 ∧ (∀ w, Calls Try.prog 6 #[] w (Made3 zs w)) ∧ (∀ w, Calls Try.prog 5 #[] w (Made3 zs w)) :=
    ⟨[5, 1, 0], rfl, FirstDesk_any, specFirstDesk_any⟩
  obtain ⟨zs, hl, HF, HS⟩ := HF
  have HL := hide hl
  have HF := hide HF
  have HS := hide HS
  clear hl
  go_enter Try.func3, Try.ntmps3
  go_wp2_with fail
  refine (HS.out w).mono ?_
  rintro e w1 ⟨g1, h1, hz1, rfl, hown1, hb1⟩
  have o1 := hide (One.made w1 24 (.slice (some ⟨g1, 0, none⟩) 3 3))
  have q1 := hide (show Below w.heap.size w (w1.alloc (.cells #[.slice (some ⟨g1, 0, none⟩) 3 3] 24)) from hb1.alloc hb1.size _)
  have p1 := hide (hown1.alloc (.cells #[.slice (some ⟨g1, 0, none⟩) 3 3] 24))
  have l1 := hide (show w1.heap.size < (w1.alloc (.cells #[.slice (some ⟨g1, 0, none⟩) 3 3] 24)).heap.size from by simp)
  have S0 := hide hb1.size
  have K1 := hide (show w.heap.size ≤ g1 ∧ g1 < (w1.alloc (.cells #[.slice (some ⟨g1, 0, none⟩) 3 3] 24)).heap.size from ⟨h1, by simp; omega⟩)
  clear hb1 hown1
  go_wp2_with fail
  refine (HF.out _).mono ?_
  rintro e w2 ⟨g2, h2, hz2, rfl, hown2, hb2⟩
  have o2 := hide (One.made w2 24 (.slice (some ⟨g2, 0, none⟩) 3 3))
  have z2 := hide (show w2.heap.size < (w2.alloc (.cells #[.slice (some ⟨g2, 0, none⟩) 3 3] 24)).heap.size from by simp)
  have b2 : Below (w1.alloc (.cells #[.slice (some ⟨g1, 0, none⟩) 3 3] 24)).heap.size (w1.alloc (.cells #[.slice (some ⟨g1, 0, none⟩) 3 3] 24)) (w2.alloc (.cells #[.slice (some ⟨g2, 0, none⟩) 3 3] 24)) := hb2.alloc hb2.size _
  have o1' := hide (o1.out.next b2)
  have q2 := hide (below_next q1.out b2)
  have p1' := hide (p1.out.below b2)
  have p2 := hide (hown2.alloc (.cells #[.slice (some ⟨g2, 0, none⟩) 3 3] 24))
  have G2 := hide (show w1.heap.size < g2 ∧ w1.heap.size < w2.heap.size from ⟨by have := l1.out; omega, by have := l1.out; have := hb2.size; omega⟩)
  have E2 := hide (hz2)
  have x1 := o1'.out.cell
  have x2 := o2.out.cell
  have base2 := hide (show (w1.alloc (.cells #[.slice (some ⟨g1, 0, none⟩) 3 3] 24)).heap.size ≤ (w2.alloc (.cells #[.slice (some ⟨g2, 0, none⟩) 3 3] 24)).heap.size from b2.size)
  have base2' := hide (show (w1.alloc (.cells #[.slice (some ⟨g1, 0, none⟩) 3 3] 24)).heap.size = w1.heap.size + 1 from by simp)
  have sz2 := hide (show (w2.alloc (.cells #[.slice (some ⟨g2, 0, none⟩) 3 3] 24)).heap.size = w2.heap.size + 1 from by simp)
  clear hb2 hown2 b2 h1 h2 hz1 hz2 o1 q1 p1
  go_wp2_with fail
  generalize (w1.alloc (.cells #[.slice (some ⟨g1, 0, none⟩) 3 3] 24)) = W1 at *
  generalize (w2.alloc (.cells #[.slice (some ⟨g2, 0, none⟩) 3 3] 24)) = W2 at *
  have B2 := base2.out
  have B2' := base2'.out
  refine (eqDesk_same (some ⟨g2, 0, none⟩) (some ⟨g1, 0, none⟩) 3 3 3 W2.heap.size W2.heap.size zs W2 (p2.out.at3 HL.out) (p1'.out.at3 HL.out) (Nat.le_refl _) (Nat.le_refl _) (by omega)).mono ?_
  rintro e w3 ⟨rfl, hb3⟩
  have q3 := hide (below_next q2.out hb3)
  have o1' := hide (o1'.out.next hb3)
  have o2 := hide (o2.out.next hb3)
  have p1' := hide (p1'.out.below hb3)
  have p2 := hide (p2.out.below hb3)
  have s3 := hide hb3.size
  have x1 := o1'.out.cell
  have x2 := o2.out.cell
  clear hb3
  go_wp2_with fail
  refine (markDesk_any W1.heap.size (some ⟨g2, 0, none⟩) 3 3 zs 1 w3 p2.out HL.out (by omega) (by omega) (by omega) (by have := s3.out; omega)).mono ?_
  rintro e w4 ⟨rfl, hown4, hb4, hoth4⟩
  have hG := G2.out
  have hs3 := s3.out
  have hs2 := sz2.out
  have hE2 := E2.out
  have hs0 := S0.out
  have b4 := hide (show Below w.heap.size w w4 from q3.out.trans (hb4.mono (by omega)))
  have bsz : w3.heap.size ≤ w4.heap.size := hb4.size
  have o1'' := hide (show One w4 w1.heap.size 24 (.slice (some ⟨g1, 0, none⟩) 3 3) from o1'.out.below hb4 (by omega))
  have o2' := hide (show One w4 w2.heap.size 24 (.slice (some ⟨g2, 0, none⟩) 3 3) from o2.out.same (hoth4 _ o2.out.lt (fun ad e => by cases e; show w2.heap.size ≠ g2; omega)))
  have m4 := hide (show Ints w4 w4.heap.size (some ⟨g2, 0, none⟩) 3 (marks 1 3) from hown4.ints)
  have p1'' := hide (show Own w4 w.heap.size 3 (.slice (some ⟨g1, 0, none⟩) 3 3) zs from by
    have h3 : w3.ownsRow _ _ _ _ _ _ := p1'.out
    refine ⟨h3.1, ?_⟩
    rcases h3.2 with h2 | ⟨g, cap, cur, hv, hb, hg, r⟩
    · exact .inl h2
    · have eg : g1 = g := by injection hv with hv; injection hv with hv; injection hv
      exact .inr ⟨g, cap, cur, hv, hb, (hb4.block g (by have := K1.out.2; omega)).trans hg, r⟩)
  have x1 := o1''.out.cell
  have x2 := o2'.out.cell
  clear hb4 hoth4 hown4 hG hs3 hs2 hE2 hs0 B2 B2' bsz
  go_wp2_with fail
  refine (heldDesk_any (some ⟨g2, 0, none⟩) 3 3 w4.heap.size 1 w4 m4.out (Nat.le_refl _) (by omega) (by omega) (by omega)).mono ?_
  rintro e w5 ⟨rfl, hb5⟩
  have q5 := hide (below_next b4.out hb5)
  have o1 := hide (o1''.out.next hb5)
  have o2 := hide (o2'.out.next hb5)
  have p1 := hide (p1''.out.below hb5)
  have m5 := hide (m4.out.next hb5)
  clear hb5
  go_wp2_with fail
  refine (HF.out _).mono ?_
  rintro e w6 ⟨g3, h3, hz3, rfl, hown6, hb6⟩
  have b6 := hide (show Below w5.heap.size w5 (w6.alloc (.cells #[.slice (some ⟨g3, 0, none⟩) 3 3] 24)) from hb6.alloc hb6.size _)
  have q6 := hide (below_next q5.out b6.out)
  have o1 := hide (o1.out.next b6.out)
  have o2 := hide (o2.out.next b6.out)
  have p1 := hide (p1.out.below b6.out)
  have m6 := hide (m5.out.next b6.out)
  have p3 := hide (hown6.alloc (.cells #[.slice (some ⟨g3, 0, none⟩) 3 3] 24))
  have o3 := hide (One.made w6 24 (.slice (some ⟨g3, 0, none⟩) 3 3))
  have x1 := o1.out.cell
  have x2 := o2.out.cell
  have x3 := o3.out.cell
  clear hb6 hown6 h3 hz3
  go_wp2_with fail
  generalize (w6.alloc (.cells #[.slice (some ⟨g3, 0, none⟩) 3 3] 24)) = W6 at *
  refine (eqDesk_same (some ⟨g3, 0, none⟩) (some ⟨g1, 0, none⟩) 3 3 3 W6.heap.size W6.heap.size zs W6 (p3.out.at3 HL.out) (p1.out.at3 HL.out) (Nat.le_refl _) (Nat.le_refl _) (by omega)).mono ?_
  rintro e w7 ⟨rfl, hb7⟩
  have q7 := hide (below_next q6.out hb7)
  have o2 := hide (o2.out.next hb7)
  have m7 := hide (m6.out.next hb7)
  have x2 := o2.out.cell
  clear hb7 x3 x1
  go_wp2_with fail
  refine (heldDesk_any (some ⟨g2, 0, none⟩) 3 3 w7.heap.size 1 w7 m7.out (Nat.le_refl _) (by omega) (by omega) (by omega)).mono ?_
  rintro e w8 ⟨rfl, hb8⟩
  have q8 := hide (below_next q7.out hb8)
  clear hb8
  go_wp2_with fail
  go_ret
  exact ⟨rfl, q8.out⟩

theorem coGood_any (A : Option Addr) (n c B : Nat) (zs : List Int) (w : World) (hr : Ints w B A n zs) (hB : B ≤ w.heap.size) (hn : n ≤ 17592186044416) :
    Calls Try.prog 18 #[.agg #[.slice A n c]] w fun e w' => e = .returned (.bool (good zs)) ∧ Below w.heap.size w w' := by
  have HG := hide (fun W (h : Below w.heap.size w W) => hpGood_any A n c B zs W (hr.below h hB) hn)
  have hb1 := hide (show Below w.heap.size w (w.alloc (.cells #[.slice A n c] 24)) from (Below.refl _ _).alloc (Nat.le_refl _) _)
  clear hr
  go_enter Try.func18, Try.ntmps18
  go_wp2_with fail
  refine (HG.out _ hb1.out).mono ?_; rintro e w2 ⟨rfl, rfl⟩
  go_wp2_with fail
  go_ret
  exact ⟨rfl, hb1.out⟩

theorem IsDesk_any (A : Option Addr) (n c B : Nat) (zs : List Int) (w : World) (hr : Ints w B A n zs) (hB : B ≤ w.heap.size) (hn : n ≤ 17592186044416) :
    Calls Try.prog 13 #[.agg #[.slice A n c]] w fun e w' => e = .returned (.bool (good zs)) ∧ Below w.heap.size w w' := by
  have HG := hide (fun W (h : Below w.heap.size w W) => AreHeaps_any A n c B zs W (hr.below h hB) hn)
  have hb1 := hide (show Below w.heap.size w (w.alloc (.cells #[.slice A n c] 24)) from (Below.refl _ _).alloc (Nat.le_refl _) _)
  clear hr
  go_enter Try.func13, Try.ntmps13
  go_wp2_with fail
  refine (HG.out _ hb1.out).mono ?_; rintro e w2 ⟨rfl, rfl⟩
  go_wp2_with fail
  go_ret
  exact ⟨rfl, hb1.out⟩

theorem specIsDesk_any (A : Option Addr) (n c B : Nat) (zs : List Int) (w : World) (hr : Ints w B A n zs) (hB : B ≤ w.heap.size) (hn : n ≤ 17592186044416) :
    Calls Try.prog 11 #[.agg #[.slice A n c]] w fun e w' => e = .returned (.bool (good zs)) ∧ Below w.heap.size w w' := by
  have HG := hide (fun W (h : Below w.heap.size w W) => coGood_any A n c B zs W (hr.below h hB) (Nat.le_trans hB h.size) hn)
  have hb1 := hide (show Below w.heap.size w (w.alloc (.cells #[.slice A n c] 24)) from (Below.refl _ _).alloc (Nat.le_refl _) _)
  clear hr
  go_enter Try.func11, Try.ntmps11
  go_wp2_with fail
  refine (HG.out _ hb1.out).mono ?_; rintro e w2 ⟨rfl, hb2⟩
  have hb3 := hide (hb1.out.trans (hb2.mono hb1.out.size))
  clear hb2
  go_wp2_with fail
  go_ret
  exact ⟨rfl, hb3.out⟩

set_option maxRecDepth 100000 in
theorem lawIsDesk (A : Option Addr) (n c : Nat) (zs : List Int) (w : World) (hr : Ints w w.heap.size A n zs) (hmax : n ≤ 9223372036854775807) :
    Calls Try.prog 4 #[.agg #[.slice A n c]] w fun e w' => e = .returned (.bool true) ∧ Below w.heap.size w w' := by
  obtain rfl := hr.len
  have KB := hide (show Below w.heap.size w (w.alloc (.cells #[.slice A zs.length c] 29)) from (Below.refl _ _).alloc (Nat.le_refl _) _)
  have KX := hide (One.made w 29 (.slice A zs.length c))
  have HZ := hide (fun W => szDesk_any A zs.length c 1048576 W hmax (by omega) (by omega))
  by_cases hbig : (1048576 : Int) < zs.length
  · rw [if_pos hbig] at HZ
    clear hbig
    go_enter Try.func4, Try.ntmps4
    go_wp2_with fail
    refine (HZ.out _).mono ?_; rintro e w1 ⟨rfl, hb1⟩
    go_wp2_with fail
    go_ret
    exact ⟨rfl, KB.out.trans (hb1.mono KB.out.size)⟩
  · rw [if_neg hbig] at HZ
    have hlt : ¬ ((1048576 : Int) - (zs.length : Int) < 0) := by omega
    have hcap : zs.length ≤ 17592186044416 := by omega
    have HS := hide (fun B g c W (h : Ints W B (some ⟨g, 0, none⟩) zs.length zs) hB => specIsDesk_any (some ⟨g, 0, none⟩) zs.length c B zs W h hB hcap)
    have HI := hide (fun B g c W (h : Ints W B (some ⟨g, 0, none⟩) zs.length zs) hB => IsDesk_any (some ⟨g, 0, none⟩) zs.length c B zs W h hB hcap)
    generalize good zs = a0 at *
    have e0 : (a0 == a0) = true := by simp
    have n0 : (a0 != a0) = false := by simp
    go_enter Try.func4, Try.ntmps4
    go_wp2_with fail
    refine (HZ.out _).mono ?_; rintro e w1 ⟨rfl, hb1⟩
    have r1 := hide hb1
    have q1 := hide (KB.out.trans (hb1.mono KB.out.size))
    have x0 := (KX.out.next hb1).cell
    clear hb1 HZ
    go_wp2_with fail
    refine (toDesk_any _ _ _ _ _ (hr.next q1.out) hcap).mono ?_
    rintro e w2 ⟨g1, _, hz1, rfl, hrow1, hb2⟩
    have r2 := hide (below_next r1.out hb2)
    have q2 := hide (below_next q1.out hb2)
    clear hb2 x0
    go_wp2_with fail
    refine (HS.out _ _ _ _ (hrow1.ints hz1) (Nat.le_refl _)).mono ?_
    rintro e w3 ⟨rfl, hb3⟩
    have r3 := hide (below_next r2.out hb3)
    have q3 := hide (below_next q2.out hb3)
    have x0 := (KX.out.next r3.out).cell
    clear hb3 hrow1 hz1 HS
    go_wp2_with fail
    refine (toDesk_any _ _ _ _ _ (hr.next q3.out) hcap).mono ?_
    rintro e w4 ⟨g2, _, hz2, rfl, hrow2, hb4⟩
    have b4 : Below w4.heap.size w4 (w4.alloc (.cells #[.slice (some ⟨g2, 0, none⟩) zs.length zs.length] 24)) := (Below.refl _ _).alloc (Nat.le_refl _) _
    have Y4 := hide (One.made w4 24 (.slice (some ⟨g2, 0, none⟩) zs.length zs.length))
    have hx4 := hide ((hrow2.ints hz2).next b4)
    have r4 := hide (below_next (below_next r3.out hb4) b4)
    have q4 := hide (below_next (below_next q3.out hb4) b4)
    clear hb4 hrow2 hz2 x0 b4
    go_wp2_with fail
    refine (HI.out _ _ _ _ hx4.out (Nat.le_refl _)).mono ?_
    rintro e w5 ⟨rfl, hb5⟩
    have hx5 := hx4.out.next hb5
    have r5 := hide (below_next r4.out hb5)
    have q5 := hide (below_next q4.out hb5)
    have Y5 := hide (Y4.out.next hb5)
    have HS5 := hide (fun W (h : Below w5.heap.size w5 W) => And.intro h (And.intro (Y5.out.next h).cell (KX.out.next (below_next r5.out h)).cell))
    have HTC := hide (fun W (h : Below w5.heap.size w5 W) => toDesk_any A zs.length c zs W (hr.next (below_next q5.out h)) hcap)
    have HEQ := hide (fun W (h : Below w5.heap.size w5 W) g (h' : Ints W W.heap.size (some ⟨g, 0, none⟩) zs.length zs) => eqDesk_same (some ⟨g2, 0, none⟩) (some ⟨g, 0, none⟩) zs.length zs.length zs.length _ _ zs W (hx5.next h) h' (Nat.le_refl _) (Nat.le_refl _) hcap)
    clear hb5 hx4 HI
    go_wp2_with fail
    first | go_region_held3 (fun W => Below w5.heap.size w5 W ∧ W.cell? ⟨w4.heap.size, 0, none⟩ = some (.slice (some ⟨g2, 0, none⟩) zs.length zs.length) ∧
          W.cell? ⟨w.heap.size, 0, none⟩ = some (.slice A zs.length c))
      (first | exact HS5.out _ (Below.refl _ _).drew | exact HS5.out _ (below_next (And.left (by assumption)) hb7) | exact HS5.out _ (below_next (And.left (by assumption)) hb6) | go_keep)
      (first
      | (go_at_call 12; (with_reducible refine (HTC.out _ (And.left (by assumption))).mono ?_); rintro e w6 ⟨g3, _, hz3, rfl, hrow3, hb6⟩)
      | (go_at_call 7; (with_reducible refine (HEQ.out _ (And.left (by assumption)) _ (hrow3.ints hz3)).mono ?_); rintro e w7 ⟨rfl, hb7⟩)) | fail
    have hB7 : Below w5.heap.size w5 w7 := And.left (by assumption : Below w5.heap.size w5 w7 ∧ _)
    have q7 := hide (below_next q5.out hB7)
    clear hb7 hB7 HTC HEQ HS5
    go_wp2_with fail
    go_ret
    exact ⟨rfl, q7.out⟩
end Go.Proofs.Ytgandgbajikacaa
