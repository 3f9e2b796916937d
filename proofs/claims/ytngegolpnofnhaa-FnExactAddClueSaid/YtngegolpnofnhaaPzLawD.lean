
/-
  THE WALKS OF EXACT LAWS OVER A PUZZLE, the given frame left out: for every puzzle the law returns true and writes nothing that was there. (Printed by pzlaw.py.)
-/
import Derived.Test.YtngegolpnofnhaaLaws0
import Derived.Test.YtngegolpnofnhaaMark
import Derived.Test.YtngegolpnofnhaaPzL
import Derived.Deep.RegionHeld3
import Derived.Deep.Cut
import Derived.Test.YtngegolpnofnhaaPzAe
namespace Go.Proofs.Ytngegolpnofnhaa
open Go.RowKit Go.Deep
set_option linter.unusedVariables false

/-- WHAT LIES BEHIND A CALL WHOSE PUZZLE IS LAID INTO A NEW BOX. -/
def CutP (V : World) (T : TypeId) (fs : List Cl) (fu : Int) (bb : Bool) (x y : Value) (wc : World) : Prop :=
  ∃ b A c, x = .pointer (some ⟨b, 0, none⟩) ∧ y = .bool bb ∧ V.heap.size ≤ b ∧ b < wc.heap.size ∧ Bx wc b T (.int .i64 fu) (.slice A fs.length c) ∧ OwnICl wc V.heap.size (.slice A fs.length c) fs.length (numsCl fs) ∧
    (∀ ad : Addr, A = some ad → ad.block ≠ b ∧ ad.block < wc.heap.size) ∧ Below V.heap.size V wc
theorem ownQ_put {w : World} {base n c b : Nat} {A : Option Addr} {xs : List Int} (h : OwnICl w base (.slice A n c) n xs) (hne : ∀ ad : Addr, A = some ad → ad.block ≠ b) (x y : Value) :
    OwnICl ((w.setCell ⟨b, 0, none⟩ x).setCell ⟨b, 1, none⟩ y) base (.slice A n c) n xs := by
  rcases h.1.2 with h2 | ⟨g, cap, cur, hv, hb, hg, r⟩
  · exact ⟨⟨h.1.1, .inl h2⟩, h.2⟩
  · injection hv with hA _ _
    have hgb := hne _ hA
    refine ⟨⟨h.1.1, .inr ⟨g, cap, cur, by rw [hA]; congr, hb, ?_, r⟩⟩, h.2⟩
    rw [Below.heap_setCell _ _ _ _ (by simpa using hgb), Below.heap_setCell _ _ _ _ (by simpa using hgb)]
    exact hg


set_option maxRecDepth 100000 in
set_option maxHeartbeats 4000000 in
theorem lawAddClue (A : Option Addr) (n c : Nat) (cs : List Cl) (u : Int) (d : Cl) (w : World) (hr : Cls w w.heap.size A n cs) (hmax : n ≤ 9223372036854775807) :
    Calls Try.prog 6 #[.agg #[.int .i64 u, .slice A n c], .agg #[.int .i64 d.x0, .int .i64 d.x1, .int .i64 d.x2, .int .i64 d.x3]] w fun e w' => e = .returned (.bool true) ∧ Below w.heap.size w w' := by
  obtain rfl := hr.len
  have KB := hide (show Below w.heap.size w ((w.alloc (.cells #[.int .i64 u, .slice A cs.length c] 24)).alloc (.cells #[.int .i64 d.x0, .int .i64 d.x1, .int .i64 d.x2, .int .i64 d.x3] 38)) from ((Below.refl _ _).alloc (Nat.le_refl _) _).alloc (by simp) _)
  have KX := hide ((Bx.new w 24 (.int .i64 u) (.slice A cs.length c)).alloc (.cells #[.int .i64 d.x0, .int .i64 d.x1, .int .i64 d.x2, .int .i64 d.x3] 38))
  have KC := hide (show CBox ((w.alloc (.cells #[.int .i64 u, .slice A cs.length c] 24)).alloc (.cells #[.int .i64 d.x0, .int .i64 d.x1, .int .i64 d.x2, .int .i64 d.x3] 38)) (w.heap.size + 1) 38 d from by have h := CBox.new (w.alloc (.cells #[.int .i64 u, .slice A cs.length c] 24)) 38 d; simpa using h)
  have HZ := hide (fun W => szPuzzle_any A cs.length c u 1048576 W hmax (by omega) (by omega))
  by_cases hbig : (1048576 : Int) < cs.length
  · rw [if_pos hbig] at HZ
    clear hbig
    go_enter Try.func6, Try.ntmps6
    go_wp2_with fail
    refine (HZ.out _).mono ?_; rintro e w1 ⟨rfl, hb1⟩
    go_wp2_with fail
    go_ret
    exact ⟨rfl, KB.out.trans (hb1.mono KB.out.size)⟩
  · rw [if_neg hbig] at HZ
    have hlt : ¬ ((1048576 : Int) - (cs.length : Int) < 0) := by omega
    have hcap : cs.length ≤ 17592186044416 := by omega
    have hcap2 : cs.length ≤ 1099511627776 := by omega
    have hlow : cs.length ≤ 1048576 := by omega
    have HSP := hide (fun g W (h : Cls W W.heap.size (some ⟨g, 0, none⟩) cs.length cs) => specAddClue_any (some ⟨g, 0, none⟩) cs.length cs.length W.heap.size cs u d W h (Nat.le_refl _) hcap (Nat.le_refl _) (by unfold maxLen; omega) (by simp))
    have HIM := hide (fun g W (h : Cls W W.heap.size (some ⟨g, 0, none⟩) cs.length cs) => AddClue_any (some ⟨g, 0, none⟩) cs.length cs.length W.heap.size cs u d W h (Nat.le_refl _) hcap (Nat.le_refl _) (by unfold maxLen; omega) (by simp))
    have hF : (addL u cs d).length ≤ 1048576 := addL_len u cs d
    generalize addL u cs d = fs at *
    generalize addU u cs d = fu at *
    generalize addOk u cs d = bb at *
    have nb : (bb != bb) = false := by simp
    have HR := hide hr
    clear hr hbig hmax
    go_enter Try.func6, Try.ntmps6
    have S0 := hide KB.out.size
    have S00 := hide (show ((w.alloc (.cells #[.int .i64 u, .slice A cs.length c] 24)).alloc (.cells #[.int .i64 d.x0, .int .i64 d.x1, .int .i64 d.x2, .int .i64 d.x3] 38)).heap.size = w.heap.size + 2 from by simp)
    have xX0 := KX.out.c0
    have xX1 := KX.out.c1
    go_wp2_with fail
    refine (HZ.out _).mono ?_
    rintro e w1 ⟨rfl, hb1⟩
    clear xX0 xX1
    have S1 := hide (hb1).size
    have q := hide (below_next KB.out hb1)
    replace KX := hide (KX.out.next hb1)
    replace KC := hide (KC.out.next hb1)
    clear hb1
    go_upto_region 5 with fail
    go_cut [6, 7] from 16 (fun x y wc => CutP w1 29 fs fu bb x y wc)
    case first =>
      have HSK : Hid (∀ W, Below w1.heap.size w1 W → (fun W => W.cell? ⟨w.heap.size, 0, none⟩ = some (.int .i64 u) ∧ W.cell? ⟨w.heap.size, 1, none⟩ = some (.slice A cs.length c) ∧ W.cell? ⟨w.heap.size + 1, 0, none⟩ = some (.int .i64 d.x0) ∧ W.cell? ⟨w.heap.size + 1, 1, none⟩ = some (.int .i64 d.x1) ∧ W.cell? ⟨w.heap.size + 1, 2, none⟩ = some (.int .i64 d.x2) ∧ W.cell? ⟨w.heap.size + 1, 3, none⟩ = some (.int .i64 d.x3)) W) := hide (fun W h => ⟨(KX.out.next h).c0, (KX.out.next h).c1, (KC.out.next h).c0, (KC.out.next h).c1, (KC.out.next h).c2, (KC.out.next h).c3⟩)
      have HTC := hide (fun W => toClue_any d W)
      have HTP := hide (fun W (h : Below w1.heap.size w1 W) => toPuzzle_any A cs.length c cs u W ((HR.out.below (below_next q.out h) (Nat.le_refl _)).more (below_next q.out h).size) hcap2)
      refine wp_region_held_drew (S := (fun W => W.cell? ⟨w.heap.size, 0, none⟩ = some (.int .i64 u) ∧ W.cell? ⟨w.heap.size, 1, none⟩ = some (.slice A cs.length c) ∧ W.cell? ⟨w.heap.size + 1, 0, none⟩ = some (.int .i64 d.x0) ∧ W.cell? ⟨w.heap.size + 1, 1, none⟩ = some (.int .i64 d.x1) ∧ W.cell? ⟨w.heap.size + 1, 2, none⟩ = some (.int .i64 d.x2) ∧ W.cell? ⟨w.heap.size + 1, 3, none⟩ = some (.int .i64 d.x3))) (by kernel_rfl) ?_ (fun hHeld => ?_)
      · exact HSK.out _ (Below.refl _ _).drew
      have FB := hide (show Below w1.heap.size w1 w1.drew from (Below.refl _ _).drew)
      refine wpAnyH_take (i := 0) (v := ?_) rfl (by kernel_rfl) (by kernel_rfl) (by kernel_rfl) (fun _ _ _ h => h) (Or.inl ⟨by rfl, ?_⟩) (by assumption) ?_
      rotate_left
      · (intro w hSw; (try dsimp only at hSw); go_simp; first | done | (with_reducible rfl))
      try go_simp
      refine wpAnyH_take (i := 2) (v := ?_) rfl (by kernel_rfl) (by kernel_rfl) (by kernel_rfl) (fun _ _ _ h => h) (Or.inl ⟨by rfl, ?_⟩) (by assumption) ?_
      rotate_left
      · (intro w hSw; (try dsimp only at hSw); go_simp; first | done | (with_reducible rfl))
      try go_simp
      refine wpAnyH_ready (rs := [1, 8]) (by kernel_rfl) (by simp) ?_
      refine AllReadyH.cons rfl (fun K hK => ?_) (AllReadyH.cons rfl (fun K hK => ?_) AllReadyH.nil)
      ·
        go_simp
        refine (HTP.out _ FB.out).mono ?_
        rintro e z0 ⟨gP, haP, hzP, rfl, hrowP, hb⟩
        go_wp2_with fail
        have OP := hide (OwnICl.of_row hrowP haP (by unfold maxLen; omega))
        replace FB := hide (FB.out.trans (hb.mono FB.out.size))
        have FBo := FB
        clear hb haP hzP hrowP
        refine hK.out _ _ (HSK.out _ FB.out) (fun hHeld => ?_)
        clear hK K
        try go_simp
        refine wpAnyH_ready (rs := [3, 8]) (by kernel_rfl) (by simp) ?_
        refine AllReadyH.cons rfl (fun K hK => ?_) (AllReadyH.cons rfl (fun K hK => ?_) AllReadyH.nil)
        ·
          go_simp
          refine (HTC.out _).mono ?_
          rintro e z1 ⟨rfl, hb⟩
          go_wp2_with fail
          replace OP := hide (OP.out.below hb)
          replace FB := hide (FB.out.trans (hb.mono FB.out.size))
          have FBo := FB
          clear hb
          refine hK.out _ _ (HSK.out _ FB.out) (fun hHeld => ?_)
          clear hK K
          try go_simp
          refine wpAnyH_ready (rs := [4, 8]) (by kernel_rfl) (by simp) ?_
          refine AllReadyH.cons rfl (fun K hK => ?_) (AllReadyH.cons rfl (fun K hK => ?_) AllReadyH.nil)
          ·
            go_simp
            refine (HSP.out _ _ OP.out.list).mono ?_
            rintro e z2 ⟨Aq, cq, rfl, hownq, hb⟩
            go_wp2_with fail
            have OQ := hide (hownq.less (base' := w1.heap.size) FB.out.size)
            have LQ := hide (show ∀ ad : Addr, Aq = some ad → _ ≤ ad.block ∧ ad.block < z2.heap.size from fun ad hA => by
              rcases hownq.form with ⟨h1, _⟩ | ⟨g, c', h1, hb', hlt⟩
              · injection h1 with h1; rw [h1] at hA; cases hA
              · injection h1 with h1; rw [h1] at hA; injection hA with hA; subst hA; exact ⟨hb', hlt⟩)
            clear OP
            replace FB := hide (FB.out.trans (hb.mono FB.out.size))
            have FBo := FB
            clear hb hownq
            refine hK.out _ _ (HSK.out _ FB.out) (fun hHeld => ?_)
            clear hK K
            try go_simp
            refine wpAnyH_take (i := 5) (v := ?_) rfl (by kernel_rfl) (by kernel_rfl) (by kernel_rfl) (fun _ _ _ h => h) (Or.inl ⟨by rfl, ?_⟩) (by assumption) ?_
            rotate_left
            · (intro w hSw; (try dsimp only at hSw); go_simp; first | done | (with_reducible rfl))
            try go_simp
            refine wpAnyH_take (i := 6) (v := ?_) rfl (by kernel_rfl) (by kernel_rfl) (by kernel_rfl) (fun _ _ _ h => h) (Or.inl ⟨by rfl, ?_⟩) (by assumption) ?_
            rotate_left
            · (intro w hSw; (try dsimp only at hSw); go_simp; first | done | (with_reducible rfl))
            try go_simp
            refine wpAnyH_take (i := 7) (v := ?_) rfl (by kernel_rfl) (by kernel_rfl) (by kernel_rfl) (fun _ _ _ h => h) (Or.inl ⟨by rfl, ?_⟩) (by assumption) ?_
            rotate_left
            · (intro w hSw; (try dsimp only at hSw); go_simp; first | done | (with_reducible rfl))
            try go_simp
            refine wpAnyH_ready (rs := [8]) (by kernel_rfl) (by simp) ?_
            refine AllReadyH.cons rfl (fun K hK => ?_) AllReadyH.nil
            have FBp := FB
            have OQp := OQ
            go_simp
            replace FB := hide (show Below w1.heap.size w1 (z2.alloc (.cells #[.int .i64 0, .slice none 0 0] 29)) from FB.out.alloc FB.out.size _)
            have BN := hide (show Bx (z2.alloc (.cells #[.int .i64 0, .slice none 0 0] 29)) z2.heap.size 29 (.int .i64 0) (.slice none 0 0) from Bx.new z2 _ _ _)
            have NB : w1.heap.size ≤ z2.heap.size := (by have := FBo.out.size; simpa using this)
            replace OQ := hide (OQ.out.keep (w' := (z2.alloc (.cells #[.int .i64 0, .slice none 0 0] 29))) fun _ _ hg => Below.heap_alloc _ _ _ hg)
            have NE := hide (fun ad hA => Nat.ne_of_lt (LQ.out ad hA).2)
            refine hK.out _ _ (HSK.out _ FB.out) (fun hHeld => ?_)
            clear hK K
            try go_simp
            have b0 := BN.out.c0
            have b1 := BN.out.c1
            have bf0 := BN.out.f 0
            have bf1 := BN.out.f 1
            have BN2 := hide (Bx.new z2 29 (.int .i64 fu) (.slice Aq fs.length cq))
            have OZ := hide (OQp.out.keep (w' := (z2.alloc (.cells #[.int .i64 fu, .slice Aq fs.length cq] 29))) fun _ _ hg => Below.heap_alloc _ _ _ hg)
            have FZ := hide (show Below w1.heap.size w1 (z2.alloc (.cells #[.int .i64 fu, .slice Aq fs.length cq] 29)) from FBp.out.alloc FBp.out.size _)
            have LZ := hide (show z2.heap.size < (z2.alloc (.cells #[.int .i64 fu, .slice Aq fs.length cq] 29)).heap.size from by simp)
            have LQ2 := hide (show ∀ ad : Addr, Aq = some ad → ad.block < (z2.alloc (.cells #[.int .i64 fu, .slice Aq fs.length cq] 29)).heap.size from fun ad hA => by have h1 := (LQ.out ad hA).2; simp; omega)
            refine wpAnyH_ready (rs := [9]) (by kernel_rfl) (by simp) ?_
            refine AllReadyH.cons rfl (fun K hK => ?_) AllReadyH.nil
            go_simp
            refine hK.out _ _ (HSK.out _ FZ.out) (fun hHeld => ?_)
            clear hK K b0 b1 bf0 bf1
            try go_simp
            refine wpAnyH_take (i := 10) (v := ?_) rfl (by kernel_rfl) (by kernel_rfl) (by kernel_rfl) (fun _ _ _ h => h) (Or.inl ⟨by rfl, ?_⟩) (by assumption) ?_
            rotate_left
            · (intro w hSw; (try dsimp only at hSw); go_simp; first | done | (with_reducible rfl))
            try go_simp
            refine wpAnyH_done (by kernel_rfl) ?_ _
            go_wp2_with fail
            go_meet
            case rel => exact ⟨z2.heap.size, Aq, cq, rfl, rfl, NB, LZ.out, BN2.out, OZ.out, fun ad hA => ⟨NE.out ad hA, LQ2.out ad hA⟩, FZ.out⟩
          ·
            go_simp
            replace FB := hide (show Below w1.heap.size w1 (z1.alloc (.cells #[.int .i64 0, .slice none 0 0] 29)) from FB.out.alloc FB.out.size _)
            have BN := hide (show Bx (z1.alloc (.cells #[.int .i64 0, .slice none 0 0] 29)) z1.heap.size 29 (.int .i64 0) (.slice none 0 0) from Bx.new z1 _ _ _)
            have NB : w1.heap.size ≤ z1.heap.size := (by have := FBo.out.size; simpa using this)
            replace OP := hide (OP.out.keep (w' := (z1.alloc (.cells #[.int .i64 0, .slice none 0 0] 29))) fun _ _ hg => Below.heap_alloc _ _ _ hg)
            refine hK.out _ _ (HSK.out _ FB.out) (fun hHeld => ?_)
            clear hK K
            try go_simp
            refine wpAnyH_ready (rs := [4]) (by kernel_rfl) (by simp) ?_
            refine AllReadyH.cons rfl (fun K hK => ?_) AllReadyH.nil
            go_simp
            refine (HSP.out _ _ OP.out.list).mono ?_
            rintro e z2 ⟨Aq, cq, rfl, hownq, hb⟩
            go_wp2_with fail
            have OQ := hide (hownq.less (base' := w1.heap.size) FB.out.size)
            have LQ := hide (show ∀ ad : Addr, Aq = some ad → _ ≤ ad.block ∧ ad.block < z2.heap.size from fun ad hA => by
              rcases hownq.form with ⟨h1, _⟩ | ⟨g, c', h1, hb', hlt⟩
              · injection h1 with h1; rw [h1] at hA; cases hA
              · injection h1 with h1; rw [h1] at hA; injection hA with hA; subst hA; exact ⟨hb', hlt⟩)
            clear OP
            have NE := hide (fun ad hA => Nat.ne_of_gt (Nat.lt_of_lt_of_le BN.out.lt (LQ.out ad hA).1))
            replace BN := hide (BN.out.next hb)
            replace FB := hide (FB.out.trans (hb.mono FB.out.size))
            have FBo := FB
            clear hb hownq
            refine hK.out _ _ (HSK.out _ FB.out) (fun hHeld => ?_)
            clear hK K
            try go_simp
            refine wpAnyH_take (i := 5) (v := ?_) rfl (by kernel_rfl) (by kernel_rfl) (by kernel_rfl) (fun _ _ _ h => h) (Or.inl ⟨by rfl, ?_⟩) (by assumption) ?_
            rotate_left
            · (intro w hSw; (try dsimp only at hSw); go_simp; first | done | (with_reducible rfl))
            try go_simp
            refine wpAnyH_take (i := 6) (v := ?_) rfl (by kernel_rfl) (by kernel_rfl) (by kernel_rfl) (fun _ _ _ h => h) (Or.inl ⟨by rfl, ?_⟩) (by assumption) ?_
            rotate_left
            · (intro w hSw; (try dsimp only at hSw); go_simp; first | done | (with_reducible rfl))
            try go_simp
            refine wpAnyH_take (i := 7) (v := ?_) rfl (by kernel_rfl) (by kernel_rfl) (by kernel_rfl) (fun _ _ _ h => h) (Or.inl ⟨by rfl, ?_⟩) (by assumption) ?_
            rotate_left
            · (intro w hSw; (try dsimp only at hSw); go_simp; first | done | (with_reducible rfl))
            try go_simp
            have BN1 := BN.out.set0 (.int .i64 fu)
            have BN2 := hide (BN1.set1 (.slice Aq fs.length cq))
            have b0 := BN.out.c0
            have b1 := BN.out.c1
            have bf0 := BN.out.f 0
            have bf1 := BN1.f 1
            have b2 := BN1.c1
            have OZ := hide (ownQ_put OQ.out NE.out (.int .i64 fu) (.slice Aq fs.length cq))
            have FZ := hide ((FB.out.setCell (p := ⟨z1.heap.size, 0, none⟩) NB (.int .i64 fu)).setCell (p := ⟨z1.heap.size, 1, none⟩) NB (.slice Aq fs.length cq))
            have LZ := hide (show z1.heap.size < ((z2.setCell ⟨z1.heap.size, 0, none⟩ (.int .i64 fu)).setCell ⟨z1.heap.size, 1, none⟩ (.slice Aq fs.length cq)).heap.size from by have := BN.out.lt; simpa using this)
            have LQ2 := hide (show ∀ ad : Addr, Aq = some ad → ad.block < ((z2.setCell ⟨z1.heap.size, 0, none⟩ (.int .i64 fu)).setCell ⟨z1.heap.size, 1, none⟩ (.slice Aq fs.length cq)).heap.size from fun ad hA => by have h1 := (LQ.out ad hA).2; have h2 := BN.out.lt; simp at h2 ⊢; omega)
            clear BN1
            refine wpAnyH_ready (rs := [9]) (by kernel_rfl) (by simp) ?_
            refine AllReadyH.cons rfl (fun K hK => ?_) AllReadyH.nil
            go_simp
            refine hK.out _ _ (HSK.out _ FZ.out) (fun hHeld => ?_)
            clear hK K b0 b1 bf0 bf1 b2
            try go_simp
            refine wpAnyH_take (i := 10) (v := ?_) rfl (by kernel_rfl) (by kernel_rfl) (by kernel_rfl) (fun _ _ _ h => h) (Or.inl ⟨by rfl, ?_⟩) (by assumption) ?_
            rotate_left
            · (intro w hSw; (try dsimp only at hSw); go_simp; first | done | (with_reducible rfl))
            try go_simp
            refine wpAnyH_done (by kernel_rfl) ?_ _
            go_wp2_with fail
            go_meet
            case rel => exact ⟨z1.heap.size, Aq, cq, rfl, rfl, NB, LZ.out, BN2.out, OZ.out, fun ad hA => ⟨NE.out ad hA, LQ2.out ad hA⟩, FZ.out⟩
        ·
          go_simp
          replace FB := hide (show Below w1.heap.size w1 (z0.alloc (.cells #[.int .i64 0, .slice none 0 0] 29)) from FB.out.alloc FB.out.size _)
          have BN := hide (show Bx (z0.alloc (.cells #[.int .i64 0, .slice none 0 0] 29)) z0.heap.size 29 (.int .i64 0) (.slice none 0 0) from Bx.new z0 _ _ _)
          have NB : w1.heap.size ≤ z0.heap.size := (by have := FBo.out.size; simpa using this)
          replace OP := hide (OP.out.keep (w' := (z0.alloc (.cells #[.int .i64 0, .slice none 0 0] 29))) fun _ _ hg => Below.heap_alloc _ _ _ hg)
          refine hK.out _ _ (HSK.out _ FB.out) (fun hHeld => ?_)
          clear hK K
          try go_simp
          refine wpAnyH_ready (rs := [3]) (by kernel_rfl) (by simp) ?_
          refine AllReadyH.cons rfl (fun K hK => ?_) AllReadyH.nil
          go_simp
          refine (HTC.out _).mono ?_
          rintro e z1 ⟨rfl, hb⟩
          go_wp2_with fail
          replace OP := hide (OP.out.below hb)
          replace BN := hide (BN.out.next hb)
          replace FB := hide (FB.out.trans (hb.mono FB.out.size))
          have FBo := FB
          clear hb
          refine hK.out _ _ (HSK.out _ FB.out) (fun hHeld => ?_)
          clear hK K
          try go_simp
          refine wpAnyH_ready (rs := [4]) (by kernel_rfl) (by simp) ?_
          refine AllReadyH.cons rfl (fun K hK => ?_) AllReadyH.nil
          go_simp
          refine (HSP.out _ _ OP.out.list).mono ?_
          rintro e z2 ⟨Aq, cq, rfl, hownq, hb⟩
          go_wp2_with fail
          have OQ := hide (hownq.less (base' := w1.heap.size) FB.out.size)
          have LQ := hide (show ∀ ad : Addr, Aq = some ad → _ ≤ ad.block ∧ ad.block < z2.heap.size from fun ad hA => by
            rcases hownq.form with ⟨h1, _⟩ | ⟨g, c', h1, hb', hlt⟩
            · injection h1 with h1; rw [h1] at hA; cases hA
            · injection h1 with h1; rw [h1] at hA; injection hA with hA; subst hA; exact ⟨hb', hlt⟩)
          clear OP
          have NE := hide (fun ad hA => Nat.ne_of_gt (Nat.lt_of_lt_of_le BN.out.lt (LQ.out ad hA).1))
          replace BN := hide (BN.out.next hb)
          replace FB := hide (FB.out.trans (hb.mono FB.out.size))
          have FBo := FB
          clear hb hownq
          refine hK.out _ _ (HSK.out _ FB.out) (fun hHeld => ?_)
          clear hK K
          try go_simp
          refine wpAnyH_take (i := 5) (v := ?_) rfl (by kernel_rfl) (by kernel_rfl) (by kernel_rfl) (fun _ _ _ h => h) (Or.inl ⟨by rfl, ?_⟩) (by assumption) ?_
          rotate_left
          · (intro w hSw; (try dsimp only at hSw); go_simp; first | done | (with_reducible rfl))
          try go_simp
          refine wpAnyH_take (i := 6) (v := ?_) rfl (by kernel_rfl) (by kernel_rfl) (by kernel_rfl) (fun _ _ _ h => h) (Or.inl ⟨by rfl, ?_⟩) (by assumption) ?_
          rotate_left
          · (intro w hSw; (try dsimp only at hSw); go_simp; first | done | (with_reducible rfl))
          try go_simp
          refine wpAnyH_take (i := 7) (v := ?_) rfl (by kernel_rfl) (by kernel_rfl) (by kernel_rfl) (fun _ _ _ h => h) (Or.inl ⟨by rfl, ?_⟩) (by assumption) ?_
          rotate_left
          · (intro w hSw; (try dsimp only at hSw); go_simp; first | done | (with_reducible rfl))
          try go_simp
          have BN1 := BN.out.set0 (.int .i64 fu)
          have BN2 := hide (BN1.set1 (.slice Aq fs.length cq))
          have b0 := BN.out.c0
          have b1 := BN.out.c1
          have bf0 := BN.out.f 0
          have bf1 := BN1.f 1
          have b2 := BN1.c1
          have OZ := hide (ownQ_put OQ.out NE.out (.int .i64 fu) (.slice Aq fs.length cq))
          have FZ := hide ((FB.out.setCell (p := ⟨z0.heap.size, 0, none⟩) NB (.int .i64 fu)).setCell (p := ⟨z0.heap.size, 1, none⟩) NB (.slice Aq fs.length cq))
          have LZ := hide (show z0.heap.size < ((z2.setCell ⟨z0.heap.size, 0, none⟩ (.int .i64 fu)).setCell ⟨z0.heap.size, 1, none⟩ (.slice Aq fs.length cq)).heap.size from by have := BN.out.lt; simpa using this)
          have LQ2 := hide (show ∀ ad : Addr, Aq = some ad → ad.block < ((z2.setCell ⟨z0.heap.size, 0, none⟩ (.int .i64 fu)).setCell ⟨z0.heap.size, 1, none⟩ (.slice Aq fs.length cq)).heap.size from fun ad hA => by have h1 := (LQ.out ad hA).2; have h2 := BN.out.lt; simp at h2 ⊢; omega)
          clear BN1
          refine wpAnyH_ready (rs := [9]) (by kernel_rfl) (by simp) ?_
          refine AllReadyH.cons rfl (fun K hK => ?_) AllReadyH.nil
          go_simp
          refine hK.out _ _ (HSK.out _ FZ.out) (fun hHeld => ?_)
          clear hK K b0 b1 bf0 bf1 b2
          try go_simp
          refine wpAnyH_take (i := 10) (v := ?_) rfl (by kernel_rfl) (by kernel_rfl) (by kernel_rfl) (fun _ _ _ h => h) (Or.inl ⟨by rfl, ?_⟩) (by assumption) ?_
          rotate_left
          · (intro w hSw; (try dsimp only at hSw); go_simp; first | done | (with_reducible rfl))
          try go_simp
          refine wpAnyH_done (by kernel_rfl) ?_ _
          go_wp2_with fail
          go_meet
          case rel => exact ⟨z0.heap.size, Aq, cq, rfl, rfl, NB, LZ.out, BN2.out, OZ.out, fun ad hA => ⟨NE.out ad hA, LQ2.out ad hA⟩, FZ.out⟩
      ·
        go_simp
        replace FB := hide (show Below w1.heap.size w1 (w1.alloc (.cells #[.int .i64 0, .slice none 0 0] 29)).drew from Below.drew ((Below.refl _ _).alloc (Nat.le_refl _) _))
        have BN := hide (show Bx (w1.alloc (.cells #[.int .i64 0, .slice none 0 0] 29)).drew w1.heap.size 29 (.int .i64 0) (.slice none 0 0) from Bx.new w1 _ _ _)
        have NB : w1.heap.size ≤ w1.heap.size := Nat.le_refl _
        refine hK.out _ _ (HSK.out _ FB.out) (fun hHeld => ?_)
        clear hK K
        try go_simp
        refine wpAnyH_ready (rs := [1]) (by kernel_rfl) (by simp) ?_
        refine AllReadyH.cons rfl (fun K hK => ?_) AllReadyH.nil
        go_simp
        refine (HTP.out _ FB.out).mono ?_
        rintro e z0 ⟨gP, haP, hzP, rfl, hrowP, hb⟩
        go_wp2_with fail
        have OP := hide (OwnICl.of_row hrowP haP (by unfold maxLen; omega))
        replace BN := hide (BN.out.next hb)
        replace FB := hide (FB.out.trans (hb.mono FB.out.size))
        have FBo := FB
        clear hb haP hzP hrowP
        refine hK.out _ _ (HSK.out _ FB.out) (fun hHeld => ?_)
        clear hK K
        try go_simp
        refine wpAnyH_ready (rs := [3]) (by kernel_rfl) (by simp) ?_
        refine AllReadyH.cons rfl (fun K hK => ?_) AllReadyH.nil
        go_simp
        refine (HTC.out _).mono ?_
        rintro e z1 ⟨rfl, hb⟩
        go_wp2_with fail
        replace OP := hide (OP.out.below hb)
        replace BN := hide (BN.out.next hb)
        replace FB := hide (FB.out.trans (hb.mono FB.out.size))
        have FBo := FB
        clear hb
        refine hK.out _ _ (HSK.out _ FB.out) (fun hHeld => ?_)
        clear hK K
        try go_simp
        refine wpAnyH_ready (rs := [4]) (by kernel_rfl) (by simp) ?_
        refine AllReadyH.cons rfl (fun K hK => ?_) AllReadyH.nil
        go_simp
        refine (HSP.out _ _ OP.out.list).mono ?_
        rintro e z2 ⟨Aq, cq, rfl, hownq, hb⟩
        go_wp2_with fail
        have OQ := hide (hownq.less (base' := w1.heap.size) FB.out.size)
        have LQ := hide (show ∀ ad : Addr, Aq = some ad → _ ≤ ad.block ∧ ad.block < z2.heap.size from fun ad hA => by
          rcases hownq.form with ⟨h1, _⟩ | ⟨g, c', h1, hb', hlt⟩
          · injection h1 with h1; rw [h1] at hA; cases hA
          · injection h1 with h1; rw [h1] at hA; injection hA with hA; subst hA; exact ⟨hb', hlt⟩)
        clear OP
        have NE := hide (fun ad hA => Nat.ne_of_gt (Nat.lt_of_lt_of_le BN.out.lt (LQ.out ad hA).1))
        replace BN := hide (BN.out.next hb)
        replace FB := hide (FB.out.trans (hb.mono FB.out.size))
        have FBo := FB
        clear hb hownq
        refine hK.out _ _ (HSK.out _ FB.out) (fun hHeld => ?_)
        clear hK K
        try go_simp
        refine wpAnyH_take (i := 5) (v := ?_) rfl (by kernel_rfl) (by kernel_rfl) (by kernel_rfl) (fun _ _ _ h => h) (Or.inl ⟨by rfl, ?_⟩) (by assumption) ?_
        rotate_left
        · (intro w hSw; (try dsimp only at hSw); go_simp; first | done | (with_reducible rfl))
        try go_simp
        refine wpAnyH_take (i := 6) (v := ?_) rfl (by kernel_rfl) (by kernel_rfl) (by kernel_rfl) (fun _ _ _ h => h) (Or.inl ⟨by rfl, ?_⟩) (by assumption) ?_
        rotate_left
        · (intro w hSw; (try dsimp only at hSw); go_simp; first | done | (with_reducible rfl))
        try go_simp
        refine wpAnyH_take (i := 7) (v := ?_) rfl (by kernel_rfl) (by kernel_rfl) (by kernel_rfl) (fun _ _ _ h => h) (Or.inl ⟨by rfl, ?_⟩) (by assumption) ?_
        rotate_left
        · (intro w hSw; (try dsimp only at hSw); go_simp; first | done | (with_reducible rfl))
        try go_simp
        have BN1 := BN.out.set0 (.int .i64 fu)
        have BN2 := hide (BN1.set1 (.slice Aq fs.length cq))
        have b0 := BN.out.c0
        have b1 := BN.out.c1
        have bf0 := BN.out.f 0
        have bf1 := BN1.f 1
        have b2 := BN1.c1
        have OZ := hide (ownQ_put OQ.out NE.out (.int .i64 fu) (.slice Aq fs.length cq))
        have FZ := hide ((FB.out.setCell (p := ⟨w1.heap.size, 0, none⟩) NB (.int .i64 fu)).setCell (p := ⟨w1.heap.size, 1, none⟩) NB (.slice Aq fs.length cq))
        have LZ := hide (show w1.heap.size < ((z2.setCell ⟨w1.heap.size, 0, none⟩ (.int .i64 fu)).setCell ⟨w1.heap.size, 1, none⟩ (.slice Aq fs.length cq)).heap.size from by have := BN.out.lt; simpa using this)
        have LQ2 := hide (show ∀ ad : Addr, Aq = some ad → ad.block < ((z2.setCell ⟨w1.heap.size, 0, none⟩ (.int .i64 fu)).setCell ⟨w1.heap.size, 1, none⟩ (.slice Aq fs.length cq)).heap.size from fun ad hA => by have h1 := (LQ.out ad hA).2; have h2 := BN.out.lt; simp at h2 ⊢; omega)
        clear BN1
        refine wpAnyH_ready (rs := [9]) (by kernel_rfl) (by simp) ?_
        refine AllReadyH.cons rfl (fun K hK => ?_) AllReadyH.nil
        go_simp
        refine hK.out _ _ (HSK.out _ FZ.out) (fun hHeld => ?_)
        clear hK K b0 b1 bf0 bf1 b2
        try go_simp
        refine wpAnyH_take (i := 10) (v := ?_) rfl (by kernel_rfl) (by kernel_rfl) (by kernel_rfl) (fun _ _ _ h => h) (Or.inl ⟨by rfl, ?_⟩) (by assumption) ?_
        rotate_left
        · (intro w hSw; (try dsimp only at hSw); go_simp; first | done | (with_reducible rfl))
        try go_simp
        refine wpAnyH_done (by kernel_rfl) ?_ _
        go_wp2_with fail
        go_meet
        case rel => exact ⟨w1.heap.size, Aq, cq, rfl, rfl, NB, LZ.out, BN2.out, OZ.out, fun ad hA => ⟨NE.out ad hA, LQ2.out ad hA⟩, FZ.out⟩
    case rest =>
    obtain ⟨bW, AW, cW, rfl, rfl, hlo, hhi, BW, OW, hne, hbc⟩ := hcut
    generalize wc = w2 at *
    have S2 := hide hbc.size
    have TW := hide (And.intro hlo hhi)
    replace BW := hide BW
    replace OW := hide OW
    have NW := hide (fun ad hA => (hne ad hA).1)
    have LW := hide (show ∀ ad : Addr, AW = some ad → w1.heap.size ≤ ad.block ∧ ad.block < w2.heap.size from fun ad hA => by
      rcases OW.out.form with ⟨h1, _⟩ | ⟨g, c', h1, hb, hlt⟩
      · injection h1 with h1; rw [h1] at hA; cases hA
      · injection h1 with h1; rw [h1] at hA; injection hA with hA; subst hA; exact ⟨hb, hlt⟩)
    replace q := hide (below_next q.out hbc)
    replace KX := hide (KX.out.next hbc)
    replace KC := hide (KC.out.next hbc)
    clear hbc hlo hhi hne
    have RW := hide (OW.out.list)
    clear OW LW NW
    have xX0 := KX.out.c0
    have xX1 := KX.out.c1
    go_wp2_with fail
    refine (toPuzzle_any _ _ _ _ _ _ (((HR.out.below q.out (Nat.le_refl _)).more (by have := S0.out; have := S00.out; have := S1.out; have := S2.out; have := TW.out; omega))) hcap2).mono ?_
    rintro e w3 ⟨gb, ha3, hz3, rfl, hrow3, hb3⟩
    clear xX0 xX1
    have S3 := hide (hb3).size
    replace q := hide (below_next q.out hb3)
    replace KX := hide (KX.out.next hb3)
    replace KC := hide (KC.out.next hb3)
    replace RW := hide (RW.out.below hb3 (by have := S0.out; have := S00.out; have := S1.out; have := S2.out; have := TW.out; have := S3.out; omega))
    replace BW := hide (BW.out.next hb3)
    clear hb3
    have Ob := hide (OwnICl.of_row hrow3 ha3 (by unfold maxLen; omega))
    have Lb := hide (show ∀ ad : Addr, some (⟨gb, 0, none⟩ : Addr) = some ad → w2.heap.size ≤ ad.block ∧ ad.block < w3.heap.size from fun ad hA => by injection hA with hA; subst hA; exact ⟨ha3, hz3⟩)
    clear hrow3 ha3 hz3
    have hbx : Below w3.heap.size w3 (w3.alloc (.cells #[.int .i64 u, .slice (some ⟨gb, 0, none⟩) cs.length cs.length] 29)) := (Below.refl _ _).alloc (Nat.le_refl _) _
    have BY := hide (Bx.new w3 29 (.int .i64 u) (.slice (some ⟨gb, 0, none⟩) cs.length cs.length))
    have T3 := hide (show (w3.alloc (.cells #[.int .i64 u, .slice (some ⟨gb, 0, none⟩) cs.length cs.length] 29)).heap.size = w3.heap.size + 1 from by simp)
    replace q := hide (below_next q.out hbx)
    replace KX := hide (KX.out.next hbx)
    replace KC := hide (KC.out.next hbx)
    replace RW := hide (RW.out.below hbx (by have := S0.out; have := S00.out; have := S1.out; have := S2.out; have := TW.out; have := S3.out; have := T3.out; omega))
    replace BW := hide (BW.out.next hbx)
    replace Ob := hide (Ob.out.below hbx)
    clear hbx
    go_upto_region 7 with fail
    generalize (w3.alloc (.cells #[.int .i64 u, .slice (some ⟨gb, 0, none⟩) cs.length cs.length] 29)) = v3 at *
    try go_upto_region 7 with fail
    go_upto_region 7 with fail
    go_cut [9, 10] from 16 (fun x y wc => CutP v3 29 fs fu bb x y wc)
    case first =>
      have HSK : Hid (∀ W, Below v3.heap.size v3 W → (fun W => W.cell? ⟨w3.heap.size, 0, none⟩ = some (.int .i64 u) ∧ W.cell? ⟨w3.heap.size, 1, none⟩ = some (.slice (some ⟨gb, 0, none⟩) cs.length cs.length) ∧ W.cell? ⟨w.heap.size + 1, 0, none⟩ = some (.int .i64 d.x0) ∧ W.cell? ⟨w.heap.size + 1, 1, none⟩ = some (.int .i64 d.x1) ∧ W.cell? ⟨w.heap.size + 1, 2, none⟩ = some (.int .i64 d.x2) ∧ W.cell? ⟨w.heap.size + 1, 3, none⟩ = some (.int .i64 d.x3)) W) := hide (fun W h => ⟨(BY.out.next h).c0, (BY.out.next h).c1, (KC.out.next h).c0, (KC.out.next h).c1, (KC.out.next h).c2, (KC.out.next h).c3⟩)
      have HTC := hide (fun W => toClue_any d W)
      refine wp_region_held_drew (S := (fun W => W.cell? ⟨w3.heap.size, 0, none⟩ = some (.int .i64 u) ∧ W.cell? ⟨w3.heap.size, 1, none⟩ = some (.slice (some ⟨gb, 0, none⟩) cs.length cs.length) ∧ W.cell? ⟨w.heap.size + 1, 0, none⟩ = some (.int .i64 d.x0) ∧ W.cell? ⟨w.heap.size + 1, 1, none⟩ = some (.int .i64 d.x1) ∧ W.cell? ⟨w.heap.size + 1, 2, none⟩ = some (.int .i64 d.x2) ∧ W.cell? ⟨w.heap.size + 1, 3, none⟩ = some (.int .i64 d.x3))) (by kernel_rfl) ?_ (fun hHeld => ?_)
      · exact HSK.out _ (Below.refl _ _).drew
      have FB := hide (show Below v3.heap.size v3 v3.drew from (Below.refl _ _).drew)
      refine wpAnyH_take (i := 0) (v := ?_) rfl (by kernel_rfl) (by kernel_rfl) (by kernel_rfl) (fun _ _ _ h => h) (Or.inl ⟨by rfl, ?_⟩) (by assumption) ?_
      rotate_left
      · (intro w hSw; (try dsimp only at hSw); go_simp; first | done | (with_reducible rfl))
      try go_simp
      refine wpAnyH_take (i := 1) (v := ?_) rfl (by kernel_rfl) (by kernel_rfl) (by kernel_rfl) (fun _ _ _ h => h) (Or.inl ⟨by rfl, ?_⟩) (by assumption) ?_
      rotate_left
      · (intro w hSw; (try dsimp only at hSw); go_simp; first | done | (with_reducible rfl))
      try go_simp
      refine wpAnyH_ready (rs := [2, 7]) (by kernel_rfl) (by simp) ?_
      refine AllReadyH.cons rfl (fun K hK => ?_) (AllReadyH.cons rfl (fun K hK => ?_) AllReadyH.nil)
      ·
        go_simp
        refine (HTC.out _).mono ?_
        rintro e z0 ⟨rfl, hb⟩
        go_wp2_with fail
        replace FB := hide (FB.out.trans (hb.mono FB.out.size))
        have FBo := FB
        clear hb
        refine hK.out _ _ (HSK.out _ FB.out) (fun hHeld => ?_)
        clear hK K
        try go_simp
        refine wpAnyH_ready (rs := [3, 7]) (by kernel_rfl) (by simp) ?_
        refine AllReadyH.cons rfl (fun K hK => ?_) (AllReadyH.cons rfl (fun K hK => ?_) AllReadyH.nil)
        ·
          go_simp
          refine (HIM.out _ _ (Ob.out.below FB.out).list).mono ?_
          rintro e z1 ⟨Aq, cq, rfl, hownq, hb⟩
          go_wp2_with fail
          have OQ := hide (hownq.less (base' := v3.heap.size) FB.out.size)
          have LQ := hide (show ∀ ad : Addr, Aq = some ad → _ ≤ ad.block ∧ ad.block < z1.heap.size from fun ad hA => by
            rcases hownq.form with ⟨h1, _⟩ | ⟨g, c', h1, hb', hlt⟩
            · injection h1 with h1; rw [h1] at hA; cases hA
            · injection h1 with h1; rw [h1] at hA; injection hA with hA; subst hA; exact ⟨hb', hlt⟩)
          replace FB := hide (FB.out.trans (hb.mono FB.out.size))
          have FBo := FB
          clear hb hownq
          refine hK.out _ _ (HSK.out _ FB.out) (fun hHeld => ?_)
          clear hK K
          try go_simp
          refine wpAnyH_take (i := 4) (v := ?_) rfl (by kernel_rfl) (by kernel_rfl) (by kernel_rfl) (fun _ _ _ h => h) (Or.inl ⟨by rfl, ?_⟩) (by assumption) ?_
          rotate_left
          · (intro w hSw; (try dsimp only at hSw); go_simp; first | done | (with_reducible rfl))
          try go_simp
          refine wpAnyH_take (i := 5) (v := ?_) rfl (by kernel_rfl) (by kernel_rfl) (by kernel_rfl) (fun _ _ _ h => h) (Or.inl ⟨by rfl, ?_⟩) (by assumption) ?_
          rotate_left
          · (intro w hSw; (try dsimp only at hSw); go_simp; first | done | (with_reducible rfl))
          try go_simp
          refine wpAnyH_take (i := 6) (v := ?_) rfl (by kernel_rfl) (by kernel_rfl) (by kernel_rfl) (fun _ _ _ h => h) (Or.inl ⟨by rfl, ?_⟩) (by assumption) ?_
          rotate_left
          · (intro w hSw; (try dsimp only at hSw); go_simp; first | done | (with_reducible rfl))
          try go_simp
          refine wpAnyH_ready (rs := [7]) (by kernel_rfl) (by simp) ?_
          refine AllReadyH.cons rfl (fun K hK => ?_) AllReadyH.nil
          have FBp := FB
          have OQp := OQ
          go_simp
          replace FB := hide (show Below v3.heap.size v3 (z1.alloc (.cells #[.int .i64 0, .slice none 0 0] 29)) from FB.out.alloc FB.out.size _)
          have BN := hide (show Bx (z1.alloc (.cells #[.int .i64 0, .slice none 0 0] 29)) z1.heap.size 29 (.int .i64 0) (.slice none 0 0) from Bx.new z1 _ _ _)
          have NB : v3.heap.size ≤ z1.heap.size := (by have := FBo.out.size; simpa using this)
          replace OQ := hide (OQ.out.keep (w' := (z1.alloc (.cells #[.int .i64 0, .slice none 0 0] 29))) fun _ _ hg => Below.heap_alloc _ _ _ hg)
          have NE := hide (fun ad hA => Nat.ne_of_lt (LQ.out ad hA).2)
          refine hK.out _ _ (HSK.out _ FB.out) (fun hHeld => ?_)
          clear hK K
          try go_simp
          have b0 := BN.out.c0
          have b1 := BN.out.c1
          have bf0 := BN.out.f 0
          have bf1 := BN.out.f 1
          have BN2 := hide (Bx.new z1 29 (.int .i64 fu) (.slice Aq fs.length cq))
          have OZ := hide (OQp.out.keep (w' := (z1.alloc (.cells #[.int .i64 fu, .slice Aq fs.length cq] 29))) fun _ _ hg => Below.heap_alloc _ _ _ hg)
          have FZ := hide (show Below v3.heap.size v3 (z1.alloc (.cells #[.int .i64 fu, .slice Aq fs.length cq] 29)) from FBp.out.alloc FBp.out.size _)
          have LZ := hide (show z1.heap.size < (z1.alloc (.cells #[.int .i64 fu, .slice Aq fs.length cq] 29)).heap.size from by simp)
          have LQ2 := hide (show ∀ ad : Addr, Aq = some ad → ad.block < (z1.alloc (.cells #[.int .i64 fu, .slice Aq fs.length cq] 29)).heap.size from fun ad hA => by have h1 := (LQ.out ad hA).2; simp; omega)
          refine wpAnyH_ready (rs := [8]) (by kernel_rfl) (by simp) ?_
          refine AllReadyH.cons rfl (fun K hK => ?_) AllReadyH.nil
          go_simp
          refine hK.out _ _ (HSK.out _ FZ.out) (fun hHeld => ?_)
          clear hK K b0 b1 bf0 bf1
          try go_simp
          refine wpAnyH_take (i := 9) (v := ?_) rfl (by kernel_rfl) (by kernel_rfl) (by kernel_rfl) (fun _ _ _ h => h) (Or.inl ⟨by rfl, ?_⟩) (by assumption) ?_
          rotate_left
          · (intro w hSw; (try dsimp only at hSw); go_simp; first | done | (with_reducible rfl))
          try go_simp
          refine wpAnyH_done (by kernel_rfl) ?_ _
          go_wp2_with fail
          go_meet
          case rel => exact ⟨z1.heap.size, Aq, cq, rfl, rfl, NB, LZ.out, BN2.out, OZ.out, fun ad hA => ⟨NE.out ad hA, LQ2.out ad hA⟩, FZ.out⟩
        ·
          go_simp
          replace FB := hide (show Below v3.heap.size v3 (z0.alloc (.cells #[.int .i64 0, .slice none 0 0] 29)) from FB.out.alloc FB.out.size _)
          have BN := hide (show Bx (z0.alloc (.cells #[.int .i64 0, .slice none 0 0] 29)) z0.heap.size 29 (.int .i64 0) (.slice none 0 0) from Bx.new z0 _ _ _)
          have NB : v3.heap.size ≤ z0.heap.size := (by have := FBo.out.size; simpa using this)
          refine hK.out _ _ (HSK.out _ FB.out) (fun hHeld => ?_)
          clear hK K
          try go_simp
          refine wpAnyH_ready (rs := [3]) (by kernel_rfl) (by simp) ?_
          refine AllReadyH.cons rfl (fun K hK => ?_) AllReadyH.nil
          go_simp
          refine (HIM.out _ _ (Ob.out.below FB.out).list).mono ?_
          rintro e z1 ⟨Aq, cq, rfl, hownq, hb⟩
          go_wp2_with fail
          have OQ := hide (hownq.less (base' := v3.heap.size) FB.out.size)
          have LQ := hide (show ∀ ad : Addr, Aq = some ad → _ ≤ ad.block ∧ ad.block < z1.heap.size from fun ad hA => by
            rcases hownq.form with ⟨h1, _⟩ | ⟨g, c', h1, hb', hlt⟩
            · injection h1 with h1; rw [h1] at hA; cases hA
            · injection h1 with h1; rw [h1] at hA; injection hA with hA; subst hA; exact ⟨hb', hlt⟩)
          have NE := hide (fun ad hA => Nat.ne_of_gt (Nat.lt_of_lt_of_le BN.out.lt (LQ.out ad hA).1))
          replace BN := hide (BN.out.next hb)
          replace FB := hide (FB.out.trans (hb.mono FB.out.size))
          have FBo := FB
          clear hb hownq
          refine hK.out _ _ (HSK.out _ FB.out) (fun hHeld => ?_)
          clear hK K
          try go_simp
          refine wpAnyH_take (i := 4) (v := ?_) rfl (by kernel_rfl) (by kernel_rfl) (by kernel_rfl) (fun _ _ _ h => h) (Or.inl ⟨by rfl, ?_⟩) (by assumption) ?_
          rotate_left
          · (intro w hSw; (try dsimp only at hSw); go_simp; first | done | (with_reducible rfl))
          try go_simp
          refine wpAnyH_take (i := 5) (v := ?_) rfl (by kernel_rfl) (by kernel_rfl) (by kernel_rfl) (fun _ _ _ h => h) (Or.inl ⟨by rfl, ?_⟩) (by assumption) ?_
          rotate_left
          · (intro w hSw; (try dsimp only at hSw); go_simp; first | done | (with_reducible rfl))
          try go_simp
          refine wpAnyH_take (i := 6) (v := ?_) rfl (by kernel_rfl) (by kernel_rfl) (by kernel_rfl) (fun _ _ _ h => h) (Or.inl ⟨by rfl, ?_⟩) (by assumption) ?_
          rotate_left
          · (intro w hSw; (try dsimp only at hSw); go_simp; first | done | (with_reducible rfl))
          try go_simp
          have BN1 := BN.out.set0 (.int .i64 fu)
          have BN2 := hide (BN1.set1 (.slice Aq fs.length cq))
          have b0 := BN.out.c0
          have b1 := BN.out.c1
          have bf0 := BN.out.f 0
          have bf1 := BN1.f 1
          have b2 := BN1.c1
          have OZ := hide (ownQ_put OQ.out NE.out (.int .i64 fu) (.slice Aq fs.length cq))
          have FZ := hide ((FB.out.setCell (p := ⟨z0.heap.size, 0, none⟩) NB (.int .i64 fu)).setCell (p := ⟨z0.heap.size, 1, none⟩) NB (.slice Aq fs.length cq))
          have LZ := hide (show z0.heap.size < ((z1.setCell ⟨z0.heap.size, 0, none⟩ (.int .i64 fu)).setCell ⟨z0.heap.size, 1, none⟩ (.slice Aq fs.length cq)).heap.size from by have := BN.out.lt; simpa using this)
          have LQ2 := hide (show ∀ ad : Addr, Aq = some ad → ad.block < ((z1.setCell ⟨z0.heap.size, 0, none⟩ (.int .i64 fu)).setCell ⟨z0.heap.size, 1, none⟩ (.slice Aq fs.length cq)).heap.size from fun ad hA => by have h1 := (LQ.out ad hA).2; have h2 := BN.out.lt; simp at h2 ⊢; omega)
          clear BN1
          refine wpAnyH_ready (rs := [8]) (by kernel_rfl) (by simp) ?_
          refine AllReadyH.cons rfl (fun K hK => ?_) AllReadyH.nil
          go_simp
          refine hK.out _ _ (HSK.out _ FZ.out) (fun hHeld => ?_)
          clear hK K b0 b1 bf0 bf1 b2
          try go_simp
          refine wpAnyH_take (i := 9) (v := ?_) rfl (by kernel_rfl) (by kernel_rfl) (by kernel_rfl) (fun _ _ _ h => h) (Or.inl ⟨by rfl, ?_⟩) (by assumption) ?_
          rotate_left
          · (intro w hSw; (try dsimp only at hSw); go_simp; first | done | (with_reducible rfl))
          try go_simp
          refine wpAnyH_done (by kernel_rfl) ?_ _
          go_wp2_with fail
          go_meet
          case rel => exact ⟨z0.heap.size, Aq, cq, rfl, rfl, NB, LZ.out, BN2.out, OZ.out, fun ad hA => ⟨NE.out ad hA, LQ2.out ad hA⟩, FZ.out⟩
      ·
        go_simp
        replace FB := hide (show Below v3.heap.size v3 (v3.alloc (.cells #[.int .i64 0, .slice none 0 0] 29)).drew from Below.drew ((Below.refl _ _).alloc (Nat.le_refl _) _))
        have BN := hide (show Bx (v3.alloc (.cells #[.int .i64 0, .slice none 0 0] 29)).drew v3.heap.size 29 (.int .i64 0) (.slice none 0 0) from Bx.new v3 _ _ _)
        have NB : v3.heap.size ≤ v3.heap.size := Nat.le_refl _
        refine hK.out _ _ (HSK.out _ FB.out) (fun hHeld => ?_)
        clear hK K
        try go_simp
        refine wpAnyH_ready (rs := [2]) (by kernel_rfl) (by simp) ?_
        refine AllReadyH.cons rfl (fun K hK => ?_) AllReadyH.nil
        go_simp
        refine (HTC.out _).mono ?_
        rintro e z0 ⟨rfl, hb⟩
        go_wp2_with fail
        replace BN := hide (BN.out.next hb)
        replace FB := hide (FB.out.trans (hb.mono FB.out.size))
        have FBo := FB
        clear hb
        refine hK.out _ _ (HSK.out _ FB.out) (fun hHeld => ?_)
        clear hK K
        try go_simp
        refine wpAnyH_ready (rs := [3]) (by kernel_rfl) (by simp) ?_
        refine AllReadyH.cons rfl (fun K hK => ?_) AllReadyH.nil
        go_simp
        refine (HIM.out _ _ (Ob.out.below FB.out).list).mono ?_
        rintro e z1 ⟨Aq, cq, rfl, hownq, hb⟩
        go_wp2_with fail
        have OQ := hide (hownq.less (base' := v3.heap.size) FB.out.size)
        have LQ := hide (show ∀ ad : Addr, Aq = some ad → _ ≤ ad.block ∧ ad.block < z1.heap.size from fun ad hA => by
          rcases hownq.form with ⟨h1, _⟩ | ⟨g, c', h1, hb', hlt⟩
          · injection h1 with h1; rw [h1] at hA; cases hA
          · injection h1 with h1; rw [h1] at hA; injection hA with hA; subst hA; exact ⟨hb', hlt⟩)
        have NE := hide (fun ad hA => Nat.ne_of_gt (Nat.lt_of_lt_of_le BN.out.lt (LQ.out ad hA).1))
        replace BN := hide (BN.out.next hb)
        replace FB := hide (FB.out.trans (hb.mono FB.out.size))
        have FBo := FB
        clear hb hownq
        refine hK.out _ _ (HSK.out _ FB.out) (fun hHeld => ?_)
        clear hK K
        try go_simp
        refine wpAnyH_take (i := 4) (v := ?_) rfl (by kernel_rfl) (by kernel_rfl) (by kernel_rfl) (fun _ _ _ h => h) (Or.inl ⟨by rfl, ?_⟩) (by assumption) ?_
        rotate_left
        · (intro w hSw; (try dsimp only at hSw); go_simp; first | done | (with_reducible rfl))
        try go_simp
        refine wpAnyH_take (i := 5) (v := ?_) rfl (by kernel_rfl) (by kernel_rfl) (by kernel_rfl) (fun _ _ _ h => h) (Or.inl ⟨by rfl, ?_⟩) (by assumption) ?_
        rotate_left
        · (intro w hSw; (try dsimp only at hSw); go_simp; first | done | (with_reducible rfl))
        try go_simp
        refine wpAnyH_take (i := 6) (v := ?_) rfl (by kernel_rfl) (by kernel_rfl) (by kernel_rfl) (fun _ _ _ h => h) (Or.inl ⟨by rfl, ?_⟩) (by assumption) ?_
        rotate_left
        · (intro w hSw; (try dsimp only at hSw); go_simp; first | done | (with_reducible rfl))
        try go_simp
        have BN1 := BN.out.set0 (.int .i64 fu)
        have BN2 := hide (BN1.set1 (.slice Aq fs.length cq))
        have b0 := BN.out.c0
        have b1 := BN.out.c1
        have bf0 := BN.out.f 0
        have bf1 := BN1.f 1
        have b2 := BN1.c1
        have OZ := hide (ownQ_put OQ.out NE.out (.int .i64 fu) (.slice Aq fs.length cq))
        have FZ := hide ((FB.out.setCell (p := ⟨v3.heap.size, 0, none⟩) NB (.int .i64 fu)).setCell (p := ⟨v3.heap.size, 1, none⟩) NB (.slice Aq fs.length cq))
        have LZ := hide (show v3.heap.size < ((z1.setCell ⟨v3.heap.size, 0, none⟩ (.int .i64 fu)).setCell ⟨v3.heap.size, 1, none⟩ (.slice Aq fs.length cq)).heap.size from by have := BN.out.lt; simpa using this)
        have LQ2 := hide (show ∀ ad : Addr, Aq = some ad → ad.block < ((z1.setCell ⟨v3.heap.size, 0, none⟩ (.int .i64 fu)).setCell ⟨v3.heap.size, 1, none⟩ (.slice Aq fs.length cq)).heap.size from fun ad hA => by have h1 := (LQ.out ad hA).2; have h2 := BN.out.lt; simp at h2 ⊢; omega)
        clear BN1
        refine wpAnyH_ready (rs := [8]) (by kernel_rfl) (by simp) ?_
        refine AllReadyH.cons rfl (fun K hK => ?_) AllReadyH.nil
        go_simp
        refine hK.out _ _ (HSK.out _ FZ.out) (fun hHeld => ?_)
        clear hK K b0 b1 bf0 bf1 b2
        try go_simp
        refine wpAnyH_take (i := 9) (v := ?_) rfl (by kernel_rfl) (by kernel_rfl) (by kernel_rfl) (fun _ _ _ h => h) (Or.inl ⟨by rfl, ?_⟩) (by assumption) ?_
        rotate_left
        · (intro w hSw; (try dsimp only at hSw); go_simp; first | done | (with_reducible rfl))
        try go_simp
        refine wpAnyH_done (by kernel_rfl) ?_ _
        go_wp2_with fail
        go_meet
        case rel => exact ⟨v3.heap.size, Aq, cq, rfl, rfl, NB, LZ.out, BN2.out, OZ.out, fun ad hA => ⟨NE.out ad hA, LQ2.out ad hA⟩, FZ.out⟩
    case rest =>
    obtain ⟨bG, AG, cG, rfl, rfl, hlo, hhi, BG, OG, hne, hbc⟩ := hcut
    generalize wc = w4 at *
    have S4 := hide hbc.size
    have TG := hide (And.intro hlo hhi)
    replace BG := hide BG
    replace OG := hide OG
    have NG := hide (fun ad hA => (hne ad hA).1)
    have LG := hide (show ∀ ad : Addr, AG = some ad → v3.heap.size ≤ ad.block ∧ ad.block < w4.heap.size from fun ad hA => by
      rcases OG.out.form with ⟨h1, _⟩ | ⟨g, c', h1, hb, hlt⟩
      · injection h1 with h1; rw [h1] at hA; cases hA
      · injection h1 with h1; rw [h1] at hA; injection hA with hA; subst hA; exact ⟨hb, hlt⟩)
    replace q := hide (below_next q.out hbc)
    replace KX := hide (KX.out.next hbc)
    replace KC := hide (KC.out.next hbc)
    replace RW := hide (RW.out.below hbc (by have := S0.out; have := S00.out; have := S1.out; have := S2.out; have := TW.out; have := S3.out; have := T3.out; have := S4.out; have := TG.out; omega))
    replace BW := hide (BW.out.next hbc)
    replace Ob := hide (Ob.out.below hbc)
    replace BY := hide (BY.out.next hbc)
    clear hbc hlo hhi hne
    have xW0 := BW.out.c0
    have xW1 := BW.out.c1
    have xG0 := BG.out.c0
    have xG1 := BG.out.c1
    go_wp2_with fail
    refine (eqPuzzle_same _ _ _ _ _ _ _ _ _ _ OG.out.list RW.out (Nat.le_refl _) (by have := S0.out; have := S00.out; have := S1.out; have := S2.out; have := TW.out; have := S3.out; have := T3.out; have := S4.out; have := TG.out; omega) (by omega)).mono ?_
    rintro e w5 ⟨rfl, hb5⟩
    clear xW0 xW1 xG0 xG1
    have S5 := hide (hb5).size
    replace q := hide (below_next q.out hb5)
    replace KX := hide (KX.out.next hb5)
    replace KC := hide (KC.out.next hb5)
    replace RW := hide (RW.out.below hb5 (by have := S0.out; have := S00.out; have := S1.out; have := S2.out; have := TW.out; have := S3.out; have := T3.out; have := S4.out; have := TG.out; have := S5.out; omega))
    replace BW := hide (BW.out.next hb5)
    replace Ob := hide (Ob.out.below hb5)
    replace BY := hide (BY.out.next hb5)
    replace OG := hide (OG.out.below hb5)
    replace BG := hide (BG.out.next hb5)
    clear hb5
    have HS5 := hide (fun W (h : Below w5.heap.size w5 W) => And.intro h (And.intro (BY.out.next h).c0 (And.intro (BY.out.next h).c1 (And.intro (KX.out.next h).c0 (KX.out.next h).c1))))
    have HTC := hide (fun W (h : Below w5.heap.size w5 W) => toPuzzle_any A cs.length c cs u W ((HR.out.below (below_next q.out h) (Nat.le_refl _)).more (below_next q.out h).size) hcap2)
    have HEQ := hide (fun W (h : Below w5.heap.size w5 W) g (h' : Cls W W.heap.size (some ⟨g, 0, none⟩) cs.length cs) => eqPuzzle_same (some ⟨gb, 0, none⟩) (some ⟨g, 0, none⟩) cs.length cs.length cs.length _ _ cs u W (Ob.out.below h).list h' (Nat.le_refl _) (Nat.le_refl _) hcap2)
    go_wp2_with fail
    first | go_region_held3 (fun W => Below w5.heap.size w5 W ∧ W.cell? ⟨w3.heap.size, 0, none⟩ = some (.int .i64 u) ∧ W.cell? ⟨w3.heap.size, 1, none⟩ = some (.slice (some ⟨gb, 0, none⟩) cs.length cs.length) ∧ W.cell? ⟨w.heap.size, 0, none⟩ = some (.int .i64 u) ∧ W.cell? ⟨w.heap.size, 1, none⟩ = some (.slice A cs.length c))
      (first | exact HS5.out _ (Below.refl _ _).drew | exact HS5.out _ (below_next (And.left (by assumption)) hbd2) | exact HS5.out _ (below_next (And.left (by assumption)) hbd1) | go_keep)
      (first
      | (go_at_call 9; (with_reducible refine (HTC.out _ (And.left (by assumption))).mono ?_); rintro e wd1 ⟨g3, _, hz3, rfl, hrow3, hbd1⟩)
      | (go_at_call 11; (with_reducible refine (HEQ.out _ (And.left (by assumption)) _ (hrow3.list hz3)).mono ?_); rintro e wd2 ⟨rfl, hbd2⟩)) | fail
    have hbd : Below w5.heap.size w5 wd2 := And.left (by assumption : Below w5.heap.size w5 wd2 ∧ _)
    clear HTC HEQ HS5
    have S6 := hide hbd.size
    replace q := hide (below_next q.out hbd)
    replace KX := hide (KX.out.next hbd)
    replace KC := hide (KC.out.next hbd)
    replace RW := hide (RW.out.below hbd (by have := S0.out; have := S00.out; have := S1.out; have := S2.out; have := TW.out; have := S3.out; have := T3.out; have := S4.out; have := TG.out; have := S5.out; have := S6.out; omega))
    replace BW := hide (BW.out.next hbd)
    replace Ob := hide (Ob.out.below hbd)
    replace BY := hide (BY.out.next hbd)
    replace OG := hide (OG.out.below hbd)
    replace BG := hide (BG.out.next hbd)
    clear hbd
    have xY0 := BY.out.c0
    have xY1 := BY.out.c1
    go_wp2_with fail
    refine (markPuzzle_any _ _ _ _ _ _ _ _ Ob.out (by omega) (by omega) (by omega) (by have := S0.out; have := S00.out; have := S1.out; have := S2.out; have := TW.out; have := S3.out; have := T3.out; have := S4.out; have := TG.out; have := S5.out; have := S6.out; omega)).mono ?_
    rintro e w7 ⟨rfl, _, hb7, hoth7⟩
    clear xY0 xY1
    have S7 := hide (hb7).size
    replace q := hide (q.out.trans (hb7.mono (by have := S0.out; have := S00.out; have := S1.out; have := S2.out; have := TW.out; have := S3.out; have := T3.out; have := S4.out; have := TG.out; have := S5.out; have := S6.out; have := S7.out; omega)))
    replace KX := hide (KX.out.below hb7 (by have := S0.out; have := S00.out; have := S1.out; have := S2.out; have := TW.out; have := S3.out; have := T3.out; have := S4.out; have := TG.out; have := S5.out; have := S6.out; have := S7.out; omega))
    replace KC := hide (KC.out.below hb7 (by have := S0.out; have := S00.out; have := S1.out; have := S2.out; have := TW.out; have := S3.out; have := T3.out; have := S4.out; have := TG.out; have := S5.out; have := S6.out; have := S7.out; omega))
    replace RW := hide (RW.out.below hb7 (by have := S0.out; have := S00.out; have := S1.out; have := S2.out; have := TW.out; have := S3.out; have := T3.out; have := S4.out; have := TG.out; have := S5.out; have := S6.out; have := S7.out; omega))
    replace BW := hide (BW.out.below hb7 (by have := S0.out; have := S00.out; have := S1.out; have := S2.out; have := TW.out; have := S3.out; have := T3.out; have := S4.out; have := TG.out; have := S5.out; have := S6.out; have := S7.out; omega))
    replace BY := hide (show Bx w7 w3.heap.size 29 (.int .i64 u) (.slice (some ⟨gb, 0, none⟩) cs.length cs.length) from (hoth7 _ BY.out.lt (fun ad hA e => by have h' := (Lb.out ad hA).2; have := S0.out; have := S00.out; have := S1.out; have := S2.out; have := TW.out; have := S3.out; have := T3.out; have := S4.out; have := TG.out; have := S5.out; have := S6.out; have := S7.out; omega)).trans BY.out)
    replace OG := hide (OG.out.keep fun h hh hl => hoth7 h hl (fun ad hA e => by have h' := (Lb.out ad hA).2; have := S0.out; have := S00.out; have := S1.out; have := S2.out; have := TW.out; have := S3.out; have := T3.out; have := S4.out; have := TG.out; have := S5.out; have := S6.out; have := S7.out; omega))
    replace BG := hide (show Bx w7 bG 29 ((.int .i64 fu)) ((.slice AG fs.length cG)) from (hoth7 _ BG.out.lt (fun ad hA e => by have h' := (Lb.out ad hA).2; have := S0.out; have := S00.out; have := S1.out; have := S2.out; have := TW.out; have := S3.out; have := T3.out; have := S4.out; have := TG.out; have := S5.out; have := S6.out; have := S7.out; omega)).trans BG.out)
    clear hb7
    clear hoth7
    clear Ob
    have xW0 := BW.out.c0
    have xW1 := BW.out.c1
    have xG0 := BG.out.c0
    have xG1 := BG.out.c1
    go_wp2_with fail
    refine (eqPuzzle_same _ _ _ _ _ _ _ _ _ _ OG.out.list RW.out (Nat.le_refl _) (by have := S0.out; have := S00.out; have := S1.out; have := S2.out; have := TW.out; have := S3.out; have := T3.out; have := S4.out; have := TG.out; have := S5.out; have := S6.out; have := S7.out; omega) (by omega)).mono ?_
    rintro e w8 ⟨rfl, hb8⟩
    clear xW0 xW1 xG0 xG1
    have S8 := hide (hb8).size
    replace q := hide (below_next q.out hb8)
    replace KX := hide (KX.out.next hb8)
    replace KC := hide (KC.out.next hb8)
    replace RW := hide (RW.out.below hb8 (by have := S0.out; have := S00.out; have := S1.out; have := S2.out; have := TW.out; have := S3.out; have := T3.out; have := S4.out; have := TG.out; have := S5.out; have := S6.out; have := S7.out; have := S8.out; omega))
    replace BW := hide (BW.out.next hb8)
    replace BY := hide (BY.out.next hb8)
    replace OG := hide (OG.out.below hb8)
    replace BG := hide (BG.out.next hb8)
    clear hb8
    have xG0 := BG.out.c0
    have xG1 := BG.out.c1
    go_wp2_with fail
    refine (markPuzzle_any _ _ _ _ _ _ _ _ OG.out (by omega) (by omega) (by omega) (by have := S0.out; have := S00.out; have := S1.out; have := S2.out; have := TW.out; have := S3.out; have := T3.out; have := S4.out; have := TG.out; have := S5.out; have := S6.out; have := S7.out; have := S8.out; omega)).mono ?_
    rintro e w9 ⟨rfl, hG9, hb9, hoth9⟩
    clear xG0 xG1
    have S9 := hide (hb9).size
    replace q := hide (q.out.trans (hb9.mono (by have := S0.out; have := S00.out; have := S1.out; have := S2.out; have := TW.out; have := S3.out; have := T3.out; have := S4.out; have := TG.out; have := S5.out; have := S6.out; have := S7.out; have := S8.out; have := S9.out; omega)))
    replace KX := hide (KX.out.below hb9 (by have := S0.out; have := S00.out; have := S1.out; have := S2.out; have := TW.out; have := S3.out; have := T3.out; have := S4.out; have := TG.out; have := S5.out; have := S6.out; have := S7.out; have := S8.out; have := S9.out; omega))
    replace KC := hide (KC.out.below hb9 (by have := S0.out; have := S00.out; have := S1.out; have := S2.out; have := TW.out; have := S3.out; have := T3.out; have := S4.out; have := TG.out; have := S5.out; have := S6.out; have := S7.out; have := S8.out; have := S9.out; omega))
    replace RW := hide (RW.out.below hb9 (by have := S0.out; have := S00.out; have := S1.out; have := S2.out; have := TW.out; have := S3.out; have := T3.out; have := S4.out; have := TG.out; have := S5.out; have := S6.out; have := S7.out; have := S8.out; have := S9.out; omega))
    replace BW := hide (BW.out.below hb9 (by have := S0.out; have := S00.out; have := S1.out; have := S2.out; have := TW.out; have := S3.out; have := T3.out; have := S4.out; have := TG.out; have := S5.out; have := S6.out; have := S7.out; have := S8.out; have := S9.out; omega))
    replace BY := hide (BY.out.below hb9 (by have := S0.out; have := S00.out; have := S1.out; have := S2.out; have := TW.out; have := S3.out; have := T3.out; have := S4.out; have := TG.out; have := S5.out; have := S6.out; have := S7.out; have := S8.out; have := S9.out; omega))
    replace BG := hide (show Bx w9 bG 29 (.int .i64 fu) (.slice AG fs.length cG) from (hoth9 _ BG.out.lt (fun ad hA e => absurd e.symm (NG.out ad hA))).trans BG.out)
    clear hb9
    replace OG := hide hG9
    clear hG9 hoth9
    have xG0 := BG.out.c0
    have xG1 := BG.out.c1
    go_wp2_with fail
    refine (heldPuzzle_any _ _ _ _ _ _ _ OG.out (by omega) (by omega) (by omega)).mono ?_
    rintro e w10 ⟨rfl, hb10⟩
    clear xG0 xG1
    have S10 := hide (hb10).size
    replace q := hide (below_next q.out hb10)
    replace KX := hide (KX.out.next hb10)
    replace KC := hide (KC.out.next hb10)
    replace RW := hide (RW.out.below hb10 (by have := S0.out; have := S00.out; have := S1.out; have := S2.out; have := TW.out; have := S3.out; have := T3.out; have := S4.out; have := TG.out; have := S5.out; have := S6.out; have := S7.out; have := S8.out; have := S9.out; have := S10.out; omega))
    replace BW := hide (BW.out.next hb10)
    replace BY := hide (BY.out.next hb10)
    replace OG := hide (OG.out.below hb10)
    replace BG := hide (BG.out.next hb10)
    clear hb10
    go_upto_region 24 with fail
    go_cut [14, 15] from 16 (fun x y wc => CutP w10 29 fs fu bb x y wc)
    case first =>
      have HSK : Hid (∀ W, Below w10.heap.size w10 W → (fun W => W.cell? ⟨w.heap.size, 0, none⟩ = some (.int .i64 u) ∧ W.cell? ⟨w.heap.size, 1, none⟩ = some (.slice A cs.length c) ∧ W.cell? ⟨w.heap.size + 1, 0, none⟩ = some (.int .i64 d.x0) ∧ W.cell? ⟨w.heap.size + 1, 1, none⟩ = some (.int .i64 d.x1) ∧ W.cell? ⟨w.heap.size + 1, 2, none⟩ = some (.int .i64 d.x2) ∧ W.cell? ⟨w.heap.size + 1, 3, none⟩ = some (.int .i64 d.x3)) W) := hide (fun W h => ⟨(KX.out.next h).c0, (KX.out.next h).c1, (KC.out.next h).c0, (KC.out.next h).c1, (KC.out.next h).c2, (KC.out.next h).c3⟩)
      have HTC := hide (fun W => toClue_any d W)
      have HTP := hide (fun W (h : Below w10.heap.size w10 W) => toPuzzle_any A cs.length c cs u W ((HR.out.below (below_next q.out h) (Nat.le_refl _)).more (below_next q.out h).size) hcap2)
      refine wp_region_held_drew (S := (fun W => W.cell? ⟨w.heap.size, 0, none⟩ = some (.int .i64 u) ∧ W.cell? ⟨w.heap.size, 1, none⟩ = some (.slice A cs.length c) ∧ W.cell? ⟨w.heap.size + 1, 0, none⟩ = some (.int .i64 d.x0) ∧ W.cell? ⟨w.heap.size + 1, 1, none⟩ = some (.int .i64 d.x1) ∧ W.cell? ⟨w.heap.size + 1, 2, none⟩ = some (.int .i64 d.x2) ∧ W.cell? ⟨w.heap.size + 1, 3, none⟩ = some (.int .i64 d.x3))) (by kernel_rfl) ?_ (fun hHeld => ?_)
      · exact HSK.out _ (Below.refl _ _).drew
      have FB := hide (show Below w10.heap.size w10 w10.drew from (Below.refl _ _).drew)
      refine wpAnyH_take (i := 0) (v := ?_) rfl (by kernel_rfl) (by kernel_rfl) (by kernel_rfl) (fun _ _ _ h => h) (Or.inl ⟨by rfl, ?_⟩) (by assumption) ?_
      rotate_left
      · (intro w hSw; (try dsimp only at hSw); go_simp; first | done | (with_reducible rfl))
      try go_simp
      refine wpAnyH_take (i := 2) (v := ?_) rfl (by kernel_rfl) (by kernel_rfl) (by kernel_rfl) (fun _ _ _ h => h) (Or.inl ⟨by rfl, ?_⟩) (by assumption) ?_
      rotate_left
      · (intro w hSw; (try dsimp only at hSw); go_simp; first | done | (with_reducible rfl))
      try go_simp
      refine wpAnyH_ready (rs := [1, 8]) (by kernel_rfl) (by simp) ?_
      refine AllReadyH.cons rfl (fun K hK => ?_) (AllReadyH.cons rfl (fun K hK => ?_) AllReadyH.nil)
      ·
        go_simp
        refine (HTP.out _ FB.out).mono ?_
        rintro e z0 ⟨gP, haP, hzP, rfl, hrowP, hb⟩
        go_wp2_with fail
        have OP := hide (OwnICl.of_row hrowP haP (by unfold maxLen; omega))
        replace FB := hide (FB.out.trans (hb.mono FB.out.size))
        have FBo := FB
        clear hb haP hzP hrowP
        refine hK.out _ _ (HSK.out _ FB.out) (fun hHeld => ?_)
        clear hK K
        try go_simp
        refine wpAnyH_ready (rs := [3, 8]) (by kernel_rfl) (by simp) ?_
        refine AllReadyH.cons rfl (fun K hK => ?_) (AllReadyH.cons rfl (fun K hK => ?_) AllReadyH.nil)
        ·
          go_simp
          refine (HTC.out _).mono ?_
          rintro e z1 ⟨rfl, hb⟩
          go_wp2_with fail
          replace OP := hide (OP.out.below hb)
          replace FB := hide (FB.out.trans (hb.mono FB.out.size))
          have FBo := FB
          clear hb
          refine hK.out _ _ (HSK.out _ FB.out) (fun hHeld => ?_)
          clear hK K
          try go_simp
          refine wpAnyH_ready (rs := [4, 8]) (by kernel_rfl) (by simp) ?_
          refine AllReadyH.cons rfl (fun K hK => ?_) (AllReadyH.cons rfl (fun K hK => ?_) AllReadyH.nil)
          ·
            go_simp
            refine (HIM.out _ _ OP.out.list).mono ?_
            rintro e z2 ⟨Aq, cq, rfl, hownq, hb⟩
            go_wp2_with fail
            have OQ := hide (hownq.less (base' := w10.heap.size) FB.out.size)
            have LQ := hide (show ∀ ad : Addr, Aq = some ad → _ ≤ ad.block ∧ ad.block < z2.heap.size from fun ad hA => by
              rcases hownq.form with ⟨h1, _⟩ | ⟨g, c', h1, hb', hlt⟩
              · injection h1 with h1; rw [h1] at hA; cases hA
              · injection h1 with h1; rw [h1] at hA; injection hA with hA; subst hA; exact ⟨hb', hlt⟩)
            clear OP
            replace FB := hide (FB.out.trans (hb.mono FB.out.size))
            have FBo := FB
            clear hb hownq
            refine hK.out _ _ (HSK.out _ FB.out) (fun hHeld => ?_)
            clear hK K
            try go_simp
            refine wpAnyH_take (i := 5) (v := ?_) rfl (by kernel_rfl) (by kernel_rfl) (by kernel_rfl) (fun _ _ _ h => h) (Or.inl ⟨by rfl, ?_⟩) (by assumption) ?_
            rotate_left
            · (intro w hSw; (try dsimp only at hSw); go_simp; first | done | (with_reducible rfl))
            try go_simp
            refine wpAnyH_take (i := 6) (v := ?_) rfl (by kernel_rfl) (by kernel_rfl) (by kernel_rfl) (fun _ _ _ h => h) (Or.inl ⟨by rfl, ?_⟩) (by assumption) ?_
            rotate_left
            · (intro w hSw; (try dsimp only at hSw); go_simp; first | done | (with_reducible rfl))
            try go_simp
            refine wpAnyH_take (i := 7) (v := ?_) rfl (by kernel_rfl) (by kernel_rfl) (by kernel_rfl) (fun _ _ _ h => h) (Or.inl ⟨by rfl, ?_⟩) (by assumption) ?_
            rotate_left
            · (intro w hSw; (try dsimp only at hSw); go_simp; first | done | (with_reducible rfl))
            try go_simp
            refine wpAnyH_ready (rs := [8]) (by kernel_rfl) (by simp) ?_
            refine AllReadyH.cons rfl (fun K hK => ?_) AllReadyH.nil
            have FBp := FB
            have OQp := OQ
            go_simp
            replace FB := hide (show Below w10.heap.size w10 (z2.alloc (.cells #[.int .i64 0, .slice none 0 0] 29)) from FB.out.alloc FB.out.size _)
            have BN := hide (show Bx (z2.alloc (.cells #[.int .i64 0, .slice none 0 0] 29)) z2.heap.size 29 (.int .i64 0) (.slice none 0 0) from Bx.new z2 _ _ _)
            have NB : w10.heap.size ≤ z2.heap.size := (by have := FBo.out.size; simpa using this)
            replace OQ := hide (OQ.out.keep (w' := (z2.alloc (.cells #[.int .i64 0, .slice none 0 0] 29))) fun _ _ hg => Below.heap_alloc _ _ _ hg)
            have NE := hide (fun ad hA => Nat.ne_of_lt (LQ.out ad hA).2)
            refine hK.out _ _ (HSK.out _ FB.out) (fun hHeld => ?_)
            clear hK K
            try go_simp
            have b0 := BN.out.c0
            have b1 := BN.out.c1
            have bf0 := BN.out.f 0
            have bf1 := BN.out.f 1
            have BN2 := hide (Bx.new z2 29 (.int .i64 fu) (.slice Aq fs.length cq))
            have OZ := hide (OQp.out.keep (w' := (z2.alloc (.cells #[.int .i64 fu, .slice Aq fs.length cq] 29))) fun _ _ hg => Below.heap_alloc _ _ _ hg)
            have FZ := hide (show Below w10.heap.size w10 (z2.alloc (.cells #[.int .i64 fu, .slice Aq fs.length cq] 29)) from FBp.out.alloc FBp.out.size _)
            have LZ := hide (show z2.heap.size < (z2.alloc (.cells #[.int .i64 fu, .slice Aq fs.length cq] 29)).heap.size from by simp)
            have LQ2 := hide (show ∀ ad : Addr, Aq = some ad → ad.block < (z2.alloc (.cells #[.int .i64 fu, .slice Aq fs.length cq] 29)).heap.size from fun ad hA => by have h1 := (LQ.out ad hA).2; simp; omega)
            refine wpAnyH_ready (rs := [9]) (by kernel_rfl) (by simp) ?_
            refine AllReadyH.cons rfl (fun K hK => ?_) AllReadyH.nil
            go_simp
            refine hK.out _ _ (HSK.out _ FZ.out) (fun hHeld => ?_)
            clear hK K b0 b1 bf0 bf1
            try go_simp
            refine wpAnyH_take (i := 10) (v := ?_) rfl (by kernel_rfl) (by kernel_rfl) (by kernel_rfl) (fun _ _ _ h => h) (Or.inl ⟨by rfl, ?_⟩) (by assumption) ?_
            rotate_left
            · (intro w hSw; (try dsimp only at hSw); go_simp; first | done | (with_reducible rfl))
            try go_simp
            refine wpAnyH_done (by kernel_rfl) ?_ _
            go_wp2_with fail
            go_meet
            case rel => exact ⟨z2.heap.size, Aq, cq, rfl, rfl, NB, LZ.out, BN2.out, OZ.out, fun ad hA => ⟨NE.out ad hA, LQ2.out ad hA⟩, FZ.out⟩
          ·
            go_simp
            replace FB := hide (show Below w10.heap.size w10 (z1.alloc (.cells #[.int .i64 0, .slice none 0 0] 29)) from FB.out.alloc FB.out.size _)
            have BN := hide (show Bx (z1.alloc (.cells #[.int .i64 0, .slice none 0 0] 29)) z1.heap.size 29 (.int .i64 0) (.slice none 0 0) from Bx.new z1 _ _ _)
            have NB : w10.heap.size ≤ z1.heap.size := (by have := FBo.out.size; simpa using this)
            replace OP := hide (OP.out.keep (w' := (z1.alloc (.cells #[.int .i64 0, .slice none 0 0] 29))) fun _ _ hg => Below.heap_alloc _ _ _ hg)
            refine hK.out _ _ (HSK.out _ FB.out) (fun hHeld => ?_)
            clear hK K
            try go_simp
            refine wpAnyH_ready (rs := [4]) (by kernel_rfl) (by simp) ?_
            refine AllReadyH.cons rfl (fun K hK => ?_) AllReadyH.nil
            go_simp
            refine (HIM.out _ _ OP.out.list).mono ?_
            rintro e z2 ⟨Aq, cq, rfl, hownq, hb⟩
            go_wp2_with fail
            have OQ := hide (hownq.less (base' := w10.heap.size) FB.out.size)
            have LQ := hide (show ∀ ad : Addr, Aq = some ad → _ ≤ ad.block ∧ ad.block < z2.heap.size from fun ad hA => by
              rcases hownq.form with ⟨h1, _⟩ | ⟨g, c', h1, hb', hlt⟩
              · injection h1 with h1; rw [h1] at hA; cases hA
              · injection h1 with h1; rw [h1] at hA; injection hA with hA; subst hA; exact ⟨hb', hlt⟩)
            clear OP
            have NE := hide (fun ad hA => Nat.ne_of_gt (Nat.lt_of_lt_of_le BN.out.lt (LQ.out ad hA).1))
            replace BN := hide (BN.out.next hb)
            replace FB := hide (FB.out.trans (hb.mono FB.out.size))
            have FBo := FB
            clear hb hownq
            refine hK.out _ _ (HSK.out _ FB.out) (fun hHeld => ?_)
            clear hK K
            try go_simp
            refine wpAnyH_take (i := 5) (v := ?_) rfl (by kernel_rfl) (by kernel_rfl) (by kernel_rfl) (fun _ _ _ h => h) (Or.inl ⟨by rfl, ?_⟩) (by assumption) ?_
            rotate_left
            · (intro w hSw; (try dsimp only at hSw); go_simp; first | done | (with_reducible rfl))
            try go_simp
            refine wpAnyH_take (i := 6) (v := ?_) rfl (by kernel_rfl) (by kernel_rfl) (by kernel_rfl) (fun _ _ _ h => h) (Or.inl ⟨by rfl, ?_⟩) (by assumption) ?_
            rotate_left
            · (intro w hSw; (try dsimp only at hSw); go_simp; first | done | (with_reducible rfl))
            try go_simp
            refine wpAnyH_take (i := 7) (v := ?_) rfl (by kernel_rfl) (by kernel_rfl) (by kernel_rfl) (fun _ _ _ h => h) (Or.inl ⟨by rfl, ?_⟩) (by assumption) ?_
            rotate_left
            · (intro w hSw; (try dsimp only at hSw); go_simp; first | done | (with_reducible rfl))
            try go_simp
            have BN1 := BN.out.set0 (.int .i64 fu)
            have BN2 := hide (BN1.set1 (.slice Aq fs.length cq))
            have b0 := BN.out.c0
            have b1 := BN.out.c1
            have bf0 := BN.out.f 0
            have bf1 := BN1.f 1
            have b2 := BN1.c1
            have OZ := hide (ownQ_put OQ.out NE.out (.int .i64 fu) (.slice Aq fs.length cq))
            have FZ := hide ((FB.out.setCell (p := ⟨z1.heap.size, 0, none⟩) NB (.int .i64 fu)).setCell (p := ⟨z1.heap.size, 1, none⟩) NB (.slice Aq fs.length cq))
            have LZ := hide (show z1.heap.size < ((z2.setCell ⟨z1.heap.size, 0, none⟩ (.int .i64 fu)).setCell ⟨z1.heap.size, 1, none⟩ (.slice Aq fs.length cq)).heap.size from by have := BN.out.lt; simpa using this)
            have LQ2 := hide (show ∀ ad : Addr, Aq = some ad → ad.block < ((z2.setCell ⟨z1.heap.size, 0, none⟩ (.int .i64 fu)).setCell ⟨z1.heap.size, 1, none⟩ (.slice Aq fs.length cq)).heap.size from fun ad hA => by have h1 := (LQ.out ad hA).2; have h2 := BN.out.lt; simp at h2 ⊢; omega)
            clear BN1
            refine wpAnyH_ready (rs := [9]) (by kernel_rfl) (by simp) ?_
            refine AllReadyH.cons rfl (fun K hK => ?_) AllReadyH.nil
            go_simp
            refine hK.out _ _ (HSK.out _ FZ.out) (fun hHeld => ?_)
            clear hK K b0 b1 bf0 bf1 b2
            try go_simp
            refine wpAnyH_take (i := 10) (v := ?_) rfl (by kernel_rfl) (by kernel_rfl) (by kernel_rfl) (fun _ _ _ h => h) (Or.inl ⟨by rfl, ?_⟩) (by assumption) ?_
            rotate_left
            · (intro w hSw; (try dsimp only at hSw); go_simp; first | done | (with_reducible rfl))
            try go_simp
            refine wpAnyH_done (by kernel_rfl) ?_ _
            go_wp2_with fail
            go_meet
            case rel => exact ⟨z1.heap.size, Aq, cq, rfl, rfl, NB, LZ.out, BN2.out, OZ.out, fun ad hA => ⟨NE.out ad hA, LQ2.out ad hA⟩, FZ.out⟩
        ·
          go_simp
          replace FB := hide (show Below w10.heap.size w10 (z0.alloc (.cells #[.int .i64 0, .slice none 0 0] 29)) from FB.out.alloc FB.out.size _)
          have BN := hide (show Bx (z0.alloc (.cells #[.int .i64 0, .slice none 0 0] 29)) z0.heap.size 29 (.int .i64 0) (.slice none 0 0) from Bx.new z0 _ _ _)
          have NB : w10.heap.size ≤ z0.heap.size := (by have := FBo.out.size; simpa using this)
          replace OP := hide (OP.out.keep (w' := (z0.alloc (.cells #[.int .i64 0, .slice none 0 0] 29))) fun _ _ hg => Below.heap_alloc _ _ _ hg)
          refine hK.out _ _ (HSK.out _ FB.out) (fun hHeld => ?_)
          clear hK K
          try go_simp
          refine wpAnyH_ready (rs := [3]) (by kernel_rfl) (by simp) ?_
          refine AllReadyH.cons rfl (fun K hK => ?_) AllReadyH.nil
          go_simp
          refine (HTC.out _).mono ?_
          rintro e z1 ⟨rfl, hb⟩
          go_wp2_with fail
          replace OP := hide (OP.out.below hb)
          replace BN := hide (BN.out.next hb)
          replace FB := hide (FB.out.trans (hb.mono FB.out.size))
          have FBo := FB
          clear hb
          refine hK.out _ _ (HSK.out _ FB.out) (fun hHeld => ?_)
          clear hK K
          try go_simp
          refine wpAnyH_ready (rs := [4]) (by kernel_rfl) (by simp) ?_
          refine AllReadyH.cons rfl (fun K hK => ?_) AllReadyH.nil
          go_simp
          refine (HIM.out _ _ OP.out.list).mono ?_
          rintro e z2 ⟨Aq, cq, rfl, hownq, hb⟩
          go_wp2_with fail
          have OQ := hide (hownq.less (base' := w10.heap.size) FB.out.size)
          have LQ := hide (show ∀ ad : Addr, Aq = some ad → _ ≤ ad.block ∧ ad.block < z2.heap.size from fun ad hA => by
            rcases hownq.form with ⟨h1, _⟩ | ⟨g, c', h1, hb', hlt⟩
            · injection h1 with h1; rw [h1] at hA; cases hA
            · injection h1 with h1; rw [h1] at hA; injection hA with hA; subst hA; exact ⟨hb', hlt⟩)
          clear OP
          have NE := hide (fun ad hA => Nat.ne_of_gt (Nat.lt_of_lt_of_le BN.out.lt (LQ.out ad hA).1))
          replace BN := hide (BN.out.next hb)
          replace FB := hide (FB.out.trans (hb.mono FB.out.size))
          have FBo := FB
          clear hb hownq
          refine hK.out _ _ (HSK.out _ FB.out) (fun hHeld => ?_)
          clear hK K
          try go_simp
          refine wpAnyH_take (i := 5) (v := ?_) rfl (by kernel_rfl) (by kernel_rfl) (by kernel_rfl) (fun _ _ _ h => h) (Or.inl ⟨by rfl, ?_⟩) (by assumption) ?_
          rotate_left
          · (intro w hSw; (try dsimp only at hSw); go_simp; first | done | (with_reducible rfl))
          try go_simp
          refine wpAnyH_take (i := 6) (v := ?_) rfl (by kernel_rfl) (by kernel_rfl) (by kernel_rfl) (fun _ _ _ h => h) (Or.inl ⟨by rfl, ?_⟩) (by assumption) ?_
          rotate_left
          · (intro w hSw; (try dsimp only at hSw); go_simp; first | done | (with_reducible rfl))
          try go_simp
          refine wpAnyH_take (i := 7) (v := ?_) rfl (by kernel_rfl) (by kernel_rfl) (by kernel_rfl) (fun _ _ _ h => h) (Or.inl ⟨by rfl, ?_⟩) (by assumption) ?_
          rotate_left
          · (intro w hSw; (try dsimp only at hSw); go_simp; first | done | (with_reducible rfl))
          try go_simp
          have BN1 := BN.out.set0 (.int .i64 fu)
          have BN2 := hide (BN1.set1 (.slice Aq fs.length cq))
          have b0 := BN.out.c0
          have b1 := BN.out.c1
          have bf0 := BN.out.f 0
          have bf1 := BN1.f 1
          have b2 := BN1.c1
          have OZ := hide (ownQ_put OQ.out NE.out (.int .i64 fu) (.slice Aq fs.length cq))
          have FZ := hide ((FB.out.setCell (p := ⟨z0.heap.size, 0, none⟩) NB (.int .i64 fu)).setCell (p := ⟨z0.heap.size, 1, none⟩) NB (.slice Aq fs.length cq))
          have LZ := hide (show z0.heap.size < ((z2.setCell ⟨z0.heap.size, 0, none⟩ (.int .i64 fu)).setCell ⟨z0.heap.size, 1, none⟩ (.slice Aq fs.length cq)).heap.size from by have := BN.out.lt; simpa using this)
          have LQ2 := hide (show ∀ ad : Addr, Aq = some ad → ad.block < ((z2.setCell ⟨z0.heap.size, 0, none⟩ (.int .i64 fu)).setCell ⟨z0.heap.size, 1, none⟩ (.slice Aq fs.length cq)).heap.size from fun ad hA => by have h1 := (LQ.out ad hA).2; have h2 := BN.out.lt; simp at h2 ⊢; omega)
          clear BN1
          refine wpAnyH_ready (rs := [9]) (by kernel_rfl) (by simp) ?_
          refine AllReadyH.cons rfl (fun K hK => ?_) AllReadyH.nil
          go_simp
          refine hK.out _ _ (HSK.out _ FZ.out) (fun hHeld => ?_)
          clear hK K b0 b1 bf0 bf1 b2
          try go_simp
          refine wpAnyH_take (i := 10) (v := ?_) rfl (by kernel_rfl) (by kernel_rfl) (by kernel_rfl) (fun _ _ _ h => h) (Or.inl ⟨by rfl, ?_⟩) (by assumption) ?_
          rotate_left
          · (intro w hSw; (try dsimp only at hSw); go_simp; first | done | (with_reducible rfl))
          try go_simp
          refine wpAnyH_done (by kernel_rfl) ?_ _
          go_wp2_with fail
          go_meet
          case rel => exact ⟨z0.heap.size, Aq, cq, rfl, rfl, NB, LZ.out, BN2.out, OZ.out, fun ad hA => ⟨NE.out ad hA, LQ2.out ad hA⟩, FZ.out⟩
      ·
        go_simp
        replace FB := hide (show Below w10.heap.size w10 (w10.alloc (.cells #[.int .i64 0, .slice none 0 0] 29)).drew from Below.drew ((Below.refl _ _).alloc (Nat.le_refl _) _))
        have BN := hide (show Bx (w10.alloc (.cells #[.int .i64 0, .slice none 0 0] 29)).drew w10.heap.size 29 (.int .i64 0) (.slice none 0 0) from Bx.new w10 _ _ _)
        have NB : w10.heap.size ≤ w10.heap.size := Nat.le_refl _
        refine hK.out _ _ (HSK.out _ FB.out) (fun hHeld => ?_)
        clear hK K
        try go_simp
        refine wpAnyH_ready (rs := [1]) (by kernel_rfl) (by simp) ?_
        refine AllReadyH.cons rfl (fun K hK => ?_) AllReadyH.nil
        go_simp
        refine (HTP.out _ FB.out).mono ?_
        rintro e z0 ⟨gP, haP, hzP, rfl, hrowP, hb⟩
        go_wp2_with fail
        have OP := hide (OwnICl.of_row hrowP haP (by unfold maxLen; omega))
        replace BN := hide (BN.out.next hb)
        replace FB := hide (FB.out.trans (hb.mono FB.out.size))
        have FBo := FB
        clear hb haP hzP hrowP
        refine hK.out _ _ (HSK.out _ FB.out) (fun hHeld => ?_)
        clear hK K
        try go_simp
        refine wpAnyH_ready (rs := [3]) (by kernel_rfl) (by simp) ?_
        refine AllReadyH.cons rfl (fun K hK => ?_) AllReadyH.nil
        go_simp
        refine (HTC.out _).mono ?_
        rintro e z1 ⟨rfl, hb⟩
        go_wp2_with fail
        replace OP := hide (OP.out.below hb)
        replace BN := hide (BN.out.next hb)
        replace FB := hide (FB.out.trans (hb.mono FB.out.size))
        have FBo := FB
        clear hb
        refine hK.out _ _ (HSK.out _ FB.out) (fun hHeld => ?_)
        clear hK K
        try go_simp
        refine wpAnyH_ready (rs := [4]) (by kernel_rfl) (by simp) ?_
        refine AllReadyH.cons rfl (fun K hK => ?_) AllReadyH.nil
        go_simp
        refine (HIM.out _ _ OP.out.list).mono ?_
        rintro e z2 ⟨Aq, cq, rfl, hownq, hb⟩
        go_wp2_with fail
        have OQ := hide (hownq.less (base' := w10.heap.size) FB.out.size)
        have LQ := hide (show ∀ ad : Addr, Aq = some ad → _ ≤ ad.block ∧ ad.block < z2.heap.size from fun ad hA => by
          rcases hownq.form with ⟨h1, _⟩ | ⟨g, c', h1, hb', hlt⟩
          · injection h1 with h1; rw [h1] at hA; cases hA
          · injection h1 with h1; rw [h1] at hA; injection hA with hA; subst hA; exact ⟨hb', hlt⟩)
        clear OP
        have NE := hide (fun ad hA => Nat.ne_of_gt (Nat.lt_of_lt_of_le BN.out.lt (LQ.out ad hA).1))
        replace BN := hide (BN.out.next hb)
        replace FB := hide (FB.out.trans (hb.mono FB.out.size))
        have FBo := FB
        clear hb hownq
        refine hK.out _ _ (HSK.out _ FB.out) (fun hHeld => ?_)
        clear hK K
        try go_simp
        refine wpAnyH_take (i := 5) (v := ?_) rfl (by kernel_rfl) (by kernel_rfl) (by kernel_rfl) (fun _ _ _ h => h) (Or.inl ⟨by rfl, ?_⟩) (by assumption) ?_
        rotate_left
        · (intro w hSw; (try dsimp only at hSw); go_simp; first | done | (with_reducible rfl))
        try go_simp
        refine wpAnyH_take (i := 6) (v := ?_) rfl (by kernel_rfl) (by kernel_rfl) (by kernel_rfl) (fun _ _ _ h => h) (Or.inl ⟨by rfl, ?_⟩) (by assumption) ?_
        rotate_left
        · (intro w hSw; (try dsimp only at hSw); go_simp; first | done | (with_reducible rfl))
        try go_simp
        refine wpAnyH_take (i := 7) (v := ?_) rfl (by kernel_rfl) (by kernel_rfl) (by kernel_rfl) (fun _ _ _ h => h) (Or.inl ⟨by rfl, ?_⟩) (by assumption) ?_
        rotate_left
        · (intro w hSw; (try dsimp only at hSw); go_simp; first | done | (with_reducible rfl))
        try go_simp
        have BN1 := BN.out.set0 (.int .i64 fu)
        have BN2 := hide (BN1.set1 (.slice Aq fs.length cq))
        have b0 := BN.out.c0
        have b1 := BN.out.c1
        have bf0 := BN.out.f 0
        have bf1 := BN1.f 1
        have b2 := BN1.c1
        have OZ := hide (ownQ_put OQ.out NE.out (.int .i64 fu) (.slice Aq fs.length cq))
        have FZ := hide ((FB.out.setCell (p := ⟨w10.heap.size, 0, none⟩) NB (.int .i64 fu)).setCell (p := ⟨w10.heap.size, 1, none⟩) NB (.slice Aq fs.length cq))
        have LZ := hide (show w10.heap.size < ((z2.setCell ⟨w10.heap.size, 0, none⟩ (.int .i64 fu)).setCell ⟨w10.heap.size, 1, none⟩ (.slice Aq fs.length cq)).heap.size from by have := BN.out.lt; simpa using this)
        have LQ2 := hide (show ∀ ad : Addr, Aq = some ad → ad.block < ((z2.setCell ⟨w10.heap.size, 0, none⟩ (.int .i64 fu)).setCell ⟨w10.heap.size, 1, none⟩ (.slice Aq fs.length cq)).heap.size from fun ad hA => by have h1 := (LQ.out ad hA).2; have h2 := BN.out.lt; simp at h2 ⊢; omega)
        clear BN1
        refine wpAnyH_ready (rs := [9]) (by kernel_rfl) (by simp) ?_
        refine AllReadyH.cons rfl (fun K hK => ?_) AllReadyH.nil
        go_simp
        refine hK.out _ _ (HSK.out _ FZ.out) (fun hHeld => ?_)
        clear hK K b0 b1 bf0 bf1 b2
        try go_simp
        refine wpAnyH_take (i := 10) (v := ?_) rfl (by kernel_rfl) (by kernel_rfl) (by kernel_rfl) (fun _ _ _ h => h) (Or.inl ⟨by rfl, ?_⟩) (by assumption) ?_
        rotate_left
        · (intro w hSw; (try dsimp only at hSw); go_simp; first | done | (with_reducible rfl))
        try go_simp
        refine wpAnyH_done (by kernel_rfl) ?_ _
        go_wp2_with fail
        go_meet
        case rel => exact ⟨w10.heap.size, Aq, cq, rfl, rfl, NB, LZ.out, BN2.out, OZ.out, fun ad hA => ⟨NE.out ad hA, LQ2.out ad hA⟩, FZ.out⟩
    case rest =>
    obtain ⟨bH, AH, cH, rfl, rfl, hlo, hhi, BH, OH, hne, hbc⟩ := hcut
    generalize wc = w11 at *
    have S11 := hide hbc.size
    have TH := hide (And.intro hlo hhi)
    replace BH := hide BH
    replace OH := hide OH
    have NH := hide (fun ad hA => (hne ad hA).1)
    have LH := hide (show ∀ ad : Addr, AH = some ad → w10.heap.size ≤ ad.block ∧ ad.block < w11.heap.size from fun ad hA => by
      rcases OH.out.form with ⟨h1, _⟩ | ⟨g, c', h1, hb, hlt⟩
      · injection h1 with h1; rw [h1] at hA; cases hA
      · injection h1 with h1; rw [h1] at hA; injection hA with hA; subst hA; exact ⟨hb, hlt⟩)
    replace q := hide (below_next q.out hbc)
    replace KX := hide (KX.out.next hbc)
    replace KC := hide (KC.out.next hbc)
    replace RW := hide (RW.out.below hbc (by have := S0.out; have := S00.out; have := S1.out; have := S2.out; have := TW.out; have := S3.out; have := T3.out; have := S4.out; have := TG.out; have := S5.out; have := S6.out; have := S7.out; have := S8.out; have := S9.out; have := S10.out; have := S11.out; have := TH.out; omega))
    replace BW := hide (BW.out.next hbc)
    replace BY := hide (BY.out.next hbc)
    replace OG := hide (OG.out.below hbc)
    replace BG := hide (BG.out.next hbc)
    clear hbc hlo hhi hne
    have xW0 := BW.out.c0
    have xW1 := BW.out.c1
    have xH0 := BH.out.c0
    have xH1 := BH.out.c1
    go_wp2_with fail
    refine (eqPuzzle_same _ _ _ _ _ _ _ _ _ _ OH.out.list RW.out (Nat.le_refl _) (by have := S0.out; have := S00.out; have := S1.out; have := S2.out; have := TW.out; have := S3.out; have := T3.out; have := S4.out; have := TG.out; have := S5.out; have := S6.out; have := S7.out; have := S8.out; have := S9.out; have := S10.out; have := S11.out; have := TH.out; omega) (by omega)).mono ?_
    rintro e w12 ⟨rfl, hb12⟩
    clear xW0 xW1 xH0 xH1
    have S12 := hide (hb12).size
    replace q := hide (below_next q.out hb12)
    replace KX := hide (KX.out.next hb12)
    replace KC := hide (KC.out.next hb12)
    replace RW := hide (RW.out.below hb12 (by have := S0.out; have := S00.out; have := S1.out; have := S2.out; have := TW.out; have := S3.out; have := T3.out; have := S4.out; have := TG.out; have := S5.out; have := S6.out; have := S7.out; have := S8.out; have := S9.out; have := S10.out; have := S11.out; have := TH.out; have := S12.out; omega))
    replace BW := hide (BW.out.next hb12)
    replace BY := hide (BY.out.next hb12)
    replace OG := hide (OG.out.below hb12)
    replace BG := hide (BG.out.next hb12)
    replace OH := hide (OH.out.below hb12)
    replace BH := hide (BH.out.next hb12)
    clear hb12
    have xG0 := BG.out.c0
    have xG1 := BG.out.c1
    go_wp2_with fail
    refine (heldPuzzle_any _ _ _ _ _ _ _ OG.out (by omega) (by omega) (by omega)).mono ?_
    rintro e w13 ⟨rfl, hb13⟩
    clear xG0 xG1
    have S13 := hide (hb13).size
    replace q := hide (below_next q.out hb13)
    replace KX := hide (KX.out.next hb13)
    replace KC := hide (KC.out.next hb13)
    replace RW := hide (RW.out.below hb13 (by have := S0.out; have := S00.out; have := S1.out; have := S2.out; have := TW.out; have := S3.out; have := T3.out; have := S4.out; have := TG.out; have := S5.out; have := S6.out; have := S7.out; have := S8.out; have := S9.out; have := S10.out; have := S11.out; have := TH.out; have := S12.out; have := S13.out; omega))
    replace BW := hide (BW.out.next hb13)
    replace BY := hide (BY.out.next hb13)
    replace OG := hide (OG.out.below hb13)
    replace BG := hide (BG.out.next hb13)
    replace OH := hide (OH.out.below hb13)
    replace BH := hide (BH.out.next hb13)
    clear hb13
    go_wp2_with fail
    go_ret
    exact ⟨rfl, q.out⟩
end Go.Proofs.Ytngegolpnofnhaa
