
/-
  CHIPS READ BACK BY THE MODEL.
-/
import Derived.Test.YtepdfpdhabaijaaDoorcParM
import Derived.Test.YtepdfpdhabaijaaDoorcTextI
namespace Go.Proofs.YtepdfpdhabaijaaDoor
open Go.RowKit Go.Deep
set_option linter.unusedVariables false

set_option maxRecDepth 1000000 in
/-- The model's ParseChips. -/
theorem specParseChips_any (l : List UInt8) (w : World) (hmax : l.length ≤ 1048576) :
    Calls Tryd.prog 9 #[.string (bs l)] w (MadeP (hpL l) (hpB l) w) := by
  have HL := hide (str_len l)
  have hlen := HL.out
  by_cases h60 : 60 < l.length
  · have HB := hide (show hpB l = false from by
      cases h : hpB l
      · rfl
      · have := hp_short h; omega)
    have HZ := hide (show hpL l = [] from by unfold hpL; rw [HB.out]; rfl)
    rw [HZ.out, HB.out]
    generalize bs l = s at *
    go_enter Tryd.func9, Tryd.ntmps9
    go_wp2_with fail
    go_ret2
    exact madeP_nil _ _ (Below.refl _ _)
  · have hpl := sp_length l
    have hcl : l.count 46 ≤ l.length := List.count_le_length
    have hwn : (sp l).length ≤ 61 := by omega
    have HR := hide (fun (k : Nat) (hk : k < (sp l).length) (W : World) => l1Read_any ((sp l).getD k []) W (by
      have := sp_piece_len l ((sp l).getD k []) (by
        rw [List.getD, List.getElem?_eq_getElem hk]; exact List.getElem_mem hk)
      omega))
    have HS := hide (fun W => l1Split_any l W (by omega))
    have HT := hide (map_take_succ (sp l))
    have HX := hide (fun h : hgood ((sp l).map rd) = true => (congrArg bs (txt_read h) : bs (txt ((sp l).map rd)) = bs l))
    have Hl := hide (show hpL l = if hpB l then (sp l).map rd else [] from rfl)
    have Hb := hide (show hpB l = hgood ((sp l).map rd) from rfl)
    clear hpl hcl
    generalize bs l = s at *
    generalize hpL l = zs at *
    generalize hpB l = b at *
    generalize sp l = ws at *
    go_enter Tryd.func9, Tryd.ntmps9
    go_wp2_with fail
    refine (HS.out _).mono ?_; rintro e w1 ⟨A, c, rfl, _, _, hown, hb1⟩
    have hstr := hown.strs
    have s1 := hb1.size
    go_wp2_with fail
    go_loopw [4, 13] (fun v i wr => ∃ k : Nat, k ≤ ws.length ∧ i = .int .i64 k ∧ Own wr w1.heap.size 3 v ((ws.map rd).take k) ∧ Below w1.heap.size w1 wr)
      (fun _ i _ => ws.length - (intOf i).toNat)
    case atStart => exact ⟨0, by omega, rfl, Own.nil _ _ _, Below.refl _ _⟩
    case round =>
      obtain ⟨k, hk, rfl, hown1, hb2⟩ := hrel
      have hsz := hb2.size
      have hll : ((ws.map rd).take k).length < 1000000 := by rw [List.length_take]; omega
      by_cases hlt : k < ws.length
      · obtain ⟨ad, rfl, hab, hcell⟩ := (hstr.below hb2 (Nat.le_refl _)).at_ hlt
        have HK := hide (HR.out k hlt)
        have HE := hide (HT.out k hlt)
        generalize ws.getD k [] = pc at *
        generalize bs pc = ps at *
        generalize rd pc = x at *
        go_wp2_with (first | (go_at_call 18; refine (HK.out _).mono ?_; rintro e w' ⟨rfl, rfl⟩) | (at_builtin; refine wpList_app_int rfl _ _ 22 3 rfl Tryd.underlying22 infoInt w1.heap.size _ _ rfl hown1 _ _ rfl hsz hll ?_; intro v' w' hown' hb'))
        go_roundw
        case rel => exact ⟨k + 1, by omega, by go_num, by rw [HE.out]; exact hown', hb2.trans hb'⟩
        case measure => simp [intOf]; omega
      · have HE := hide (show (ws.map rd).take k = ws.map rd from List.take_of_length_le (by simp; omega))
        rw [HE.out] at hown1
        obtain ⟨A', c', rfl, h1, h2⟩ := hown1.shape
        have HG := hide (chGood_any A' (ws.map rd).length c' wr.heap.size (ws.map rd) wr hown1.ints (by simp; omega))
        rw [← Hb.out] at HG
        have HO := hide hown1
        have Hb3 := hide (below_next hb1 hb2)
        have hml : (ws.map rd).length ≤ 61 := by simp; omega
        clear hown1 hll
        have HTx := hide (fun h : b = true => by
          have hg2 : hgood (ws.map rd) = true := by rw [← Hb.out]; exact h
          have := chText_any A' (ws.map rd).length c' wr.heap.size (ws.map rd) wr HO.out.ints (Nat.le_refl _) (by omega) (good_z hg2)
          rw [HX.out hg2] at this
          exact this)
        clear HX
        generalize hys : ws.map rd = ys at *
        clear hys
        cases b
        · have hz : zs = [] := Hl.out
          subst hz
          go_wp2_with (go_at_call 13; refine HG.out.mono ?_; rintro e w' ⟨rfl, rfl⟩)
          go_ret2
          exact madeP_nil _ _ Hb3.out
        · have hz : zs = ys := Hl.out
          subst hz
          have HT2 := hide (HTx.out rfl)
          clear HTx
          have s3 := Hb3.out.size
          go_wp2_with (first | (go_at_call 13; refine HG.out.mono ?_; rintro e w' ⟨rfl, rfl⟩) | (go_at_call 14; refine HT2.out.mono ?_; rintro e w' ⟨rfl, hbt⟩))
          go_ret2
          exact ⟨A', c', rfl, h1, h2, (HO.out.below hbt).less hb1.size, Hb3.out.trans (hbt.mono s3)⟩
end Go.Proofs.YtepdfpdhabaijaaDoor
