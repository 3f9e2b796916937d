
/-
  THE TEXT OF SPLITS, the model's way, and the walk of its law.
-/
import Derived.Test.YtflkgkajkoaaiaaDoorSlT
namespace Go.Proofs.YtflkgkajkoaaiaaDoor
open Go.RowKit Go.Deep
set_option linter.unusedVariables false

set_option maxRecDepth 1000000 in
/-- The model's slList. -/
theorem slList_any (A : Option Addr) (n c B : Nat) (ds : List Sp) (w : World) (hr : Sps w B A n ds) (hB : B ≤ w.heap.size) (hn : n ≤ 1099511627776) :
    Calls Tryd.prog 14 #[.slice A n c] w fun e w' => e = .returned (.bool (spsOk ds)) ∧ Below w.heap.size w w' := by
  obtain rfl := hr.len
  by_cases hl : ds.length ≤ 60
  · go_enter Tryd.func14, Tryd.ntmps14
    go_wp2_with fail
    go_loopw [10] (fun i wr => ∃ k : Nat, k ≤ ds.length ∧ i = .int .i64 k ∧ Hid (∀ (j : Nat) (_ : j < ds.length), j < k → sok ds[j].x0 ds[j].x1 = true) ∧ Below w.heap.size w wr)
      (fun i _ => ds.length - (intOf i).toNat)
    case atStart => exact ⟨0, Nat.zero_le _, rfl, hide (fun _ _ h => by omega), Below.refl _ _⟩
    case round =>
      obtain ⟨k, hk, rfl, HAll, hb⟩ := hrel
      by_cases hlt : k < ds.length
      · obtain ⟨b, off, rfl, hab, hc0, hc1⟩ := (hr.below hb hB).at_ hlt hlt
        have hb0 := hb.size
        have HA := hide (fun W => l1In_any ds[k].x0 0 99 W)
        have HB := hide (fun W => l1In_any ds[k].x1 1 60 W)
        by_cases h0 : 0 ≤ ds[k].x0 ∧ ds[k].x0 ≤ 99
        · rw [decide_eq_true h0] at HA
          by_cases h1 : 1 ≤ ds[k].x1 ∧ ds[k].x1 ≤ 60
          · rw [decide_eq_true h1] at HB
            have HT := hide (sok_yes (h := ds[k].x0) (p := ds[k].x1) (by omega))
            clear h0 h1
            generalize hdk : ds[k] = d at *
            have HDK := hide hdk
            clear hdk
            go_wp2_with fail
            refine (HA.out _).mono ?_; rintro e w2 ⟨rfl, rfl⟩
            go_wp2_with fail
            refine (HB.out _).mono ?_; rintro e w2 ⟨rfl, rfl⟩
            go_wp2_with fail
            go_roundw
            case rel =>
              refine ⟨k + 1, by omega, by go_num, hide (fun j hj hjk => ?_), hb.alloc hb0 _⟩
              rcases Nat.lt_or_ge j k with h | h
              · exact HAll.out j hj h
              · have e : j = k := by omega
                subst e; rw [HDK.out]; exact HT.out
            case measure => simp [intOf]; omega
          · rw [decide_eq_false h1] at HB
            have HN := hide (show spsOk ds = false from by unfold spsOk; rw [spGoodL_not k hlt (sok_no (fun h => h1 (by omega)))]; simp)
            clear h0 h1
            generalize ds[k] = d at *
            go_wp2_with fail
            refine (HA.out _).mono ?_; rintro e w2 ⟨rfl, rfl⟩
            go_wp2_with fail
            refine (HB.out _).mono ?_; rintro e w2 ⟨rfl, rfl⟩
            go_wp2_with fail
            go_ret
            exact ⟨by rw [HN.out]; rfl, hb.alloc hb0 _⟩
        · rw [decide_eq_false h0] at HA
          have HN := hide (show spsOk ds = false from by unfold spsOk; rw [spGoodL_not k hlt (sok_no (fun h => h0 (by omega)))]; simp)
          clear h0
          generalize ds[k] = d at *
          go_wp2_with fail
          refine (HA.out _).mono ?_; rintro e w2 ⟨rfl, rfl⟩
          go_wp2_with fail
          go_ret
          exact ⟨by rw [HN.out]; rfl, hb.alloc hb0 _⟩
      · have hgl : spGoodL ds = true := spGoodL_of (fun j hj => HAll.out j hj (by omega))
        have HN := hide (show spsOk ds = true from by unfold spsOk; rw [hgl, decide_eq_true hl]; rfl)
        clear hgl
        go_wp2_with fail
        go_ret
        exact ⟨by rw [HN.out]; rfl, hb⟩
  · have HN := hide (show spsOk ds = false from by unfold spsOk; rw [decide_eq_false hl]; rfl)
    rw [HN.out]
    go_enter Tryd.func14, Tryd.ntmps14
    go_wp2_with fail
    go_ret
    exact ⟨rfl, Below.refl _ _⟩

set_option maxRecDepth 1000000 in
set_option maxHeartbeats 4000000 in
/-- The model's slText. -/
theorem slText_any (A : Option Addr) (n c B : Nat) (ds : List Sp) (w : World) (hr : Sps w B A n ds) (hB : B ≤ w.heap.size) (hl : n ≤ 60) (hg : spGoodL ds = true) :
    Calls Tryd.prog 15 #[.slice A n c] w fun e w' => e = .returned (.string (bs (spT ds))) ∧ Below w.heap.size w w' := by
  obtain rfl := hr.len
  have HT := hide (fun k hk => spGoodL_get hg k hk)
  have HL := hide (spT_len ds (fun j hj => spGoodL_get hg j hj))
  clear hg
  go_enter Tryd.func15, Tryd.ntmps15
  go_wp2_with fail
  go_loopw [3, 8] (fun t i wr => ∃ k : Nat, k ≤ ds.length ∧ i = .int .i64 k ∧ t = .string (bs (spT (ds.take k))) ∧ Below w.heap.size w wr)
    (fun _ i _ => ds.length - (intOf i).toNat)
  case atStart => exact ⟨0, Nat.zero_le _, rfl, rfl, Below.refl _ _⟩
  case round =>
    obtain ⟨k, hk, rfl, rfl, hb⟩ := hrel
    have hb0 := hb.size
    by_cases hlt : k < ds.length
    · obtain ⟨b, off, rfl, hab, hc0, hc1⟩ := (hr.below hb hB).at_ hlt hlt
      have hbd := sok_of (HT.out k hlt)
      have hlk := HL.out k hk
      have hd0 := dtxt_len (x := ds[k].x0) (by omega) (by omega)
      have hd1 := dtxt_len (x := ds[k].x1) (by omega) (by omega)
      have HN0 := hide (fun W => l1Num_any 1 ds[k].x0.toNat W (by omega) (by omega))
      have HN1 := hide (fun W => l1Num_any 1 ds[k].x1.toNat W (by omega) (by omega))
      rw [show ((ds[k].x0.toNat : Nat) : Int) = ds[k].x0 from by omega] at HN0
      rw [show ((ds[k].x1.toNat : Nat) : Int) = ds[k].x1 from by omega] at HN1
      have hcol : ∀ W, (Op.stringOp .add (bs (Lib.decDigits ds[k].x0.toNat)) ⟨#[58]⟩).run Tryd.prog W = .ok (.string (bs (Lib.decDigits ds[k].x0.toNat ++ [58]))) W := fun W => by
        rw [run_string_add_sum W _ _ (by rw [bs_size]; unfold dtxt at hd0; show _ + 1 ≤ _; omega), show (⟨#[58]⟩ : ByteArray) = bs [58] from rfl, bs_append]
      have hpair : ∀ W, (Op.stringOp .add (bs (Lib.decDigits ds[k].x0.toNat ++ [58])) (bs (Lib.decDigits ds[k].x1.toNat))).run Tryd.prog W = .ok (.string (bs (spW ds[k]))) W := fun W => by
        rw [run_string_add_sum W _ _ (by rw [bs_size, bs_size]; unfold dtxt at hd0 hd1; simp; omega), bs_append]; rfl
      have HCol := hide hcol
      have HPair := hide hpair
      have hdw := spW_len (HT.out k hlt)
      clear hpair hcol hbd hd0 hd1
      by_cases h0 : k = 0
      · have hadd : ∀ W, (Op.stringOp .add (bs (spT (ds.take k))) (bs (spW ds[k]))).run Tryd.prog W = .ok (.string (bs (spT (ds.take (k + 1))))) W := fun W => by
          rw [run_string_add_sum W _ _ (by rw [bs_size, bs_size]; omega), bs_append]
          subst h0
          rw [show (0 + 1) = 1 from rfl, spT_zero ds hlt]
          rfl
        have HA := hide hadd
        have hk0 : (k : Int) ≤ 0 := by omega
        clear hadd h0
        clear hlk hdw
        generalize bs (Lib.decDigits ds[k].x0.toNat ++ [58]) = sc at *
        generalize bs (Lib.decDigits ds[k].x0.toNat) = s0 at *
        generalize bs (Lib.decDigits ds[k].x1.toNat) = s1 at *
        generalize bs (spW ds[k]) = sp at *
        generalize bs (spT (ds.take k)) = sk at *
        generalize hs2 : bs (spT (ds.take (k + 1))) = sn at *
        have HS2 := hide hs2
        clear hs2
        generalize ds[k] = d at *
        have hadd := HA.out
        have hpair := HPair.out
        have hcol := HCol.out
        go_wp2_with fail
        have hbo : Below w.heap.size w (wr.alloc (.cells #[.int .i64 d.x0, .int .i64 d.x1] 37)) := hb.alloc hb0 _
        have k0 : (wr.alloc (.cells #[.int .i64 d.x0, .int .i64 d.x1] 37)).cell? ⟨wr.heap.size, 0, none⟩ = some (.int .i64 d.x0) := by simp
        have k1 : (wr.alloc (.cells #[.int .i64 d.x0, .int .i64 d.x1] 37)).cell? ⟨wr.heap.size, 1, none⟩ = some (.int .i64 d.x1) := by simp
        have z0 : wr.heap.size < (wr.alloc (.cells #[.int .i64 d.x0, .int .i64 d.x1] 37)).heap.size := by simp
        generalize (wr.alloc (.cells #[.int .i64 d.x0, .int .i64 d.x1] 37)) = W0 at *
        generalize wr.heap.size = bx at *
        have HS : Hid (∀ W', Below W0.heap.size W0 W' → (Below W0.heap.size W0 W' ∧ W'.cell? ⟨bx, 0, none⟩ = some (.int .i64 d.x0) ∧ W'.cell? ⟨bx, 1, none⟩ = some (.int .i64 d.x1))) :=
          hide fun W' h => ⟨h, (h.cell (p := ⟨bx, 0, none⟩) z0).trans k0, (h.cell (p := ⟨bx, 1, none⟩) z0).trans k1⟩
        first | go_region_held3 (fun W => Below W0.heap.size W0 W ∧ W.cell? ⟨bx, 0, none⟩ = some (.int .i64 d.x0) ∧ W.cell? ⟨bx, 1, none⟩ = some (.int .i64 d.x1))
          (first | exact HS.out _ (Below.refl _ _).drew | exact HS.out _ (below_next (And.left (by assumption)) hbn0) | exact HS.out _ (below_next (And.left (by assumption)) hbn1) | go_keep)
          (first
          | (go_at_call 26; (with_reducible refine (HN0.out _).mono ?_); rintro e wn0 ⟨rfl, hbn0⟩)
          | (go_at_call 26; (with_reducible refine (HN1.out _).mono ?_); rintro e wn1 ⟨rfl, hbn1⟩)) | fail
        have hB1 : Below W0.heap.size W0 wn1 := below_next (w1 := wn0) (below_next (w1 := W0.drew) (Below.refl _ _).drew hbn0) hbn1
        clear hbn0
        go_wp2_with fail
        go_roundw
        case rel => exact ⟨k + 1, by omega, by go_num, by rw [HS2.out], hbo.trans (hB1.mono hbo.size)⟩
        case measure => simp [intOf]; omega
      · have hmid : ∀ W, (Op.stringOp .add (bs (spT (ds.take k))) ⟨#[44]⟩).run Tryd.prog W = .ok (.string (bs (spT (ds.take k) ++ [44]))) W := fun W => by
          rw [run_string_add_sum W _ _ (by rw [bs_size]; show _ + 1 ≤ _; omega), show (⟨#[44]⟩ : ByteArray) = bs [44] from rfl, bs_append]
        have hadd : ∀ W, (Op.stringOp .add (bs (spT (ds.take k) ++ [44])) (bs (spW ds[k]))).run Tryd.prog W = .ok (.string (bs (spT (ds.take (k + 1))))) W := fun W => by
          rw [run_string_add_sum W _ _ (by rw [bs_size, bs_size]; simp; omega), bs_append, spT_succ ds k (by omega) hlt]
        have HM := hide hmid
        have HA := hide hadd
        have hk0 : 0 < (k : Int) := by omega
        clear hadd hmid h0
        generalize bs (spT (ds.take k) ++ [44]) = sm at *
        clear hlk hdw
        generalize bs (Lib.decDigits ds[k].x0.toNat ++ [58]) = sc at *
        generalize bs (Lib.decDigits ds[k].x0.toNat) = s0 at *
        generalize bs (Lib.decDigits ds[k].x1.toNat) = s1 at *
        generalize bs (spW ds[k]) = sp at *
        generalize bs (spT (ds.take k)) = sk at *
        generalize hs2 : bs (spT (ds.take (k + 1))) = sn at *
        have HS2 := hide hs2
        clear hs2
        generalize ds[k] = d at *
        have hadd := HA.out
        have hpair := HPair.out
        have hcol := HCol.out
        have hmid := HM.out
        go_wp2_with fail
        have hbo : Below w.heap.size w (wr.alloc (.cells #[.int .i64 d.x0, .int .i64 d.x1] 37)) := hb.alloc hb0 _
        have k0 : (wr.alloc (.cells #[.int .i64 d.x0, .int .i64 d.x1] 37)).cell? ⟨wr.heap.size, 0, none⟩ = some (.int .i64 d.x0) := by simp
        have k1 : (wr.alloc (.cells #[.int .i64 d.x0, .int .i64 d.x1] 37)).cell? ⟨wr.heap.size, 1, none⟩ = some (.int .i64 d.x1) := by simp
        have z0 : wr.heap.size < (wr.alloc (.cells #[.int .i64 d.x0, .int .i64 d.x1] 37)).heap.size := by simp
        generalize (wr.alloc (.cells #[.int .i64 d.x0, .int .i64 d.x1] 37)) = W0 at *
        generalize wr.heap.size = bx at *
        have HS : Hid (∀ W', Below W0.heap.size W0 W' → (Below W0.heap.size W0 W' ∧ W'.cell? ⟨bx, 0, none⟩ = some (.int .i64 d.x0) ∧ W'.cell? ⟨bx, 1, none⟩ = some (.int .i64 d.x1))) :=
          hide fun W' h => ⟨h, (h.cell (p := ⟨bx, 0, none⟩) z0).trans k0, (h.cell (p := ⟨bx, 1, none⟩) z0).trans k1⟩
        first | go_region_held3 (fun W => Below W0.heap.size W0 W ∧ W.cell? ⟨bx, 0, none⟩ = some (.int .i64 d.x0) ∧ W.cell? ⟨bx, 1, none⟩ = some (.int .i64 d.x1))
          (first | exact HS.out _ (Below.refl _ _).drew | exact HS.out _ (below_next (And.left (by assumption)) hbn0) | exact HS.out _ (below_next (And.left (by assumption)) hbn1) | go_keep)
          (first
          | (go_at_call 26; (with_reducible refine (HN0.out _).mono ?_); rintro e wn0 ⟨rfl, hbn0⟩)
          | (go_at_call 26; (with_reducible refine (HN1.out _).mono ?_); rintro e wn1 ⟨rfl, hbn1⟩)) | fail
        have hB1 : Below W0.heap.size W0 wn1 := below_next (w1 := wn0) (below_next (w1 := W0.drew) (Below.refl _ _).drew hbn0) hbn1
        clear hbn0
        go_wp2_with fail
        go_roundw
        case rel => exact ⟨k + 1, by omega, by go_num, by rw [HS2.out], hbo.trans (hB1.mono hbo.size)⟩
        case measure => simp [intOf]; omega
    · have e : k = ds.length := by omega
      have HE := hide (show bs (spT (ds.take k)) = bs (spT ds) from by rw [e, spT_all])
      clear e
      go_wp2_with fail
      go_ret
      exact ⟨by rw [← HE.out]; rfl, hb⟩

theorem specSplitsText_any (A : Option Addr) (n c B : Nat) (ds : List Sp) (w : World) (hr : Sps w B A n ds) (hB : B ≤ w.heap.size) (hn : n ≤ 1099511627776) :
    Calls Tryd.prog 6 #[.slice A n c] w fun e w' => e = .returned (.tuple #[.string (spsT ds), .bool (spsOk ds)]) ∧ Below w.heap.size w w' := by
  obtain rfl := hr.len
  have HG := hide (slList_any A ds.length c B ds w hr hB hn)
  cases hg : spsOk ds
  · have H := hide (show spsT ds = ⟨#[]⟩ from by unfold spsT; rw [hg]; rfl)
    rw [hg] at HG
    rw [H.out]
    clear hg
    go_enter Tryd.func6, Tryd.ntmps6
    go_wp2_with fail
    refine HG.out.mono ?_; rintro e w1 ⟨rfl, hb1⟩
    go_wp2_with fail
    go_ret2
    exact ⟨rfl, hb1⟩
  · have H := hide (show spsT ds = bs (spT ds) from by unfold spsT; rw [hg]; rfl)
    have hg2 : ds.length ≤ 60 ∧ spGoodL ds = true := by unfold spsOk at hg; simpa using hg
    have HJ := hide (fun W (h : Sps W B A ds.length ds) (h' : B ≤ W.heap.size) => slText_any A ds.length c B ds W h h' hg2.1 hg2.2)
    rw [hg] at HG
    rw [H.out]
    generalize bs (spT ds) = t at *
    clear hg hg2
    go_enter Tryd.func6, Tryd.ntmps6
    go_wp2_with fail
    refine HG.out.mono ?_; rintro e w1 ⟨rfl, hb1⟩
    have s1 := hb1.size
    go_wp2_with fail
    refine (HJ.out _ (hr.below hb1 hB) (by omega)).mono ?_; rintro e w2 ⟨rfl, hb2⟩
    go_wp2_with fail
    go_ret2
    exact ⟨rfl, below_next hb1 hb2⟩

theorem Sps.next {w w' : World} {A : Option Addr} {n : Nat} {ms : List Sp} (h : Sps w w.heap.size A n ms) (hb : Below w.heap.size w w') : Sps w' w'.heap.size A n ms := (h.below hb (Nat.le_refl _)).more hb.size

set_option maxRecDepth 1000000 in
theorem lawSplitsText (A : Option Addr) (n c : Nat) (ds : List Sp) (w : World) (hr : Sps w w.heap.size A n ds) (hmax : n ≤ 9223372036854775807) :
    Calls Tryd.prog 3 #[.slice A n c] w fun e w' => e = .returned (.bool true) ∧ Below w.heap.size w w' := by
  obtain rfl := hr.len
  have hsz := szSplitS_any A ds.length c 1048576 w hmax (by omega) (by omega)
  by_cases hbig : 1048576 < ds.length
  · rw [if_pos (by omega)] at hsz
    have HZ := hide hsz
    clear hsz
    go_enter Tryd.func3, Tryd.ntmps3
    go_wp2_with fail
    refine HZ.out.mono ?_; rintro e w1 ⟨rfl, rfl⟩
    go_wp2_with fail
    go_ret
    exact ⟨rfl, Below.refl _ _⟩
  · rw [if_neg (by omega)] at hsz
    have HZ := hide hsz
    clear hsz
    have hcap : ds.length ≤ 1099511627776 := by omega
    have hleft : 0 ≤ 1048576 - (ds.length : Int) := by omega
    have HS := hide (fun (g : Nat) (B : Nat) (W : World) (h1 : Sps W B (some ⟨g, 0, none⟩) ds.length ds) (h2 : B ≤ W.heap.size) => specSplitsText_any (some ⟨g, 0, none⟩) ds.length ds.length B ds W h1 h2 hcap)
    have HI := hide (fun (g : Nat) (B : Nat) (W : World) (h1 : Sps W B (some ⟨g, 0, none⟩) ds.length ds) (h2 : B ≤ W.heap.size) => SplitsText_any (some ⟨g, 0, none⟩) ds.length ds.length B ds W h1 h2 hcap)
    generalize spsT ds = t at *
    generalize spsOk ds = o at *
    have e2 : (o != o) = false := by simp
    go_enter Tryd.func3, Tryd.ntmps3
    go_wp2_with fail
    refine HZ.out.mono ?_; rintro e w0 ⟨rfl, rfl⟩
    go_wp2_with fail
    refine (toSplitS_any _ _ _ _ _ hr hcap).mono ?_
    rintro e w1 ⟨g1, _, hz1, rfl, hrow1, hb1⟩
    have hr1 := hr.next hb1
    go_wp2_with fail
    refine (HS.out _ _ _ (hrow1.list hz1) (Nat.le_refl _)).mono ?_
    rintro e w2 ⟨rfl, hb2⟩
    have hr2 := hr1.next hb2
    go_wp2_with fail
    refine (toSplitS_any _ _ _ _ _ hr2 hcap).mono ?_
    rintro e w3 ⟨g2, _, hz2, rfl, hrow2, hb3⟩
    have hr3 := hr2.next hb3
    have hx3 := hrow2.list hz2
    go_wp2_with fail
    refine (HI.out _ _ _ hx3 (Nat.le_refl _)).mono ?_
    rintro e w4 ⟨rfl, hb4⟩
    have hr4 := hr3.next hb4
    have hx4 := hx3.next hb4
    go_wp2_with fail
    refine (toSplitS_any _ _ _ _ _ hr4 hcap).mono ?_
    rintro e w5 ⟨g3, _, hz3, rfl, hrow3, hb5⟩
    have hx5 := hx4.next hb5
    go_wp2_with fail
    refine (eqSplitS_same _ _ _ _ _ _ _ _ _ hx5 (hrow3.list hz3) (Nat.le_refl _) (Nat.le_refl _) hcap).mono ?_
    rintro e w6 ⟨rfl, hb6⟩
    go_wp2_with fail
    go_ret
    exact ⟨rfl, below_next (below_next (below_next (below_next (below_next hb1 hb2) hb3) hb4) hb5) hb6⟩
end Go.Proofs.YtflkgkajkoaaiaaDoor
