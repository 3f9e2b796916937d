
/-
  THE TEXT OF A PUZZLE, the model's way.
-/
import Derived.Test.YtmjlfmlbmegheaaDoorPzX
import Derived.Test.YtmjlfmlbmegheaaDoorPz
namespace Go.Proofs.YtmjlfmlbmegheaaDoor
open Go.RowKit Go.Deep
set_option linter.unusedVariables false

theorem pzTx_eq (u : Int) (ds : List Cl) : pzTx u ds = dtxt u ++ [104] ++ clT ds := rfl
theorem sadd (a b : List UInt8) (h : a.length + b.length ≤ 10000) : ∀ W, (Op.stringOp .add (bs a) (bs b)).run Tryd.prog W = .ok (.string (bs (a ++ b))) W := fun W => by
  rw [run_string_add_sum W _ _ (by rw [bs_size, bs_size]; omega), bs_append]
theorem sadd1 (a : List UInt8) (c : UInt8) (h : a.length + 1 ≤ 10000) : ∀ W, (Op.stringOp .add (bs a) ⟨#[c]⟩).run Tryd.prog W = .ok (.string (bs (a ++ [c]))) W := fun W => by
  rw [run_string_add_sum W _ _ (by rw [bs_size]; show _ + 1 ≤ _; omega), show (⟨#[c]⟩ : ByteArray) = bs [c] from rfl, bs_append]
theorem l1Num2_any (x : Int) (h : 0 ≤ x ∧ x < 100) (W : World) :
    Calls Tryd.prog 31 #[.int .i64 x] W fun e w' => e = .returned (.string (bs (dtxt x))) ∧ Below W.heap.size W w' := by
  have := l1Num_any 1 x.toNat W (by omega) (by omega)
  rw [show ((x.toNat : Nat) : Int) = x from by omega] at this
  exact this

set_option maxRecDepth 1000000 in
set_option maxHeartbeats 4000000 in
/-- The model's pzText. -/
theorem pzText_any (A : Option Addr) (n c B : Nat) (cs : List Cl) (u : Int) (w : World) (hr : Cls w B A n cs) (hB : B ≤ w.heap.size) (ho : pzOk u cs = true) :
    Calls Tryd.prog 16 #[.agg #[.int .i64 u, .slice A n c]] w fun e w' => e = .returned (.string (bs (pzTx u cs))) ∧ Below w.heap.size w w' := by
  obtain rfl := hr.len
  obtain ⟨⟨hu1, hu2⟩, h6, _⟩ := pzOk_parts ho
  have HSM := hide (puzzle_small ho)
  clear ho
  have hX := Bx.new w 30 (.int .i64 u) (.slice A cs.length c)
  have HB0 := hide (show Below w.heap.size w (w.alloc (.cells #[.int .i64 u, .slice A cs.length c] 30)) from (Below.refl _ _).alloc (Nat.le_refl _) _)
  have HX := hide hX
  have HN := hide (fun W => l1Num2_any u (by omega) W)
  have hdu := dtxt2_len (x := u) (by omega)
  have ha := sadd1 (dtxt u) 104 (by omega)
  have HLT := hide (fun k hk => clT_len cs (fun j hj => HSM.out j hj) k hk)
  have HE0 : Hid (bs (dtxt u ++ [104]) = bs (pzTx u (cs.take 0))) := hide (by rw [pzTx_eq]; simp [clT, Lib.join_nil])
  have HDU := hide hdu
  clear hdu hX
  generalize bs (dtxt u) = su at *
  generalize bs (dtxt u ++ [104]) = sh at *
  go_enter Tryd.func16, Tryd.ntmps16
  go_wp2_with fail
  refine (HN.out _).mono ?_; rintro e w2 ⟨rfl, hb2⟩
  have HB2 := hide (HB0.out.trans (hb2.mono HB0.out.size))
  have HX2 := hide (HX.out.next hb2)
  have x0 := HX2.out.c0
  have x1 := HX2.out.c1
  clear hb2
  go_wp2_with fail
  clear x0 x1 ha HN
  go_loopw [3, 13] (fun t i wr => ∃ k : Nat, k ≤ cs.length ∧ i = .int .i64 k ∧ t = .string (bs (pzTx u (cs.take k))) ∧ Hid (Below w.heap.size w wr))
    (fun _ i _ => cs.length - (intOf i).toNat)
  case atStart => exact ⟨0, Nat.zero_le _, rfl, by rw [HE0.out], HB2⟩
  case round =>
    obtain ⟨k, hk, rfl, rfl, HB⟩ := hrel
    by_cases hlt : k < cs.length
    · obtain ⟨b, off, rfl, hab, hc0, hc1, hc2, hc3⟩ := (hr.below HB.out hB).at_ hlt hlt
      have hbd := HSM.out k hlt
      have lk := HLT.out k hk
      have lw := clW_len hbd
      have HN0 := hide (fun W => l1Num2_any cs[k].x0 hbd.1 W)
      have HN1 := hide (fun W => l1Num2_any cs[k].x1 hbd.2.1 W)
      have HN2 := hide (fun W => l1Num2_any cs[k].x2 hbd.2.2.1 W)
      have HN3 := hide (fun W => l1Num2_any cs[k].x3 hbd.2.2.2 W)
      have l0 := dtxt2_len hbd.1
      have l1 := dtxt2_len hbd.2.1
      have l2 := dtxt2_len hbd.2.2.1
      have l3 := dtxt2_len hbd.2.2.2
      have lp : (pzTx u (cs.take k)).length ≤ 200 := by rw [pzTx_eq]; have := HDU.out; simp; omega
      replace lk := lp
      clear lp
      by_cases h0 : k = 0
      · have h7 := sadd (pzTx u (cs.take k)) (clW cs[k]) (by omega)
        rw [show pzTx u (cs.take k) ++ clW cs[k] = pzTx u (cs.take (k + 1)) from by subst h0; rw [show (0 + 1) = 1 from rfl, pzTx_eq, pzTx_eq, clT_zero cs hlt]; simp [clT, Lib.join_nil]] at h7
        have hk0 : (k : Int) ≤ 0 := by omega
        have h1 := sadd1 (dtxt cs[k].x0) 46 (by omega)
        have h2 := sadd (dtxt cs[k].x0 ++ [46]) (dtxt cs[k].x1) (by simp; omega)
        have h3 := sadd1 (dtxt cs[k].x0 ++ [46] ++ dtxt cs[k].x1) 46 (by simp; omega)
        have h4 := sadd (dtxt cs[k].x0 ++ [46] ++ dtxt cs[k].x1 ++ [46]) (dtxt cs[k].x2) (by simp; omega)
        have h5 := sadd1 (dtxt cs[k].x0 ++ [46] ++ dtxt cs[k].x1 ++ [46] ++ dtxt cs[k].x2) 46 (by simp; omega)
        have h6 := sadd (dtxt cs[k].x0 ++ [46] ++ dtxt cs[k].x1 ++ [46] ++ dtxt cs[k].x2 ++ [46]) (dtxt cs[k].x3) (by simp; omega)
        rw [← clW_eq] at h6
        have H1 := hide h1
        have H2 := hide h2
        have H3 := hide h3
        have H4 := hide h4
        have H5 := hide h5
        have H6 := hide h6
        have H7 := hide h7
        clear h0 h1 h2 h3 h4 h5 h6 h7 l0 l1 l2 l3 lw lk hbd
        generalize hsn : bs (pzTx u (cs.take (k + 1))) = sn at *
        have HSN := hide hsn
        clear hsn
        generalize bs (pzTx u (cs.take k)) = sk at *
        generalize bs (clW cs[k]) = sw at *
        generalize bs (dtxt cs[k].x0 ++ [46] ++ dtxt cs[k].x1 ++ [46] ++ dtxt cs[k].x2 ++ [46]) = q5 at *
        generalize bs (dtxt cs[k].x0 ++ [46] ++ dtxt cs[k].x1 ++ [46] ++ dtxt cs[k].x2) = q4 at *
        generalize bs (dtxt cs[k].x0 ++ [46] ++ dtxt cs[k].x1 ++ [46]) = q3 at *
        generalize bs (dtxt cs[k].x0 ++ [46] ++ dtxt cs[k].x1) = q2 at *
        generalize bs (dtxt cs[k].x0 ++ [46]) = q1 at *
        generalize bs (dtxt cs[k].x0) = s0 at *
        generalize bs (dtxt cs[k].x1) = s1 at *
        generalize bs (dtxt cs[k].x2) = s2 at *
        generalize bs (dtxt cs[k].x3) = s3 at *
        generalize cs[k] = d at *
        have h1 := H1.out
        have h2 := H2.out
        have h3 := H3.out
        have h4 := H4.out
        have h5 := H5.out
        have h6 := H6.out
        have h7 := H7.out
        go_wp2_with fail
        have hbo : Below w.heap.size w (wr.alloc (.cells #[.int .i64 d.x0, .int .i64 d.x1, .int .i64 d.x2, .int .i64 d.x3] 44)) := HB.out.alloc HB.out.size _
        have X0 := CBox.new wr 44 d
        generalize (wr.alloc (.cells #[.int .i64 d.x0, .int .i64 d.x1, .int .i64 d.x2, .int .i64 d.x3] 44)) = W0 at *
        generalize wr.heap.size = bx at *
        have HS : Hid (∀ W', Below W0.heap.size W0 W' → (fun W => Below W0.heap.size W0 W ∧ W.cell? ⟨bx, 0, none⟩ = some (.int .i64 d.x0) ∧ W.cell? ⟨bx, 1, none⟩ = some (.int .i64 d.x1) ∧ W.cell? ⟨bx, 2, none⟩ = some (.int .i64 d.x2) ∧ W.cell? ⟨bx, 3, none⟩ = some (.int .i64 d.x3)) W') := hide fun W' h => ⟨h, (X0.next h).c0, (X0.next h).c1, (X0.next h).c2, (X0.next h).c3⟩
        clear X0
        first | go_region_held3 (fun W => Below W0.heap.size W0 W ∧ W.cell? ⟨bx, 0, none⟩ = some (.int .i64 d.x0) ∧ W.cell? ⟨bx, 1, none⟩ = some (.int .i64 d.x1) ∧ W.cell? ⟨bx, 2, none⟩ = some (.int .i64 d.x2) ∧ W.cell? ⟨bx, 3, none⟩ = some (.int .i64 d.x3))
          (first | exact HS.out _ (Below.refl _ _).drew | exact HS.out _ (below_next (And.left (by assumption)) hbn0) | exact HS.out _ (below_next (And.left (by assumption)) hbn1) | exact HS.out _ (below_next (And.left (by assumption)) hbn2) | exact HS.out _ (below_next (And.left (by assumption)) hbn3) | go_keep)
          (first
          | (go_at_call 31; (with_reducible refine (HN0.out _).mono ?_); rintro e wn0 ⟨rfl, hbn0⟩)
          | (go_at_call 31; (with_reducible refine (HN1.out _).mono ?_); rintro e wn1 ⟨rfl, hbn1⟩)
          | (go_at_call 31; (with_reducible refine (HN2.out _).mono ?_); rintro e wn2 ⟨rfl, hbn2⟩)
          | (go_at_call 31; (with_reducible refine (HN3.out _).mono ?_); rintro e wn3 ⟨rfl, hbn3⟩)) | fail
        have hB1 : Below W0.heap.size W0 wn3 := And.left (by assumption : Below W0.heap.size W0 wn3 ∧ _)
        clear hbn0 hbn1 hbn2 hbn3
        have HB1 := hide (hbo.trans (hB1.mono hbo.size))
        go_wp2_with fail
        go_roundw
        case rel => exact ⟨k + 1, by omega, by go_num, by rw [HSN.out], HB1⟩
        case measure => simp [intOf]; omega
      · have hm := sadd1 (pzTx u (cs.take k)) 44 (by omega)
        have h7 := sadd (pzTx u (cs.take k) ++ [44]) (clW cs[k]) (by simp; omega)
        rw [show pzTx u (cs.take k) ++ [44] ++ clW cs[k] = pzTx u (cs.take (k + 1)) from by rw [pzTx_eq, pzTx_eq, clT_succ cs k (by omega) hlt]; simp] at h7
        have hk0 : 0 < (k : Int) := by omega
        have h1 := sadd1 (dtxt cs[k].x0) 46 (by omega)
        have h2 := sadd (dtxt cs[k].x0 ++ [46]) (dtxt cs[k].x1) (by simp; omega)
        have h3 := sadd1 (dtxt cs[k].x0 ++ [46] ++ dtxt cs[k].x1) 46 (by simp; omega)
        have h4 := sadd (dtxt cs[k].x0 ++ [46] ++ dtxt cs[k].x1 ++ [46]) (dtxt cs[k].x2) (by simp; omega)
        have h5 := sadd1 (dtxt cs[k].x0 ++ [46] ++ dtxt cs[k].x1 ++ [46] ++ dtxt cs[k].x2) 46 (by simp; omega)
        have h6 := sadd (dtxt cs[k].x0 ++ [46] ++ dtxt cs[k].x1 ++ [46] ++ dtxt cs[k].x2 ++ [46]) (dtxt cs[k].x3) (by simp; omega)
        rw [← clW_eq] at h6
        have H1 := hide h1
        have H2 := hide h2
        have H3 := hide h3
        have H4 := hide h4
        have H5 := hide h5
        have H6 := hide h6
        have H7 := hide h7
        have HM := hide hm
        clear h0 h1 h2 h3 h4 h5 h6 h7 l0 l1 l2 l3 lw lk hbd hm
        generalize hsn : bs (pzTx u (cs.take (k + 1))) = sn at *
        have HSN := hide hsn
        clear hsn
        generalize bs (pzTx u (cs.take k) ++ [44]) = sm at *
        generalize bs (pzTx u (cs.take k)) = sk at *
        generalize bs (clW cs[k]) = sw at *
        generalize bs (dtxt cs[k].x0 ++ [46] ++ dtxt cs[k].x1 ++ [46] ++ dtxt cs[k].x2 ++ [46]) = q5 at *
        generalize bs (dtxt cs[k].x0 ++ [46] ++ dtxt cs[k].x1 ++ [46] ++ dtxt cs[k].x2) = q4 at *
        generalize bs (dtxt cs[k].x0 ++ [46] ++ dtxt cs[k].x1 ++ [46]) = q3 at *
        generalize bs (dtxt cs[k].x0 ++ [46] ++ dtxt cs[k].x1) = q2 at *
        generalize bs (dtxt cs[k].x0 ++ [46]) = q1 at *
        generalize bs (dtxt cs[k].x0) = s0 at *
        generalize bs (dtxt cs[k].x1) = s1 at *
        generalize bs (dtxt cs[k].x2) = s2 at *
        generalize bs (dtxt cs[k].x3) = s3 at *
        generalize cs[k] = d at *
        have h1 := H1.out
        have h2 := H2.out
        have h3 := H3.out
        have h4 := H4.out
        have h5 := H5.out
        have h6 := H6.out
        have h7 := H7.out
        have hm := HM.out
        go_wp2_with fail
        have hbo : Below w.heap.size w (wr.alloc (.cells #[.int .i64 d.x0, .int .i64 d.x1, .int .i64 d.x2, .int .i64 d.x3] 44)) := HB.out.alloc HB.out.size _
        have X0 := CBox.new wr 44 d
        generalize (wr.alloc (.cells #[.int .i64 d.x0, .int .i64 d.x1, .int .i64 d.x2, .int .i64 d.x3] 44)) = W0 at *
        generalize wr.heap.size = bx at *
        have HS : Hid (∀ W', Below W0.heap.size W0 W' → (fun W => Below W0.heap.size W0 W ∧ W.cell? ⟨bx, 0, none⟩ = some (.int .i64 d.x0) ∧ W.cell? ⟨bx, 1, none⟩ = some (.int .i64 d.x1) ∧ W.cell? ⟨bx, 2, none⟩ = some (.int .i64 d.x2) ∧ W.cell? ⟨bx, 3, none⟩ = some (.int .i64 d.x3)) W') := hide fun W' h => ⟨h, (X0.next h).c0, (X0.next h).c1, (X0.next h).c2, (X0.next h).c3⟩
        clear X0
        first | go_region_held3 (fun W => Below W0.heap.size W0 W ∧ W.cell? ⟨bx, 0, none⟩ = some (.int .i64 d.x0) ∧ W.cell? ⟨bx, 1, none⟩ = some (.int .i64 d.x1) ∧ W.cell? ⟨bx, 2, none⟩ = some (.int .i64 d.x2) ∧ W.cell? ⟨bx, 3, none⟩ = some (.int .i64 d.x3))
          (first | exact HS.out _ (Below.refl _ _).drew | exact HS.out _ (below_next (And.left (by assumption)) hbn0) | exact HS.out _ (below_next (And.left (by assumption)) hbn1) | exact HS.out _ (below_next (And.left (by assumption)) hbn2) | exact HS.out _ (below_next (And.left (by assumption)) hbn3) | go_keep)
          (first
          | (go_at_call 31; (with_reducible refine (HN0.out _).mono ?_); rintro e wn0 ⟨rfl, hbn0⟩)
          | (go_at_call 31; (with_reducible refine (HN1.out _).mono ?_); rintro e wn1 ⟨rfl, hbn1⟩)
          | (go_at_call 31; (with_reducible refine (HN2.out _).mono ?_); rintro e wn2 ⟨rfl, hbn2⟩)
          | (go_at_call 31; (with_reducible refine (HN3.out _).mono ?_); rintro e wn3 ⟨rfl, hbn3⟩)) | fail
        have hB1 : Below W0.heap.size W0 wn3 := And.left (by assumption : Below W0.heap.size W0 wn3 ∧ _)
        clear hbn0 hbn1 hbn2 hbn3
        have HB1 := hide (hbo.trans (hB1.mono hbo.size))
        go_wp2_with fail
        go_roundw
        case rel => exact ⟨k + 1, by omega, by go_num, by rw [HSN.out], HB1⟩
        case measure => simp [intOf]; omega
    · have e : k = cs.length := by omega
      have HE := hide (show bs (pzTx u (cs.take k)) = bs (pzTx u cs) from by rw [e, pzTx_eq, pzTx_eq, clT_all])
      clear e
      go_wp2_with fail
      go_ret
      exact ⟨by rw [← HE.out]; rfl, HB.out⟩

set_option maxRecDepth 1000000 in
/-- The model's PuzzleText. -/
theorem specPuzzleText_any (A : Option Addr) (n c B : Nat) (cs : List Cl) (u : Int) (w : World) (hr : Cls w B A n cs) (hB : B ≤ w.heap.size) (hn : n ≤ 17592186044416) :
    Calls Tryd.prog 6 #[.agg #[.int .i64 u, .slice A n c]] w fun e w' => e = .returned (.tuple #[.string (pzxT u cs), .bool (pzOk u cs)]) ∧ Below w.heap.size w w' := by
  obtain rfl := hr.len
  have b1 : Below w.heap.size w (w.alloc (.cells #[.int .i64 u, .slice A cs.length c] 30)) := (Below.refl _ _).alloc (Nat.le_refl _) _
  have HX := hide (Bx.new w 30 (.int .i64 u) (.slice A cs.length c))
  have HG := hide (pzGood_any A cs.length c B cs u _ (hr.below b1 hB) (Nat.le_trans hB b1.size) hn)
  have HB := hide b1
  clear b1
  cases hg : pzOk u cs
  · rw [hg] at HG
    have HT : Hid (pzxT u cs = ⟨#[]⟩) := hide (by unfold pzxT; rw [hg]; rfl)
    rw [HT.out]
    clear hg
    go_enter Tryd.func6, Tryd.ntmps6
    go_wp2_with fail
    refine HG.out.mono ?_; rintro e w2 ⟨rfl, hb2⟩
    have HB2 := hide (HB.out.trans (hb2.mono HB.out.size))
    clear hb2
    go_wp2_with fail
    go_ret2
    exact ⟨rfl, HB2.out⟩
  · rw [hg] at HG
    have HT : Hid (pzxT u cs = bs (pzTx u cs)) := hide (by unfold pzxT; rw [hg]; rfl)
    have HP := hide (fun W (hb : Below w.heap.size w W) => pzText_any A cs.length c B cs u W (hr.below hb hB) (Nat.le_trans hB hb.size) hg)
    rw [HT.out]
    generalize bs (pzTx u cs) = sx at *
    clear hg HT
    go_enter Tryd.func6, Tryd.ntmps6
    go_wp2_with fail
    refine HG.out.mono ?_; rintro e w2 ⟨rfl, hb2⟩
    have HB2 := hide (HB.out.trans (hb2.mono HB.out.size))
    have x0 := (HX.out.next hb2).c0
    have x1 := (HX.out.next hb2).c1
    clear hb2
    go_wp2_with fail
    refine (HP.out _ HB2.out).mono ?_; rintro e w3 ⟨rfl, hb3⟩
    have HB3 := hide (HB2.out.trans (hb3.mono HB2.out.size))
    clear hb3
    go_wp2_with fail
    go_ret2
    exact ⟨rfl, HB3.out⟩
end Go.Proofs.YtmjlfmlbmegheaaDoor
