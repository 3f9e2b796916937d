
/-
  THE SLOWEST RING TO ZERO, THE PROGRAM's WAY.
-/
import Derived.Test.YtkhcabgpbmhimaaSzR
import Derived.Test.YtkhcabgpbmhimaaSzN
import Derived.Test.YtkhcabgpbmhimaaWkH
import Derived.Laws.CopyOwn
namespace Go.Proofs.Ytkhcabgpbmhimaa
open Go.RowKit Go.Deep
set_option linter.unusedVariables false

theorem info_int1 : (Try.prog.info? 3).map (·.size) = some 1 := by kernel_rfl
/-- 'copy(a, b)', two rows of one length. -/
theorem wpList_copy_rows {w : World} {ops : Array Oper} {rest : List Oper} {o : Oper} {a : Act} {Q : Exit → Act → World → Prop} (hgd : o.guard = none) (d s : Operand)
    (ho : o.op = .call { callee := .builtin .copy, args := #[d, s], argTypes := #[22, 22] }) (g1 g2 n c1 c2 : Nat) (xs ys : List Int) (hx : xs.length = n) (hy : ys.length = n)
    (hd : a.eval d = .slice (some ⟨g1, 0, none⟩) n c1) (hs : a.eval s = .slice (some ⟨g2, 0, none⟩) n c2) (h1 : Row w g1 3 xs) (h2 : Row w g2 3 ys)
    (h : ∀ w', Row w' g1 3 ys → Below g1 w w' → (∀ k, k ≠ g1 → w'.heap[k]? = w.heap[k]?) → w'.heap.size = w.heap.size → wpList Try.prog ops Q rest (a.put o.dst (goInt n)) w') :
    wpList Try.prog ops Q (o :: rest) a w := by
  obtain ⟨cur, hg, hsz, hcur⟩ := h1
  have hl : (ys.map (Value.int .i64)).length = n := by rw [List.length_map, hy]
  refine wpList_copy_own hgd d s _ _ ho 3 Try.underlying22 info_int1 g1 0 n c1 ⟨g2, 0, none⟩ n c2 hd hs cur 3 hg (ys.map (Value.int .i64)) (by rw [hl]; simp) ?_ (by rw [hl, hsz, hx]; omega) ?_ ?_
  · intro j v hj
    rw [List.getElem?_map] at hj
    obtain ⟨z, hz, rfl⟩ := Option.map_eq_some_iff.1 hj
    obtain ⟨hjl, rfl⟩ := List.getElem?_eq_some_iff.1 hz
    rw [add_head]
    exact h2.at_ hjl
  · intro v hv
    obtain ⟨z, _, rfl⟩ := List.mem_map.1 hv
    rfl
  · rw [hl]
    have e : (cur.toList.take 0 ++ (ys.map (Value.int .i64) ++ cur.toList.drop (0 + n))).toArray = (ys.map (Value.int .i64)).toArray := by
      rw [List.take_zero, List.nil_append, Nat.zero_add, List.drop_of_length_le (by simp [hsz, hx]), List.append_nil]
    rw [e]
    refine h _ ⟨_, setRow_heap w g1 cur _ _ _ hg, by simp, fun i hi => by simp [List.getD, hi]⟩ (below_setRow (Below.refl _ _) (Nat.le_refl _) _) (fun k hk => setRow_other w g1 k _ hk) (by simp [World.setRow])

theorem lead_zero {s : Nat} (b : Nat) (hs : s = 2 ∨ s = 4) : leadF (dg b s 0) = 0 := by
  rw [dg_zero]
  have h : comesB (List.replicate s 0) 0 = true := by
    unfold comesB
    rw [List.any_eq_true]
    exact ⟨0, List.mem_range.2 (by decide), by rcases hs with rfl | rfl <;> decide⟩
  show firstN (comesB (List.replicate s 0)) (10024 + 1) 0 = 0
  rw [firstN, if_pos h]
/-- Where the program's SlowestToZero stands: gh: how many lists are left. -/
def SzRel (b s N : Nat) (w : World) (gh : Nat) (v mo : Value) (W : World) : Prop :=
  ∃ q, q ≤ N ∧ gh = N - q ∧ v = .int .i64 (leadF (dg b s (bestZ b s q)) : Int) ∧ mo = .bool (decide (q < N)) ∧ Row W w.heap.size 3 (dg b s (bestZ b s q)) ∧
    Row W (w.heap.size + 1) 3 (if q < N then dg b s q else List.replicate s 0) ∧ Below w.heap.size w W
theorem row_ints {W : World} {g n : Nat} {zs : List Int} (h : Row W g 3 zs) (hl : zs.length = n) (hn : n ≤ 1000) : Ints W W.heap.size (some ⟨g, 0, none⟩) n zs := by
  subst hl
  exact (Own.of_row h (Nat.le_refl g) (by unfold maxLen; omega)).ints

set_option maxRecDepth 100000 in
set_option maxHeartbeats 16000000 in
theorem sz_yes_any (s b : Nat) (w : World) (hs : s = 2 ∨ s = 4) (hb1 : 1 ≤ b) (hb7 : b ≤ 7) :
    Calls Try.prog 5 #[.int .i64 (s : Int), .int .i64 ((b : Int) - 1)] w (MadeZ (dg b s (bestZ b s (b ^ s))) (leadF (dg b s (bestZ b s (b ^ s))) : Int) true w) := by
  have hN := sz_len hb7 hs
  have hN0 : 0 < b ^ s := Nat.pow_pos hb1
  have HST := hide (fun q (W : World) (hq : q < b ^ s) (h : Row W (w.heap.size + 1) 3 (dg b s q)) => StepsToZero_any (some ⟨w.heap.size + 1, 0, none⟩) s s (dg b s q) W (row_ints h (dg_length b s q) (by omega)) (by omega))
  have HSV := hide (fun q (hq : q < b ^ s) => show stzR (dg b s q) = (leadF (dg b s q) : Int) from by unfold stzR; rw [dg_ctz hb7 hb1 hs hq]; rfl)
  have HSC := hide (fun q (hq : q < b ^ s) => dg_ctz hb7 hb1 hs hq)
  have HNX := hide (fun q (W : World) (hq : q < b ^ s) (h : Row W (w.heap.size + 1) 3 (dg b s q)) => toNextList_any (w.heap.size + 1) s s ((b : Int) - 1) (dg b s q) W h (dg_length b s q) (by omega) (fun j hj => by
    have hm : (dg b s q).getD j 0 ∈ dg b s q := by rw [rget (by rw [dg_length]; exact hj)]; exact List.getElem_mem _
    have := dg_mem hb1 s q _ hm
    omega))
  have HNV := hide (fun q (hq : q < b ^ s) => show nxD ((b : Int) - 1) (dg b s q) s = ((if q + 1 < b ^ s then dg b s (q + 1) else List.replicate s 0), decide (q + 1 < b ^ s)) from by
    have := nxD_dg hb1 s q [] hq
    rwa [List.append_nil, List.append_nil] at this)
  have HLB := hide (fun q => show leadF (dg b s q) ≤ 10024 from by have := (cycF (dg_good (q := q) hb7 hb1 hs)).2; omega)
  have HBZ := hide (fun k => show bestZ b s (k + 1) = if leadF (dg b s (bestZ b s k)) < leadF (dg b s k) then k else bestZ b s k from rfl)
  have HDL := hide (fun q => dg_length b s q)
  have HZ0 := hide (show leadF (dg b s (bestZ b s 0)) = 0 from lead_zero b hs)
  have HD0 := hide (show dg b s (bestZ b s 0) = List.replicate s 0 from dg_zero b s)
  have HD1 := hide (show dg b s 0 = List.replicate s 0 from dg_zero b s)
  generalize b ^ s = N at *
  have hbm1 : ¬ ((b : Int) - 1 < 0) := by omega
  have hbm2 : ¬ (6 < (b : Int) - 1) := by omega
  have hmk := run_make_row' (P := Try.prog) 22 3 (.int .i64 0) 8 Try.underlying22 infoInt rfl .i64 .i64 s (by omega) (by omega)
  obtain ⟨W2, hW2⟩ : ∃ W2, W2 = (w.alloc (.cells (madeCells #[.int .i64 0] s) 3)).alloc (.cells (madeCells #[.int .i64 0] s) 3) := ⟨_, rfl⟩
  have HB2 : Hid (Below w.heap.size w W2) := hide (by rw [hW2]; exact ((Below.refl _ _).alloc (Nat.le_refl _) _).alloc (by simp) _)
  have HR1 : Hid (Row W2 w.heap.size 3 (List.replicate s 0)) := hide (by rw [hW2]; exact (Row.zeros w s 3).new _)
  have HR2 : Hid (Row W2 (w.heap.size + 1) 3 (List.replicate s 0)) := hide (by
    have := Row.zeros (w.alloc (.cells (madeCells #[.int .i64 0] s) 3)) s 3
    rw [World.size_alloc] at this
    rw [hW2]; exact this)
  rcases hs with rfl | rfl
  · rw [show ((2 : Nat) : Int) = 2 from rfl] at *
    go_enter Try.func5, Try.ntmps5
    go_wp2_with fail
    rw [← hW2]
    clear hW2 hmk
    go_loopg [8, 10] N (SzRel b 2 N w)
    case atStart => exact ⟨0, Nat.zero_le _, rfl, by rw [HZ0.out]; rfl, by rw [decide_eq_true hN0], by rw [HD0.out]; exact HR1.out, by rw [if_pos hN0, HD1.out]; exact HR2.out, HB2.out⟩
    case round =>
      clear HB2 HR1 HR2 W2
      obtain ⟨q, hq, hgk, rfl, hmo, hr1, hr2, hb⟩ := hrel
      have GK := hide hgk
      have HB := hide hb
      clear hgk hb
      by_cases hlt : q < N
      · rw [decide_eq_true hlt] at hmo
        rw [if_pos hlt] at hr2
        subst hmo
        have HR1 := hide hr1
        have HR2 := hide hr2
        have HS1 := hide hr1.lt
        have HS2 := hide hr2.lt
        clear hr1 hr2
        have HC := hide (HST.out q wr hlt HR2.out)
        rw [HSV.out q hlt, HSC.out q hlt] at HC
        have HX := hide (fun W h => HNX.out q W hlt h)
        rw [HNV.out q hlt] at HX
        have hl1 := HLB.out q
        have hl2 := HLB.out (bestZ b 2 q)
        have HZq := hide (HBZ.out q)
        generalize hL : leadF (dg b 2 q) = L at *
        generalize hM : leadF (dg b 2 (bestZ b 2 q)) = M at *
        have HL := hide hL
        have HM := hide hM
        clear hL hM
        by_cases hlm : M < L
        · have hz1 : Hid (bestZ b 2 (q + 1) = q) := hide (by rw [HZq.out, if_pos hlm])
          have hgt : (M : Int) < (L : Int) := by omega
          go_wp2_with fail
          refine HC.out.mono ?_; rintro e w3 ⟨rfl, hb3⟩
          have R1 := hide (HR1.out.below hb3 HS1.out)
          have R2 := hide (HR2.out.below hb3 HS2.out)
          have B3 := hide (HB.out.trans (hb3.mono (Nat.le_of_lt HS1.out)))
          clear hb3
          go_wp2_with (refine wpList_copy_rows rfl _ _ rfl w.heap.size (w.heap.size + 1) 2 2 2 _ _ (HDL.out _) (HDL.out _) rfl rfl R1.out R2.out ?_; intro w4 h41 h42 h43 h44; have R41 := hide h41; have R42 := hide (R2.out.same (h43 _ (by omega))); have B4 := hide (B3.out.trans h42); clear h41 h42 h43)
          refine (HX.out _ R42.out).mono ?_; rintro e w5 ⟨rfl, h51, h52, h53⟩
          have R51 := hide (R41.out.same (h53 _ R41.out.lt (by omega)))
          have R52 := hide h51
          have B5 := hide (B4.out.trans (h52.mono (by omega)))
          clear h51 h52 h53
          go_wp2_with fail
          go_roundg (N - (q + 1))
          case measure => have := GK.out; omega
          case rel => exact ⟨q + 1, by omega, rfl, by rw [hz1.out, HL.out], rfl, by rw [hz1.out]; exact R51.out, R52.out, B5.out⟩
        · have hz1 : Hid (bestZ b 2 (q + 1) = bestZ b 2 q) := hide (by rw [HZq.out, if_neg hlm])
          have hgt : ¬ (M : Int) < (L : Int) := by omega
          go_wp2_with fail
          refine HC.out.mono ?_; rintro e w3 ⟨rfl, hb3⟩
          have R1 := hide (HR1.out.below hb3 HS1.out)
          have R2 := hide (HR2.out.below hb3 HS2.out)
          have B3 := hide (HB.out.trans (hb3.mono (Nat.le_of_lt HS1.out)))
          clear hb3
          go_wp2_with fail
          refine (HX.out _ R2.out).mono ?_; rintro e w5 ⟨rfl, h51, h52, h53⟩
          have R51 := hide (R1.out.same (h53 _ R1.out.lt (by omega)))
          have R52 := hide h51
          have B5 := hide (B3.out.trans (h52.mono (by omega)))
          clear h51 h52 h53
          go_wp2_with fail
          go_roundg (N - (q + 1))
          case measure => have := GK.out; omega
          case rel => exact ⟨q + 1, by omega, rfl, by rw [hz1.out, HM.out], rfl, by rw [hz1.out]; exact R51.out, R52.out, B5.out⟩
      · obtain rfl : q = N := by omega
        rw [decide_eq_false hlt] at hmo
        subst hmo
        have hO := Own.of_row hr1 (Nat.le_refl w.heap.size) (by rw [HDL.out]; unfold maxLen; omega)
        have HO := hide hO
        have HLq := hide (HDL.out (bestZ b 2 q))
        clear hr1 hr2 hO
        generalize hM : leadF (dg b 2 (bestZ b 2 q)) = M at *
        clear hM
        generalize dg b 2 (bestZ b 2 q) = zs at *
        go_wp2_with fail
        go_ret3
        refine ⟨some ⟨w.heap.size, 0, none⟩, 2, ?_, by rw [HLq.out]; exact Nat.le_refl _, by unfold maxLen; omega, ?_, HB.out⟩
        · rw [HLq.out]; rfl
        · have := HO.out
          rw [HLq.out] at this ⊢
          exact this
  · rw [show ((4 : Nat) : Int) = 4 from rfl] at *
    go_enter Try.func5, Try.ntmps5
    go_wp2_with fail
    rw [← hW2]
    clear hW2 hmk
    go_loopg [8, 10] N (SzRel b 4 N w)
    case atStart => exact ⟨0, Nat.zero_le _, rfl, by rw [HZ0.out]; rfl, by rw [decide_eq_true hN0], by rw [HD0.out]; exact HR1.out, by rw [if_pos hN0, HD1.out]; exact HR2.out, HB2.out⟩
    case round =>
      clear HB2 HR1 HR2 W2
      obtain ⟨q, hq, hgk, rfl, hmo, hr1, hr2, hb⟩ := hrel
      have GK := hide hgk
      have HB := hide hb
      clear hgk hb
      by_cases hlt : q < N
      · rw [decide_eq_true hlt] at hmo
        rw [if_pos hlt] at hr2
        subst hmo
        have HR1 := hide hr1
        have HR2 := hide hr2
        have HS1 := hide hr1.lt
        have HS2 := hide hr2.lt
        clear hr1 hr2
        have HC := hide (HST.out q wr hlt HR2.out)
        rw [HSV.out q hlt, HSC.out q hlt] at HC
        have HX := hide (fun W h => HNX.out q W hlt h)
        rw [HNV.out q hlt] at HX
        have hl1 := HLB.out q
        have hl2 := HLB.out (bestZ b 4 q)
        have HZq := hide (HBZ.out q)
        generalize hL : leadF (dg b 4 q) = L at *
        generalize hM : leadF (dg b 4 (bestZ b 4 q)) = M at *
        have HL := hide hL
        have HM := hide hM
        clear hL hM
        by_cases hlm : M < L
        · have hz1 : Hid (bestZ b 4 (q + 1) = q) := hide (by rw [HZq.out, if_pos hlm])
          have hgt : (M : Int) < (L : Int) := by omega
          go_wp2_with fail
          refine HC.out.mono ?_; rintro e w3 ⟨rfl, hb3⟩
          have R1 := hide (HR1.out.below hb3 HS1.out)
          have R2 := hide (HR2.out.below hb3 HS2.out)
          have B3 := hide (HB.out.trans (hb3.mono (Nat.le_of_lt HS1.out)))
          clear hb3
          go_wp2_with (refine wpList_copy_rows rfl _ _ rfl w.heap.size (w.heap.size + 1) 4 4 4 _ _ (HDL.out _) (HDL.out _) rfl rfl R1.out R2.out ?_; intro w4 h41 h42 h43 h44; have R41 := hide h41; have R42 := hide (R2.out.same (h43 _ (by omega))); have B4 := hide (B3.out.trans h42); clear h41 h42 h43)
          refine (HX.out _ R42.out).mono ?_; rintro e w5 ⟨rfl, h51, h52, h53⟩
          have R51 := hide (R41.out.same (h53 _ R41.out.lt (by omega)))
          have R52 := hide h51
          have B5 := hide (B4.out.trans (h52.mono (by omega)))
          clear h51 h52 h53
          go_wp2_with fail
          go_roundg (N - (q + 1))
          case measure => have := GK.out; omega
          case rel => exact ⟨q + 1, by omega, rfl, by rw [hz1.out, HL.out], rfl, by rw [hz1.out]; exact R51.out, R52.out, B5.out⟩
        · have hz1 : Hid (bestZ b 4 (q + 1) = bestZ b 4 q) := hide (by rw [HZq.out, if_neg hlm])
          have hgt : ¬ (M : Int) < (L : Int) := by omega
          go_wp2_with fail
          refine HC.out.mono ?_; rintro e w3 ⟨rfl, hb3⟩
          have R1 := hide (HR1.out.below hb3 HS1.out)
          have R2 := hide (HR2.out.below hb3 HS2.out)
          have B3 := hide (HB.out.trans (hb3.mono (Nat.le_of_lt HS1.out)))
          clear hb3
          go_wp2_with fail
          refine (HX.out _ R2.out).mono ?_; rintro e w5 ⟨rfl, h51, h52, h53⟩
          have R51 := hide (R1.out.same (h53 _ R1.out.lt (by omega)))
          have R52 := hide h51
          have B5 := hide (B3.out.trans (h52.mono (by omega)))
          clear h51 h52 h53
          go_wp2_with fail
          go_roundg (N - (q + 1))
          case measure => have := GK.out; omega
          case rel => exact ⟨q + 1, by omega, rfl, by rw [hz1.out, HM.out], rfl, by rw [hz1.out]; exact R51.out, R52.out, B5.out⟩
      · obtain rfl : q = N := by omega
        rw [decide_eq_false hlt] at hmo
        subst hmo
        have hO := Own.of_row hr1 (Nat.le_refl w.heap.size) (by rw [HDL.out]; unfold maxLen; omega)
        have HO := hide hO
        have HLq := hide (HDL.out (bestZ b 4 q))
        clear hr1 hr2 hO
        generalize hM : leadF (dg b 4 (bestZ b 4 q)) = M at *
        clear hM
        generalize dg b 4 (bestZ b 4 q) = zs at *
        go_wp2_with fail
        go_ret3
        refine ⟨some ⟨w.heap.size, 0, none⟩, 4, ?_, by rw [HLq.out]; exact Nat.le_refl _, by unfold maxLen; omega, ?_, HB.out⟩
        · rw [HLq.out]; rfl
        · have := HO.out
          rw [HLq.out] at this ⊢
          exact this

/-- The program's SlowestToZero. -/
theorem SlowestToZero_any (u m : Int) (w : World) : Calls Try.prog 5 #[.int .i64 u, .int .i64 m] w (MadeZ (szL u m) (szN u m) (szOk u m) w) := by
  cases hg : szOk u m
  · rw [(sz_no hg).1, (sz_no hg).2]
    have h := of_decide_eq_false hg
    clear hg
    have out : ∀ (h1 : (u != 2) = true ∧ (u != 4) = true ∨ m < 0 ∨ 6 < m), Calls Try.prog 5 #[.int .i64 u, .int .i64 m] w (MadeZ [] 0 false w) := by
      intro h1
      clear h
      by_cases h2 : u = 2
      · subst h2
        have hm : m < 0 ∨ 6 < m := by rcases h1 with ⟨h, _⟩ | h; · simp at h
                                      · exact h
        clear h1
        by_cases hm0 : m < 0
        · go_enter Try.func5, Try.ntmps5
          go_wp2_with fail
          go_ret3
          exact madeZ_none (Below.refl _ _)
        · have hm6 : 6 < m := by omega
          go_enter Try.func5, Try.ntmps5
          go_wp2_with fail
          go_ret3
          exact madeZ_none (Below.refl _ _)
      · have e2 : (u != 2) = true := by simpa using h2
        by_cases h4 : u = 4
        · subst h4
          have hm : m < 0 ∨ 6 < m := by rcases h1 with ⟨_, h⟩ | h; · simp at h
                                        · exact h
          clear h1
          by_cases hm0 : m < 0
          · go_enter Try.func5, Try.ntmps5
            go_wp2_with fail
            go_ret3
            exact madeZ_none (Below.refl _ _)
          · have hm6 : 6 < m := by omega
            go_enter Try.func5, Try.ntmps5
            go_wp2_with fail
            go_ret3
            exact madeZ_none (Below.refl _ _)
        · have e4 : (u != 4) = true := by simpa using h4
          clear h1
          go_enter Try.func5, Try.ntmps5
          go_wp2_with fail
          go_ret3
          exact madeZ_none (Below.refl _ _)
    refine out ?_
    by_cases h2 : u = 2
    · omega
    · by_cases h4 : u = 4
      · omega
      · exact .inl ⟨by simpa using h2, by simpa using h4⟩
  · have h := of_decide_eq_true hg
    obtain ⟨s, rfl⟩ := Int.eq_ofNat_of_zero_le (show 0 ≤ u by omega)
    obtain ⟨b, hb⟩ := Int.eq_ofNat_of_zero_le (show 0 ≤ m + 1 by omega)
    obtain rfl : m = (b : Int) - 1 := by omega
    obtain ⟨e1, e2⟩ := sz_yes hg (by omega)
    rw [e1, e2]
    exact sz_yes_any s b w (by omega) (by omega) (by omega)
end Go.Proofs.Ytkhcabgpbmhimaa
