
/-
  HEAPS BEFORE, THE PROGRAM's WAY: HeapsBefore.
-/
import Derived.Test.YtolhplakpemadaaHbQ
import Derived.Test.YtolhplakpemadaaRowL
import Derived.Test.YtolhplakpemadaaSortR
import Derived.Test.YtolhplakpemadaaRbW
import Derived.Test.YtolhplakpemadaaFewH
import Derived.Test.YtolhplakpemadaaSsA
import Derived.Test.YtolhplakpemadaaSortN
namespace Go.Proofs.Ytolhplakpemadaa
open Go.RowKit Go.Deep
set_option linter.unusedVariables false

/-- Four numbers as a row. -/
def agg4 (a b c d : Int) : Value := .agg #[.int .i64 a, .int .i64 b, .int .i64 c, .int .i64 d]
theorem arr4 : Try.prog.underlying 33 = some (.array 4 3) := by kernel_rfl
theorem cells4 : Try.prog.cellsOf 3 = 1 := by kernel_rfl
theorem eq_ints4 (d : Nat) (xs ys : List Int) (w : World) : ∀ is : List Nat, (∀ i ∈ is, i < xs.length ∧ i < ys.length) →
    (Op.eqItems (d + 1) 3 1 (xs.map (Value.int .i64)).toArray (ys.map (Value.int .i64)).toArray is).run Try.prog w = .ok (is.all fun i => xs.getD i 0 == ys.getD i 0) w
  | [], _ => rfl
  | i :: is, h => by
    obtain ⟨hx, hy⟩ := h i List.mem_cons_self
    have ih := eq_ints4 d xs ys w is (fun j hj => h j (List.mem_cons_of_mem _ hj))
    have part_at : ∀ (zs : List Int), i < zs.length → (part 3 (zs.map (Value.int .i64)).toArray (i * 1)).run Try.prog w = .ok (.int .i64 (zs.getD i 0)) w := fun zs hz => by
      have e : ((zs.map (Value.int .i64)).toArray)[i]? = some (.int .i64 (zs.getD i 0)) := by
        rw [List.getElem?_toArray, List.getElem?_map, List.getElem?_eq_getElem hz, getD_get hz]; rfl
      simp [part, isAgg, Sem.run_bind, run_underlying Try.underlying3, List.getElem?_eq_getElem hz, List.getD]
    rw [Op.eqItems, Sem.run_bind, part_at xs hx, Result.andThen_ok, Sem.run_bind, part_at ys hy, Result.andThen_ok, Sem.run_bind, run_equalIn_int w d 3 .i64 .i64 _ _ Try.underlying3, Result.andThen_ok, List.all_cons]
    cases hb : (xs.getD i 0 == ys.getD i 0)
    · rfl
    · exact ih
theorem equal_rows4 (a b c d a' b' c' d' : Int) (w : World) : (Op.equalIn 10000 33 (.agg #[.int .i64 a, .int .i64 b, .int .i64 c, .int .i64 d]) (.agg #[.int .i64 a', .int .i64 b', .int .i64 c', .int .i64 d'])).run Try.prog w = .ok ([a, b, c, d] == [a', b', c', d']) w := by
  cases hi : Try.prog.info? 3 with
  | none => have := infoInt; rw [hi] at this; simp at this
  | some i =>
    have e := eq_ints4 9998 [a, b, c, d] [a', b', c', d'] w (List.range 4) (fun i hi => by have := List.mem_range.1 hi; simp; omega)
    have e2 : ((List.range 4).all fun i => [a, b, c, d].getD i 0 == [a', b', c', d'].getD i 0) = ([a, b, c, d] == [a', b', c', d']) := by
      simp [List.range, List.range.loop, List.getD, Bool.and_assoc]
    rw [e2] at e
    rw [run_equalIn_array w 9999 _ _ arr4 hi, cells4]
    exact e
/-- What the boxes of a round hold. -/
def Boxes (b4 b7 b8 : Nat) (f t : Int) (zs E : List Int) (W : World) : Prop :=
  W.cell? ⟨b7, 0, none⟩ = some (.int .i64 f) ∧ W.cell? ⟨b7, 1, none⟩ = some (.int .i64 t) ∧
  (W.cell? ⟨b8, 0, none⟩ = some (.int .i64 (pd E 0)) ∧ W.cell? ⟨b8, 1, none⟩ = some (.int .i64 (pd E 1)) ∧ W.cell? ⟨b8, 2, none⟩ = some (.int .i64 (pd E 2)) ∧ W.cell? ⟨b8, 3, none⟩ = some (.int .i64 (pd E 3))) ∧
  (W.cell? ⟨b4, 0, none⟩ = some (.int .i64 (pd zs 0)) ∧ W.cell? ⟨b4, 1, none⟩ = some (.int .i64 (pd zs 1)) ∧ W.cell? ⟨b4, 2, none⟩ = some (.int .i64 (pd zs 2)) ∧ W.cell? ⟨b4, 3, none⟩ = some (.int .i64 (pd zs 3)))

/-- canDouble at whatever row of four numbers. -/
theorem canDouble_row (E : List Int) (f t : Nat) (w : World) (hE : E.length = 4) (h : two 4 (f : Int) (t : Int) = true) :
    Calls Try.prog 20 #[.agg #[.int .i64 (pd E 0), .int .i64 (pd E 1), .int .i64 (pd E 2), .int .i64 (pd E 3)], .agg #[.int .i64 (f : Int), .int .i64 (t : Int)]] w fun e w' => e = .returned (.bool (decide (0 < pd E t ∧ pd E t ≤ pd E f))) ∧ Below w.heap.size w w' := by
  by_cases hz : 0 < pd E t
  · have e : decide (0 < pd E t ∧ pd E t ≤ pd E f) = decide (pd E t ≤ pd E f) := by simp [hz]
    rw [e]
    exact canDouble_go E f t w h hz
  · rw [decide_eq_false (fun hc => hz hc.1)]
    exact canDouble_no2 E (f : Int) t w h hz
set_option maxRecDepth 1000000 in
set_option maxHeartbeats 8000000 in
theorem HeapsBefore_any (A : Option Addr) (n c B : Nat) (zs : List Int) (w : World) (hr : Ints w B A n zs) (hB : B ≤ w.heap.size) (hn : n ≤ 17592186044416) :
    Calls Try.prog 6 #[.slice A n c] w (MadeSS (hbR zs) (few zs) w) := by
  obtain rfl := hr.len
  have HG := hide (fun W (h : Ints W B A zs.length zs) => AreFewHeaps_any A zs.length c B zs W h hn)
  cases hf : few zs
  · have H := hide (show hbR zs = [] from by unfold hbR; rw [hf]; rfl)
    rw [hf] at HG
    rw [H.out]
    clear hf
    go_enter Try.func6, Try.ntmps6
    go_wp2_with fail
    refine (HG.out _ hr).mono ?_; rintro e w' ⟨rfl, rfl⟩
    go_wp2_with fail
    go_ret2
    exact madeSS_none (Below.refl _ _)
  · obtain ⟨hs, h2, h4, _⟩ := few_small hf
    have HR := hide (show hbR zs = hbO zs zs.length from by unfold hbR; rw [hf]; rfl)
    rw [hf] at HG
    have HO := hide (fun W (h : Ints W B A zs.length zs) (h' : B ≤ W.heap.size) => rowOf_any A zs.length c B zs W h h' h4 (by omega))
    have HAL := hide (fun W => allDoublings_any W)
    have HS := hide hs
    have H12 := hide (show all12.length = 12 from by decide)
    have HNAT := hide all12_nat
    have HST := hide (fun k hk => hbP_step zs k hk)
    have hR0 := hide (show hbP zs (all12.take 0) = [] from rfl)
    have HALL := hide (show ∀ k, all12.length ≤ k → hbP zs (all12.take k) = hbP zs all12 from fun k hk => by rw [List.take_of_length_le hk])
    rw [HR.out]
    have HLEN := hide (fun x (hx : x ∈ hbP zs all12) => (show x.length ≤ 4 from by rw [hbO_rows x ((hbP_mem h4 x).1 hx)]; exact h4))
    have HSO := hide (fun L hp hso => sorted_hb hs h4 L hp hso)
    generalize hbO zs zs.length = R at *
    generalize all12 = ds at *
    clear hf hs
    go_enter Try.func6, Try.ntmps6
    go_wp2_with fail
    refine (HG.out _ hr).mono ?_; rintro e w' ⟨rfl, rfl⟩
    go_wp2_with fail
    refine (HO.out _ hr hB).mono ?_; rintro e w1 ⟨rfl, hb1⟩
    have hrow1 := row4_alloc w1 zs 33
    have hs1 := hb1.size
    have hb1' := hb1.alloc hb1.size (.cells #[.int .i64 (pd zs 0), .int .i64 (pd zs 1), .int .i64 (pd zs 2), .int .i64 (pd zs 3)] 33)
    have z1 : w1.heap.size < (w1.alloc (.cells #[.int .i64 (pd zs 0), .int .i64 (pd zs 1), .int .i64 (pd zs 2), .int .i64 (pd zs 3)] 33)).heap.size := by simp
    go_wp2_with fail
    generalize (w1.alloc (.cells #[.int .i64 (pd zs 0), .int .i64 (pd zs 1), .int .i64 (pd zs 2), .int .i64 (pd zs 3)] 33)) = wa at *
    generalize w1.heap.size = b4 at *
    refine (HAL.out _).mono ?_; rintro e w3 ⟨A3, c3, rfl, hds, hb3⟩
    have hrow3 := hrow1.of_block (hb3.block b4 z1)
    have HROW := hide hrow3
    have HDS := hide hds.list
    have HB3 := hide (hb1'.trans (hb3.mono hb1'.size))
    have hz3 : b4 < w3.heap.size := by have := hb3.size; omega
    have hsw3 : w.heap.size ≤ w3.heap.size := HB3.out.size
    clear hrow3 hds hb3 hb1' hrow1 z1 hb1
    go_wp2_with fail
    go_loopw [5, 16] (fun v i wr => ∃ (k : Nat) (F : List (Value × List Int)), k ≤ ds.length ∧ i = .int .i64 k ∧ Hid (OwnPs wr w3.heap.size v F) ∧ Hid (F.map Prod.snd = hbP zs (ds.take k)) ∧ Hid (Below w3.heap.size w3 wr) ∧ Hid (F.length ≤ k) ∧ Hid (F = [] → v = .slice none 0 0))
      (fun _ i _ => ds.length - (intOf i).toNat)
    case atStart => exact ⟨0, [], Nat.zero_le _, rfl, hide (OwnPs.nil _ _), hide hR0.out.symm, hide (Below.refl _ _), hide (Nat.le_refl _), hide (fun _ => rfl)⟩
    case round =>
      obtain ⟨k, F, hk, rfl, HF, HFM, HB, HFL, HNil⟩ := hrel
      by_cases hlt : k < ds.length
      · have hdm := HNAT.out ds[k] (List.getElem_mem hlt)
        have HSTk := hide (HST.out k hlt)
        obtain ⟨b, off, rfl, hab, hc0, hc1⟩ := (HDS.out.below HB.out (Nat.le_refl _)).at_ hlt hlt
        obtain ⟨e0, e1, hf4, ht4, hne⟩ := hdm
        rw [e0] at hc0
        rw [e1] at hc1
        generalize ds[k].x0.toNat = f at *
        generalize ds[k].x1.toNat = t at *
        have hk12 : k < 12 := by have := H12.out; omega
        have hki : (k : Int) < (ds.length : Int) := by omega
        have hsr := HB.out.size
        have HH := hide (fun W => halved_any zs f t W HS.out h4 hf4 ht4 hne)
        have hE4 := half4_length zs f t
        have hrowr := HROW.out.of_block (HB.out.block b4 hz3)
        have hrow0 := hrowr.of_block (w' := wr.alloc (.cells #[.int .i64 (f : Int), .int .i64 (t : Int)] 38)) (Below.heap_alloc _ _ _ (by omega))
        obtain ⟨r0, r1, r2, r3⟩ := four_cells hrow0
        have Hrow0 := hide hrow0
        clear hrowr hrow0 e0 e1
        go_wp2_with fail
        have hbo : Below wr.heap.size wr (wr.alloc (.cells #[.int .i64 (f : Int), .int .i64 (t : Int)] 38)) := (Below.refl _ _).alloc (Nat.le_refl _) _
        have k0 : (wr.alloc (.cells #[.int .i64 (f : Int), .int .i64 (t : Int)] 38)).cell? ⟨wr.heap.size, 0, none⟩ = some (.int .i64 (f : Int)) := by simp
        have k1 : (wr.alloc (.cells #[.int .i64 (f : Int), .int .i64 (t : Int)] 38)).cell? ⟨wr.heap.size, 1, none⟩ = some (.int .i64 (t : Int)) := by simp
        have z0 : wr.heap.size < (wr.alloc (.cells #[.int .i64 (f : Int), .int .i64 (t : Int)] 38)).heap.size := by simp
        generalize (wr.alloc (.cells #[.int .i64 (f : Int), .int .i64 (t : Int)] 38)) = Wd at *
        refine (HH.out _).mono ?_; rintro e w5 ⟨rfl, hb5⟩
        have q0 := (hb5.cell (p := ⟨wr.heap.size, 0, none⟩) z0).trans k0
        have q1 := (hb5.cell (p := ⟨wr.heap.size, 1, none⟩) z0).trans k1
        have hrow5 := Hrow0.out.of_block (hb5.block b4 (by omega))
        have h5s := hb5.size
        clear k0 k1 r0 r1 r2 r3 Hrow0
        go_upto_region 9 with fail
        have hrowE := row4_alloc w5 (half4 zs f t) 33
        obtain ⟨E, hE⟩ : ∃ E, E = half4 zs f t := ⟨_, rfl⟩
        rw [← hE] at hrowE hE4 ⊢
        have hbE : Below w5.heap.size w5 (w5.alloc (.cells #[.int .i64 (pd E 0), .int .i64 (pd E 1), .int .i64 (pd E 2), .int .i64 (pd E 3)] 33)) := (Below.refl _ _).alloc (Nat.le_refl _) _
        have zE : w5.heap.size < (w5.alloc (.cells #[.int .i64 (pd E 0), .int .i64 (pd E 1), .int .i64 (pd E 2), .int .i64 (pd E 3)] 33)).heap.size := by simp
        generalize (w5.alloc (.cells #[.int .i64 (pd E 0), .int .i64 (pd E 1), .int .i64 (pd E 2), .int .i64 (pd E 3)] 33)) = W0 at *
        have q0 := (hbE.cell (p := ⟨wr.heap.size, 0, none⟩) (by show wr.heap.size < _; omega)).trans q0
        have q1 := (hbE.cell (p := ⟨wr.heap.size, 1, none⟩) (by show wr.heap.size < _; omega)).trans q1
        have hrow5 := hrow5.of_block (hbE.block b4 (by omega))
        have HBW := hide (HB.out.trans ((hbo.trans ((hb5.mono (by omega)).trans (hbE.mono (by omega)))).mono hsr))
        have HFW := hide (HF.out.below (hbo.trans ((hb5.mono (by omega)).trans (hbE.mono (by omega)))))
        have HSX := hide (fun W' (h : Below W0.heap.size W0 W') => (show Below W0.heap.size W0 W' ∧ W'.cell? ⟨wr.heap.size, 0, none⟩ = some (.int .i64 (f : Int)) ∧ W'.cell? ⟨wr.heap.size, 1, none⟩ = some (.int .i64 (t : Int)) ∧ W'.cell? ⟨w5.heap.size, 0, none⟩ = some (.int .i64 (pd E 0)) ∧ W'.cell? ⟨w5.heap.size, 1, none⟩ = some (.int .i64 (pd E 1)) ∧ W'.cell? ⟨w5.heap.size, 2, none⟩ = some (.int .i64 (pd E 2)) ∧ W'.cell? ⟨w5.heap.size, 3, none⟩ = some (.int .i64 (pd E 3)) ∧ W'.cell? ⟨b4, 0, none⟩ = some (.int .i64 (pd zs 0)) ∧ W'.cell? ⟨b4, 1, none⟩ = some (.int .i64 (pd zs 1)) ∧ W'.cell? ⟨b4, 2, none⟩ = some (.int .i64 (pd zs 2)) ∧ W'.cell? ⟨b4, 3, none⟩ = some (.int .i64 (pd zs 3)) from by
          obtain ⟨x0, x1, x2, x3⟩ := four_cells (hrowE.of_block (h.block w5.heap.size zE))
          obtain ⟨y0, y1, y2, y3⟩ := four_cells (hrow5.of_block (h.block b4 (by omega)))
          exact ⟨h, (h.cell (p := ⟨wr.heap.size, 0, none⟩) (by show wr.heap.size < _; omega)).trans q0, (h.cell (p := ⟨wr.heap.size, 1, none⟩) (by show wr.heap.size < _; omega)).trans q1, x0, x1, x2, x3, y0, y1, y2, y3⟩))
        have hb45 : b4 < wr.heap.size := by omega
        have hWW : w3.heap.size ≤ W0.heap.size := by omega
        have hW0 : w5.heap.size < W0.heap.size := zE
        have hpt : pd E t = halfOf zs t := by rw [hE, half4_pd zs f t t ht4, if_pos rfl]
        have hpf : pd E f = pd zs f + halfOf zs t := by rw [hE, half4_pd zs f t f hf4, if_neg hne, if_pos rfl]
        have htw : two 4 (f : Int) (t : Int) = true := two_yes ⟨by omega, by omega, by omega, by omega, by omega⟩
        have HCX := hide (fun W => canDouble_row E f t W hE4 htw)
        clear hrowE hrow5 q0 q1 hbo hb5 hbE z0 zE HB HF
        cases hbk : backOk zs f t
        · have hbd : decide (0 < pd E t ∧ pd E t ≤ pd E f) = false := by rw [hpt, hpf]; exact hbk
          have HC := hide (fun W => HCX.out W)
          rw [hbd] at HC
          have HN := hide (show hbP zs (ds.take (k + 1)) = hbP zs (ds.take k) from by rw [HSTk.out, backOk_no HS.out hbk]; simp)
          clear hbd hbk HCX hpt hpf hE htw
          refine wp_region_held_drew (S := (fun W => Below W0.heap.size W0 W ∧ W.cell? ⟨wr.heap.size, 0, none⟩ = some (.int .i64 (f : Int)) ∧ W.cell? ⟨wr.heap.size, 1, none⟩ = some (.int .i64 (t : Int)) ∧ W.cell? ⟨w5.heap.size, 0, none⟩ = some (.int .i64 (pd E 0)) ∧ W.cell? ⟨w5.heap.size, 1, none⟩ = some (.int .i64 (pd E 1)) ∧ W.cell? ⟨w5.heap.size, 2, none⟩ = some (.int .i64 (pd E 2)) ∧ W.cell? ⟨w5.heap.size, 3, none⟩ = some (.int .i64 (pd E 3)) ∧ W.cell? ⟨b4, 0, none⟩ = some (.int .i64 (pd zs 0)) ∧ W.cell? ⟨b4, 1, none⟩ = some (.int .i64 (pd zs 1)) ∧ W.cell? ⟨b4, 2, none⟩ = some (.int .i64 (pd zs 2)) ∧ W.cell? ⟨b4, 3, none⟩ = some (.int .i64 (pd zs 3)))) (by kernel_rfl) ?_ (fun hHeld => ?_)
          · exact HSX.out _ (Below.refl _ _).drew
          refine wpAnyH_take (i := 0) (v := ?_) rfl (by kernel_rfl) (by kernel_rfl) (by kernel_rfl) (fun _ _ _ h => h) (Or.inl ⟨by rfl, ?_⟩) (by assumption) ?_
          rotate_left
          · (intro w hSw; (try dsimp only at hSw); go_simp; first | done | (with_reducible rfl))
          try go_simp
          refine wpAnyH_take (i := 1) (v := ?_) rfl (by kernel_rfl) (by kernel_rfl) (by kernel_rfl) (fun _ _ _ h => h) (Or.inl ⟨by rfl, ?_⟩) (by assumption) ?_
          rotate_left
          · (intro w hSw; (try dsimp only at hSw); go_simp; first | done | (with_reducible rfl))
          try go_simp
          refine wpAnyH_ready (rs := [2]) (by kernel_rfl) (by simp) ?_
          refine AllReadyH.cons rfl (fun K hK => ?_) AllReadyH.nil
          go_simp
          ((with_reducible refine (HC.out _).mono ?_); rintro e w2 ⟨rfl, hb2⟩)
          go_wp2_with fail
          refine hK.out _ _ ?_ (fun hHeld => ?_)
          · exact HSX.out _ (below_next (And.left (by assumption)) hb2)
          clear hK K
          try go_simp
          refine wpAnyH_take (i := 3) (v := ?_) rfl (by kernel_rfl) (by kernel_rfl) (by kernel_rfl) (fun _ _ _ h => h) (Or.inl ⟨by rfl, ?_⟩) (by assumption) ?_
          rotate_left
          · (intro w hSw; (try dsimp only at hSw); go_simp; first | done | (with_reducible rfl))
          try go_simp
          refine wpAnyH_take (i := 4) (v := undef) rfl (by kernel_rfl) (by kernel_rfl) (by kernel_rfl) (fun _ _ _ h => h) (Or.inr ⟨by kernel_rfl, rfl⟩) (by assumption) ?_
          try go_simp
          refine wpAnyH_take (i := 5) (v := undef) rfl (by kernel_rfl) (by kernel_rfl) (by kernel_rfl) (fun _ _ _ h => h) (Or.inr ⟨by kernel_rfl, rfl⟩) (by assumption) ?_
          try go_simp
          refine wpAnyH_take (i := 6) (v := undef) rfl (by kernel_rfl) (by kernel_rfl) (by kernel_rfl) (fun _ _ _ h => h) (Or.inr ⟨by kernel_rfl, rfl⟩) (by assumption) ?_
          try go_simp
          refine wpAnyH_take (i := 7) (v := undef) rfl (by kernel_rfl) (by kernel_rfl) (by kernel_rfl) (fun _ _ _ h => h) (Or.inr ⟨by kernel_rfl, rfl⟩) (by assumption) ?_
          try go_simp
          refine wpAnyH_take (i := 8) (v := undef) rfl (by kernel_rfl) (by kernel_rfl) (by kernel_rfl) (fun _ _ _ h => h) (Or.inr ⟨by kernel_rfl, rfl⟩) (by assumption) ?_
          try go_simp
          refine wpAnyH_take (i := 9) (v := ?_) rfl (by kernel_rfl) (by kernel_rfl) (by kernel_rfl) (fun _ _ _ h => h) (Or.inl ⟨by rfl, ?_⟩) (by assumption) ?_
          rotate_left
          · (intro w hSw; (try dsimp only at hSw); go_simp; first | done | (with_reducible rfl))
          try go_simp
          refine wpAnyH_done (by kernel_rfl) ?_ _
          obtain ⟨hB0, _⟩ := hHeld
          have HBF := hide hB0
          clear hB0
          go_wp2_with fail
          go_roundw
          case rel => exact ⟨k + 1, F, by omega, by go_num, hide (HFW.out.below HBF.out), hide (HFM.out.trans HN.out.symm), hide (HBW.out.trans (HBF.out.mono (by omega))), hide (by have := HFL.out; omega), HNil⟩
          case measure => simp [intOf]; omega
        · obtain ⟨hf, ht, h0⟩ := back_of HS.out hbk
          have hbd : decide (0 < pd E t ∧ pd E t ≤ pd E f) = true := by rw [hpt, hpf]; exact hbk
          have hEk : ∀ k, k < 4 → pd E k = pd (earl zs f t) k := fun k hk => by rw [hE]; exact half4_earl h4 hf ht hne k hk
          have HC := hide (fun W => HCX.out W)
          rw [hbd] at HC
          rw [hEk 0 (by omega), hEk 1 (by omega), hEk 2 (by omega), hEk 3 (by omega)] at HC HSX
          rw [hEk 0 (by omega), hEk 1 (by omega), hEk 2 (by omega), hEk 3 (by omega)]
          have hes := earl_small HS.out hf ht hne
          have hel := earl_length zs f t
          have HD := hide (fun W => doubled_any (earl zs f t) f t W hes (by omega) (by omega) (by omega) hne (by
            have a := earl_getD hf ht t
            have b := earl_getD hf ht f
            rw [if_pos rfl, getD_get (by omega)] at a
            rw [if_neg hne, if_pos rfl, getD_get (by omega)] at b
            rw [a, b]
            have := (small_get HS.out f hf).1
            rw [getD_get hf]; omega))
          have HEQ := fun W => equal_rows4 (pd (dmade f t (earl zs f t)) 0) (pd (dmade f t (earl zs f t)) 1) (pd (dmade f t (earl zs f t)) 2) (pd (dmade f t (earl zs f t)) 3) (pd zs 0) (pd zs 1) (pd zs 2) (pd zs 3) W
          rw [row_again HS.out h4 hne hbk] at HEQ
          have HLI := hide (fun W => rowList_any (earl zs f t) W hes (by omega))
          have hN := HSTk.out
          clear hel
          clear hbd hbk HCX hpt hpf hE htw hEk hf ht h0 HSTk HH
          generalize dmade f t (earl zs f t) = D at *
          cases hok : okE zs f t
          · rw [hok] at HEQ hN
            have HN := hide (show hbP zs (ds.take (k + 1)) = hbP zs (ds.take k) from by rw [hN]; simp)
            clear hok hN
            generalize earl zs f t = Y at *
            refine wp_region_held_drew (S := (fun W => Below W0.heap.size W0 W ∧ W.cell? ⟨wr.heap.size, 0, none⟩ = some (.int .i64 (f : Int)) ∧ W.cell? ⟨wr.heap.size, 1, none⟩ = some (.int .i64 (t : Int)) ∧ W.cell? ⟨w5.heap.size, 0, none⟩ = some (.int .i64 (pd Y 0)) ∧ W.cell? ⟨w5.heap.size, 1, none⟩ = some (.int .i64 (pd Y 1)) ∧ W.cell? ⟨w5.heap.size, 2, none⟩ = some (.int .i64 (pd Y 2)) ∧ W.cell? ⟨w5.heap.size, 3, none⟩ = some (.int .i64 (pd Y 3)) ∧ W.cell? ⟨b4, 0, none⟩ = some (.int .i64 (pd zs 0)) ∧ W.cell? ⟨b4, 1, none⟩ = some (.int .i64 (pd zs 1)) ∧ W.cell? ⟨b4, 2, none⟩ = some (.int .i64 (pd zs 2)) ∧ W.cell? ⟨b4, 3, none⟩ = some (.int .i64 (pd zs 3)))) (by kernel_rfl) ?_ (fun hHeld => ?_)
            · exact HSX.out _ (Below.refl _ _).drew
            refine wpAnyH_take (i := 0) (v := ?_) rfl (by kernel_rfl) (by kernel_rfl) (by kernel_rfl) (fun _ _ _ h => h) (Or.inl ⟨by rfl, ?_⟩) (by assumption) ?_
            rotate_left
            · (intro w hSw; (try dsimp only at hSw); go_simp; first | done | (with_reducible rfl))
            try go_simp
            refine wpAnyH_take (i := 1) (v := ?_) rfl (by kernel_rfl) (by kernel_rfl) (by kernel_rfl) (fun _ _ _ h => h) (Or.inl ⟨by rfl, ?_⟩) (by assumption) ?_
            rotate_left
            · (intro w hSw; (try dsimp only at hSw); go_simp; first | done | (with_reducible rfl))
            try go_simp
            refine wpAnyH_ready (rs := [2]) (by kernel_rfl) (by simp) ?_
            refine AllReadyH.cons rfl (fun K hK => ?_) AllReadyH.nil
            go_simp
            ((with_reducible refine (HC.out _).mono ?_); rintro e w2 ⟨rfl, hb2⟩)
            go_wp2_with fail
            refine hK.out _ _ ?_ (fun hHeld => ?_)
            · exact HSX.out _ (below_next (And.left (by assumption)) hb2)
            clear hK K
            try go_simp
            refine wpAnyH_take (i := 3) (v := ?_) rfl (by kernel_rfl) (by kernel_rfl) (by kernel_rfl) (fun _ _ _ h => h) (Or.inl ⟨by rfl, ?_⟩) (by assumption) ?_
            rotate_left
            · (intro w hSw; (try dsimp only at hSw); go_simp; first | done | (with_reducible rfl))
            try go_simp
            refine wpAnyH_take (i := 4) (v := ?_) rfl (by kernel_rfl) (by kernel_rfl) (by kernel_rfl) (fun _ _ _ h => h) (Or.inl ⟨by rfl, ?_⟩) (by assumption) ?_
            rotate_left
            · (intro w hSw; (try dsimp only at hSw); go_simp; first | done | (with_reducible rfl))
            try go_simp
            refine wpAnyH_take (i := 5) (v := ?_) rfl (by kernel_rfl) (by kernel_rfl) (by kernel_rfl) (fun _ _ _ h => h) (Or.inl ⟨by rfl, ?_⟩) (by assumption) ?_
            rotate_left
            · (intro w hSw; (try dsimp only at hSw); go_simp; first | done | (with_reducible rfl))
            try go_simp
            refine wpAnyH_take (i := 7) (v := ?_) rfl (by kernel_rfl) (by kernel_rfl) (by kernel_rfl) (fun _ _ _ h => h) (Or.inl ⟨by rfl, ?_⟩) (by assumption) ?_
            rotate_left
            · (intro w hSw; (try dsimp only at hSw); go_simp; first | done | (with_reducible rfl))
            try go_simp
            refine wpAnyH_ready (rs := [6]) (by kernel_rfl) (by simp) ?_
            refine AllReadyH.cons rfl (fun K hK => ?_) AllReadyH.nil
            go_simp
            ((with_reducible refine (HD.out _).mono ?_); rintro e w4 ⟨rfl, hb4⟩)
            go_wp2_with fail
            refine hK.out _ _ ?_ (fun hHeld => ?_)
            · exact HSX.out _ (below_next (And.left (by assumption)) hb4)
            clear hK K
            try go_simp
            refine wpAnyH_take (i := 8) (v := ?_) rfl (by kernel_rfl) (by kernel_rfl) (by kernel_rfl) (fun _ _ _ h => h) (Or.inl ⟨by rfl, ?_⟩) (by assumption) ?_
            rotate_left
            · (intro w hSw; (try dsimp only at hSw); go_simp; first | done | (with_reducible rfl))
            try go_simp
            refine wpAnyH_take (i := 9) (v := ?_) rfl (by kernel_rfl) (by kernel_rfl) (by kernel_rfl) (fun _ _ _ h => h) (Or.inl ⟨by rfl, ?_⟩) (by assumption) ?_
            rotate_left
            · (intro w hSw; (try dsimp only at hSw); go_simp; first | done | (with_reducible rfl))
            try go_simp
            refine wpAnyH_done (by kernel_rfl) ?_ _
            obtain ⟨hB0, _⟩ := hHeld
            have HBF := hide hB0
            clear hB0
            go_wp2_with fail
            go_roundw
            case rel => exact ⟨k + 1, F, by omega, by go_num, hide (HFW.out.below HBF.out), hide (HFM.out.trans HN.out.symm), hide (HBW.out.trans (HBF.out.mono (by omega))), hide (by have := HFL.out; omega), HNil⟩
            case measure => simp [intOf]; omega
          · rw [hok] at HEQ hN
            have HN := hide (show hbP zs (ds.take (k + 1)) = hbP zs (ds.take k) ++ [earl zs f t] from by rw [hN]; simp)
            clear hok hN
            generalize earl zs f t = Y at *
            refine wp_region_held_drew (S := (fun W => Below W0.heap.size W0 W ∧ W.cell? ⟨wr.heap.size, 0, none⟩ = some (.int .i64 (f : Int)) ∧ W.cell? ⟨wr.heap.size, 1, none⟩ = some (.int .i64 (t : Int)) ∧ W.cell? ⟨w5.heap.size, 0, none⟩ = some (.int .i64 (pd Y 0)) ∧ W.cell? ⟨w5.heap.size, 1, none⟩ = some (.int .i64 (pd Y 1)) ∧ W.cell? ⟨w5.heap.size, 2, none⟩ = some (.int .i64 (pd Y 2)) ∧ W.cell? ⟨w5.heap.size, 3, none⟩ = some (.int .i64 (pd Y 3)) ∧ W.cell? ⟨b4, 0, none⟩ = some (.int .i64 (pd zs 0)) ∧ W.cell? ⟨b4, 1, none⟩ = some (.int .i64 (pd zs 1)) ∧ W.cell? ⟨b4, 2, none⟩ = some (.int .i64 (pd zs 2)) ∧ W.cell? ⟨b4, 3, none⟩ = some (.int .i64 (pd zs 3)))) (by kernel_rfl) ?_ (fun hHeld => ?_)
            · exact HSX.out _ (Below.refl _ _).drew
            refine wpAnyH_take (i := 0) (v := ?_) rfl (by kernel_rfl) (by kernel_rfl) (by kernel_rfl) (fun _ _ _ h => h) (Or.inl ⟨by rfl, ?_⟩) (by assumption) ?_
            rotate_left
            · (intro w hSw; (try dsimp only at hSw); go_simp; first | done | (with_reducible rfl))
            try go_simp
            refine wpAnyH_take (i := 1) (v := ?_) rfl (by kernel_rfl) (by kernel_rfl) (by kernel_rfl) (fun _ _ _ h => h) (Or.inl ⟨by rfl, ?_⟩) (by assumption) ?_
            rotate_left
            · (intro w hSw; (try dsimp only at hSw); go_simp; first | done | (with_reducible rfl))
            try go_simp
            refine wpAnyH_ready (rs := [2]) (by kernel_rfl) (by simp) ?_
            refine AllReadyH.cons rfl (fun K hK => ?_) AllReadyH.nil
            go_simp
            ((with_reducible refine (HC.out _).mono ?_); rintro e w2 ⟨rfl, hb2⟩)
            go_wp2_with fail
            refine hK.out _ _ ?_ (fun hHeld => ?_)
            · exact HSX.out _ (below_next (And.left (by assumption)) hb2)
            clear hK K
            try go_simp
            refine wpAnyH_take (i := 3) (v := ?_) rfl (by kernel_rfl) (by kernel_rfl) (by kernel_rfl) (fun _ _ _ h => h) (Or.inl ⟨by rfl, ?_⟩) (by assumption) ?_
            rotate_left
            · (intro w hSw; (try dsimp only at hSw); go_simp; first | done | (with_reducible rfl))
            try go_simp
            refine wpAnyH_take (i := 4) (v := ?_) rfl (by kernel_rfl) (by kernel_rfl) (by kernel_rfl) (fun _ _ _ h => h) (Or.inl ⟨by rfl, ?_⟩) (by assumption) ?_
            rotate_left
            · (intro w hSw; (try dsimp only at hSw); go_simp; first | done | (with_reducible rfl))
            try go_simp
            refine wpAnyH_take (i := 5) (v := ?_) rfl (by kernel_rfl) (by kernel_rfl) (by kernel_rfl) (fun _ _ _ h => h) (Or.inl ⟨by rfl, ?_⟩) (by assumption) ?_
            rotate_left
            · (intro w hSw; (try dsimp only at hSw); go_simp; first | done | (with_reducible rfl))
            try go_simp
            refine wpAnyH_take (i := 7) (v := ?_) rfl (by kernel_rfl) (by kernel_rfl) (by kernel_rfl) (fun _ _ _ h => h) (Or.inl ⟨by rfl, ?_⟩) (by assumption) ?_
            rotate_left
            · (intro w hSw; (try dsimp only at hSw); go_simp; first | done | (with_reducible rfl))
            try go_simp
            refine wpAnyH_ready (rs := [6]) (by kernel_rfl) (by simp) ?_
            refine AllReadyH.cons rfl (fun K hK => ?_) AllReadyH.nil
            go_simp
            ((with_reducible refine (HD.out _).mono ?_); rintro e w4 ⟨rfl, hb4⟩)
            go_wp2_with fail
            refine hK.out _ _ ?_ (fun hHeld => ?_)
            · exact HSX.out _ (below_next (And.left (by assumption)) hb4)
            clear hK K
            try go_simp
            refine wpAnyH_take (i := 8) (v := ?_) rfl (by kernel_rfl) (by kernel_rfl) (by kernel_rfl) (fun _ _ _ h => h) (Or.inl ⟨by rfl, ?_⟩) (by assumption) ?_
            rotate_left
            · (intro w hSw; (try dsimp only at hSw); go_simp; first | done | (with_reducible rfl))
            try go_simp
            refine wpAnyH_take (i := 9) (v := ?_) rfl (by kernel_rfl) (by kernel_rfl) (by kernel_rfl) (fun _ _ _ h => h) (Or.inl ⟨by rfl, ?_⟩) (by assumption) ?_
            rotate_left
            · (intro w hSw; (try dsimp only at hSw); go_simp; first | done | (with_reducible rfl))
            try go_simp
            refine wpAnyH_done (by kernel_rfl) ?_ _
            obtain ⟨hB0, x0, x1, y0, y1, y2, y3, _⟩ := hHeld
            have HBF := hide hB0
            have hsf := hB0.size
            clear hB0
            go_wp2_with fail
            obtain ⟨Av, cv, hv, _, _⟩ := HFW.out.shape
            subst hv
            refine (HLI.out _).mono ?_; rintro e w6 ⟨Al, cl, rfl, hcl, hclm, hO6, hb6⟩
            have HO6 := hide hO6
            have HF6 := hide ((HFW.out.below HBF.out).below hb6)
            have HB6 := hide (HBW.out.trans ((HBF.out.trans (hb6.mono hsf)).mono (by omega)))
            have hs6 := hb6.size
            have HAP := hide (fun y (hy : y ∈ F) => apart_old (p := (.slice Al Y.length cl, Y)) ((HFW.out.below HBF.out).2.1 y hy).1 hO6)
            have HVB := hide (block_old (p := (.slice Al Y.length cl, Y)) (HFW.out.below HBF.out) hO6)
            have HKB := hide (fun b hb => (HF6.out.vblk b hb).1)
            have hO6l := hide (HO6.out.less (show w3.heap.size ≤ w4.heap.size by omega))
            have hfl : F.length < 1000000 := by have := HFL.out; omega
            have hs36 : w3.heap.size ≤ w6.heap.size := by omega
            clear hO6 hb6 x0 x1 y0 y1 y2 y3 HEQ
            go_wp2_with (at_builtin; refine wpList_app_rowP rfl _ _ rfl w3.heap.size w3.heap.size (.slice Av F.length cv) F (.slice Al Y.length cl, Y) rfl HF6.out hO6l.out HAP.out HVB.out HKB.out hs36 _ rfl hs36 hfl ?_; intro v1 w7 hown1 hb7 _; have G1 := hide hown1; have R1 := hide (HB6.out.trans hb7); clear hown1 hb7)
            go_roundw
            case rel => exact ⟨k + 1, F ++ [(.slice Al Y.length cl, Y)], by omega, by go_num, G1, hide (by rw [List.map_append, HFM.out, HN.out]; rfl), R1, hide (by rw [List.length_append, List.length_singleton]; have := HFL.out; omega), hide (fun e => by simp at e)⟩
            case measure => simp [intOf]; omega
      · have HRF := hide (HFM.out.trans (HALL.out k (by omega)))
        have hki : ¬ (k : Int) < (ds.length : Int) := by omega
        have HB4 := hide (HB3.out.trans (HB.out.mono hsw3))
        have hsr := HB.out.size
        by_cases hF0 : F = []
        · have hv := HNil.out hF0
          subst hv
          have HRN := hide (show ([] : List (List Int)) = R from HSO.out [] (by rw [← HRF.out, hF0]; exact .refl _) .nil)
          clear hF0
          go_wp2_with fail
          refine (sortNone_any _ _ _).mono ?_; rintro e _ ⟨rfl, rfl⟩
          go_wp2_with fail
          go_ret2
          rw [← HRN.out]
          exact ⟨none, 0, [], rfl, Nat.le_refl _, Nat.zero_le _, OwnVs.nil _ _, HB4.out⟩
        · rcases HF.out.1.2 with ⟨e, h0⟩ | ⟨g, cap, cur, e, hbg, hgc, hr1, hr2, _⟩
          · exact absurd (List.eq_nil_of_length_eq_zero h0) hF0
          · subst e
            obtain ⟨hglt, _⟩ := Array.getElem?_eq_some_iff.1 hgc
            have HSR := hide (sortRows_any wr w3.heap.size g cap F hF0 HF.out (fun x hx => by
              have h5 : x.2 ∈ F.map Prod.snd := List.mem_map_of_mem hx
              rw [HRF.out] at h5
              have := HLEN.out x.2 h5
              omega) (by have := HFL.out; have := H12.out; omega) hbg hglt)
            clear hgc hr1 hr2
            go_wp2_with fail
            refine HSR.out.mono ?_
            rintro e w8 ⟨rfl, L', hp, hpw, hps3, hoth, hb8⟩
            have HL' : Hid (L'.map Prod.snd = R) := hide (HSO.out _ (by rw [← HRF.out]; exact hp.map _) (by
              rw [List.pairwise_map]
              exact hpw))
            have hlen : L'.length = F.length := hp.length_eq
            have HV := hide ((hps3.less hsw3).toVs)
            have HB5 := hide (HB4.out.trans (hb8.mono hsw3))
            clear hp hpw hps3 hoth hb8
            go_wp2_with fail
            go_ret2
            have hv := HV.out
            rw [HL'.out] at hv
            obtain ⟨A', c', e, h1, h2⟩ := hv.shape
            rw [e] at hv ⊢
            exact ⟨A', c', _, rfl, h1, h2, hv, HB5.out⟩
end Go.Proofs.Ytolhplakpemadaa
