
/-
  ALL LISTS OF SO MANY NUMBERS, THE MODEL's WAY: cyAll.
-/
import Derived.Test.YtkhcabgpbmhimaaSzP
import Derived.Test.YtkhcabgpbmhimaaOwnA
import Derived.Test.YtkhcabgpbmhimaaSsA
namespace Go.Proofs.Ytkhcabgpbmhimaa
open Go.RowKit Go.Deep
set_option linter.unusedVariables false

theorem own_nilv {w : World} {base : Nat} {e : TypeId} {A : Option Addr} {n c : Nat} {zs : List Int} (h : Own w base e (.slice A n c) zs) : A = none → n = 0 ∧ c = 0 := by
  rintro rfl
  rcases h.form with ⟨h1, _⟩ | ⟨g, c', h1, _⟩
  · injection h1 with _ h2 h3; exact ⟨h2, h3⟩
  · injection h1 with h1; cases h1
/-- '[][]int{nil}'. -/
theorem ownVs_one (w : World) : OwnVs (w.alloc (.cells #[.slice none 0 0] 22)) w.heap.size (.slice (some ⟨w.heap.size, 0, none⟩) 1 1) [.slice none 0 0] [[]] := by
  have e : (w.alloc (.cells #[.slice none 0 0] 22)).heap[w.heap.size]? = some (.cells #[.slice none 0 0] 22 (0, 0)) := by
    show (w.heap.push _)[w.heap.size]? = _
    simp
  refine ⟨rfl, ⟨rfl, .inr ⟨w.heap.size, 1, _, rfl, Nat.le_refl _, e, Nat.le_refl _, by unfold maxLen; omega, by simp, by simp⟩⟩, fun k hk => ?_, fun i j hij hj => ?_, fun i hi b hb => ?_⟩
  · obtain rfl : k = 0 := by simpa using hk
    exact Own.nil _ _ _
  · simp at hj; omega
  · obtain rfl : i = 0 := by simpa using hi
    cases hb
theorem rowsD_get (b s k : Nat) (hk : k < (rowsD b s).length) : (rowsD b s).getD k [] = dg b s k := by
  have hk' := hk
  rw [rowsD_length] at hk'
  simp [rowsD, List.getD, hk']
theorem OwnVs.keepK {w w' : World} {base K : Nat} {v : Value} {vs : List Value} {zss : List (List Int)} (h : OwnVs w base v vs zss) (hb : Below K w w')
    (hK : (∀ i, i < zss.length → ∀ b, (vs.getD i undef).ownBlock = some b → b < K) ∧ ∀ b, v.ownBlock = some b → b < K) : OwnVs w' base v vs zss := by
  obtain ⟨h1, h2, h3, h4, h5⟩ := h
  refine ⟨h1, ⟨h2.1, ?_⟩, fun k hk' => (h3 k hk').keepB fun g hg hlt => hb.block g (hK.1 k hk' g hg), h4, h5⟩
  rcases h2.2 with h2 | ⟨g, cap, cur, hv, hb', hg, r⟩
  · exact .inl h2
  · exact .inr ⟨g, cap, cur, hv, hb', (hb.block g (hK.2 g (by rw [hv]; rfl))).trans hg, r⟩
/-- All of zss, each with one more number below b. -/
def expL (b : Nat) (zss : List (List Int)) : List (List Int) := zss.flatMap fun l => (List.range b).map fun n => l ++ [((n : Nat) : Int)]
theorem expL_len (b : Nat) : ∀ zss : List (List Int), (expL b zss).length = zss.length * b
  | [] => by simp [expL]
  | z :: zss => by
    have := expL_len b zss
    unfold expL at this ⊢
    rw [List.flatMap_cons, List.length_append, this, List.length_map, List.length_range, List.length_cons, Nat.succ_mul, Nat.add_comm]
theorem expL_succ (b : Nat) (zss : List (List Int)) (k : Nat) (hk : k < zss.length) : expL b (zss.take (k + 1)) = expL b (zss.take k) ++ (List.range b).map fun n => zss.getD k [] ++ [((n : Nat) : Int)] := by
  unfold expL
  rw [List.take_succ_eq_append_getElem hk, List.flatMap_append]
  simp [List.getD, hk]
theorem map_range_succ (f : Nat → List Int) (n : Nat) : (List.range (n + 1)).map f = (List.range n).map f ++ [f n] := by rw [List.range_succ, List.map_append]; rfl

set_option maxRecDepth 100000 in
set_option maxHeartbeats 8000000 in
theorem cyAll_any (s b : Nat) (w : World) (hs : s ≤ 4) (hb1 : 1 ≤ b) (hb7 : b ≤ 9) :
    Calls Try.prog 10 #[.int .i64 (s : Int), .int .i64 ((b : Int) - 1)] w fun e w' => ∃ v, e = .returned v ∧ (∃ vs, OwnVs w' w.heap.size v vs (rowsD b s)) ∧ Below w.heap.size w w' := by
  have HS := hide (fun t => rowsD_succ (b := b) (by omega) t)
  have HLN := hide (fun (t : Nat) (h : t < s) => show (rowsD b t).length ≤ 729 by
    rw [rowsD_length]
    exact Nat.le_trans (Nat.pow_le_pow_left hb7 t) (Nat.le_trans (Nat.pow_le_pow_right (by omega) (show t ≤ 3 by omega)) (by decide)))
  have hO := ownVs_one w
  have hB := (Below.refl w.heap.size w).alloc (Nat.le_refl _) (.cells #[.slice none 0 0] 22)
  have HO := hide hO
  have HB := hide hB
  clear hO hB
  go_enter Try.func10, Try.ntmps10
  go_wp2_with fail
  go_loopw [0, 5] (fun c v W => ∃ t : Nat, t ≤ s ∧ c = .int .i64 ((s : Int) - (t : Int)) ∧ (∃ vs, Hid (OwnVs W w.heap.size v vs (rowsD b t))) ∧ Hid (Below w.heap.size w W))
    (fun c _ _ => (intOf c).toNat)
  case atStart => exact ⟨0, Nat.zero_le _, by simp, ⟨_, HO⟩, HB⟩
  case round =>
    clear HO HB
    obtain ⟨t, ht, rfl, ⟨vs, HV⟩, HBt⟩ := hrel
    obtain ⟨A5, c5, rfl, h51, h52⟩ := HV.out.shape
    obtain ⟨W1, hW1⟩ : ∃ W1, W1 = wr := ⟨_, rfl⟩
    subst hW1
    by_cases hlt : t < s
    · have hpos : 0 < (s : Int) - (t : Int) := by omega
      have hln := HLN.out t hlt
      have HSt := hide (show rowsD b (t + 1) = expL b (rowsD b t) from HS.out t)
      have HRL := hide (fun k (hk : k < (rowsD b t).length) => show ((rowsD b t).getD k []).length ≤ 4 by rw [rowsD_get b t k hk, dg_length]; omega)
      generalize rowsD b t = zss at *
      have HE := hide (fun k hk => expL_succ b zss k hk)
      have HEL := hide (fun k => expL_len b (zss.take k))
      have HT0 := hide (show zss.take zss.length = zss from List.take_length)
      have hsz := hide HBt.out.size
      go_wp2_with fail
      go_loopw [6, 17] (fun v i W => ∃ k : Nat, k ≤ zss.length ∧ i = .int .i64 (k : Int) ∧ (∃ us, Hid (OwnVs W W1.heap.size v us (expL b (zss.take k)))) ∧ Hid (Below W1.heap.size W1 W))
        (fun _ i _ => zss.length - (intOf i).toNat)
      case atStart => exact ⟨0, Nat.zero_le _, rfl, ⟨[], hide (OwnVs.nil _ _)⟩, hide (Below.refl _ _)⟩
      case round =>
        obtain ⟨k, hk, rfl, ⟨us, HU⟩, HBk⟩ := hrel
        obtain ⟨W2, hW2⟩ : ∃ W2, W2 = wr := ⟨_, rfl⟩
        subst hW2
        by_cases hlt2 : k < zss.length
        · have HVk := hide (HV.out.below HBk.out)
          obtain ⟨ad, rfl, _, hcell⟩ := HVk.out.vals.at_ hlt2
          have hrow := HV.out.2.2.1 k hlt2
          obtain ⟨Al, cl, el, _, _⟩ := hrow.shape
          rw [el] at hcell hrow
          have HR := hide hrow.ints
          have HRn := hide (own_nilv hrow)
          have HEk := hide (HE.out k hlt2)
          have hll := HEL.out k
          have hkl : (zss.take k).length = k := by rw [List.length_take]; omega
          rw [hkl] at hll
          have hll2 : (expL b (zss.take k)).length ≤ 6561 := by
            rw [hll]
            exact Nat.le_trans (Nat.mul_le_mul (show k ≤ 729 by omega) hb7) (by decide)
          have hrl := HRL.out k hlt2
          have hB2 := hide HBk.out.size
          clear hrow hll hkl el
          generalize expL b (zss.take k) = fs at *
          generalize zss.getD k [] = l at *
          have hlt3 : (k : Int) < (zss.length : Int) := by omega
          go_wp2_with fail
          go_loopw [6, 9] (fun v i W => ∃ n : Nat, n ≤ b ∧ i = .int .i64 (n : Int) ∧ (∃ us, Hid (OwnVs W W1.heap.size v us (fs ++ (List.range n).map fun m => l ++ [((m : Nat) : Int)]))) ∧ Hid (Below W1.heap.size W1 W))
            (fun _ i _ => b - (intOf i).toNat)
          case atStart => exact ⟨0, Nat.zero_le _, rfl, ⟨us, by simpa using HU⟩, HBk⟩
          case round =>
            obtain ⟨n, hn, rfl, ⟨us, HU⟩, HBn⟩ := hrel
            by_cases hlt4 : n < b
            · have hcmp : (n : Int) ≤ (b : Int) - 1 := by omega
              have hsn := hide HBn.out.size
              have HLO := hide (l1Own_all Al l.length cl W1.heap.size l wr (HR.out.below HBn.out (Nat.le_refl _)) hsn.out (by omega) HRn.out)
              have HMS := hide (show (fs ++ (List.range (n + 1)).map fun m => l ++ [((m : Nat) : Int)]) = (fs ++ (List.range n).map fun m => l ++ [((m : Nat) : Int)]) ++ [l ++ [(n : Int)]] from by rw [map_range_succ (fun m => l ++ [((m : Nat) : Int)]) n, List.append_assoc])
              have hgl : (fs ++ (List.range n).map fun m => l ++ [((m : Nat) : Int)]).length < 1000000 := by rw [List.length_append, List.length_map, List.length_range]; omega
              have HKK := hide HU.out.blks
              generalize (fs ++ (List.range n).map fun m => l ++ [((m : Nat) : Int)]) = gs at *
              obtain ⟨W3, hW3⟩ : ∃ W3, W3 = wr := ⟨_, rfl⟩
              subst hW3
              obtain ⟨A6, c6, rfl, _, _⟩ := HU.out.shape
              go_wp2_with fail
              refine HLO.out.mono ?_; rintro e w4 ⟨u, rfl, hu, hb4⟩
              obtain ⟨Au, cu, rfl, _, _⟩ := hu.shape
              have HO4 := hide hu
              have HB4 := hide hb4
              have hs4 := hide hb4.size
              have HU4 := hide (HU.out.below hb4)
              clear hu hb4
              go_wp2_with (first | (at_builtin; refine wpList_app_int rfl _ _ 22 3 rfl Try.underlying22 infoInt W3.heap.size _ l rfl HO4.out _ _ rfl hs4.out (by omega) ?_; intro v' w' hown' hb'; obtain ⟨Av, cv, rfl, _, _⟩ := hown'.shape; rw [List.length_append, List.length_singleton] at hown'; have HO5 := hide hown'; have HU5 := hide (HU4.out.keepK hb' HKK.out); have HB5 := hide (HB4.out.trans hb'); clear hown' hb') | (at_builtin; refine wpList_app_row rfl (.tmp 26) (.tmp 32) rfl W1.heap.size W3.heap.size (.slice A6 gs.length c6) (.slice Av (l.length + 1) cv) us gs (l ++ [(n : Int)]) rfl HU5.out HO5.out HKK.out hsn.out _ rfl (Nat.le_trans hsn.out HB5.out.size) hgl ?_; intro v7 w7 hU7 hb7 _; have HU7 := hide hU7; have HB7 := hide (HBn.out.trans ((HB5.out.mono hsn.out).trans hb7)); clear hU7 hb7))
              go_roundw
              case rel => exact ⟨n + 1, by omega, by go_num, ⟨_, by rw [HMS.out]; exact HU7⟩, HB7⟩
              case measure => simp [intOf]; omega
            · obtain rfl : n = b := by omega
              have hcmp : ¬ (n : Int) ≤ (n : Int) - 1 := by omega
              rw [← HEk.out] at HU
              go_wp2_with fail
              go_roundw
              case rel => exact ⟨k + 1, by omega, by go_num, ⟨us, HU⟩, HBn⟩
              case measure => simp [intOf]; omega
        · obtain rfl : k = zss.length := by omega
          have hU := HU.out
          rw [HT0.out, ← HSt.out] at hU
          have HU := hide (hU.less hsz.out)
          clear hU
          go_wp2_with fail
          go_roundw
          case rel => exact ⟨t + 1, by omega, by go_num, ⟨us, HU⟩, hide (HBt.out.trans (HBk.out.mono hsz.out))⟩
          case measure => simp [intOf]; omega
    · obtain rfl : t = s := by omega
      have hpos : ¬ 0 < (t : Int) - (t : Int) := by omega
      go_wp2_with fail
      go_ret
      exact ⟨_, rfl, ⟨vs, HV.out⟩, HBt.out⟩
end Go.Proofs.Ytkhcabgpbmhimaa
