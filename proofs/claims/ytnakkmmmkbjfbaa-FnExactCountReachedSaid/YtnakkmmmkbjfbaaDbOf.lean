
/-
  ALL DOUBLINGS THAT CAN BE MADE, BOTH WAYS: DoublingsOf.
-/
import Derived.Test.YtnakkmmmkbjfbaaDbAll
import Derived.Test.YtnakkmmmkbjfbaaDelFn
import Derived.Deep.RegionHeld3
namespace Go.Proofs.Ytnakkmmmkbjfbaa
open Go.RowKit Go.Deep
set_option linter.unusedVariables false

def ofL (zs : List Int) : List Db := if few zs then allD zs else []
theorem ofL_short (zs : List Int) : (ofL zs).length ≤ 100000 := by
  unfold ofL
  cases h : few zs
  · simp
  · have hs := few_small h
    have h1 := outD_len zs zs.length
    have h2 : zs.length * zs.length ≤ 4 * 4 := Nat.mul_le_mul (by omega) (by omega)
    rw [if_pos rfl]
    unfold allD
    omega
theorem OwnIDb.form2 {w : World} {base n : Nat} {v : Value} {xs : List Int} (h : OwnIDb w base v n xs) (h0 : 0 < n) : ∃ g c, v = .slice (some ⟨g, 0, none⟩) n c ∧ base ≤ g ∧ g < w.heap.size ∧ n ≤ c ∧ c ≤ maxLen := by
  rcases h.1.2 with ⟨_, h1⟩ | ⟨g, cap, cur, rfl, hb, hg, hn, hm, _⟩
  · omega
  · exact ⟨g, cap, rfl, hb, (Array.getElem?_eq_some_iff.1 hg).1, hn, hm⟩

set_option maxRecDepth 1000000 in
theorem doublings_any (zs : List Int) (w : World) (hs : small zs) (h2 : 2 ≤ zs.length) (hn : zs.length ≤ 4) :
    Calls Try.prog 51 #[.agg #[.int .i64 (pd zs 0), .int .i64 (pd zs 1), .int .i64 (pd zs 2), .int .i64 (pd zs 3)]] w
      fun e w' => ∃ A' c', e = .returned (.slice A' (allD zs).length c') ∧ OwnIDb w' w.heap.size (.slice A' (allD zs).length c') (allD zs).length (numsDb (allD zs)) ∧ Below w.heap.size w w' := by
  have HA := hide (fun W => allDoublings_any W)
  have HD := hide (fun (base g c br : Nat) W (hown : OwnIDb W base (.slice (some ⟨g, 0, none⟩) all12.length c) all12.length (numsDb all12)) (hc : all12.length ≤ c) (hc2 : c ≤ maxLen) (hg : base ≤ g) (hgw : g < W.heap.size) (hbr : br < base) (hrow : W.rowIs br 42 4 (fun j => .int .i64 (pd zs j))) =>
    DeleteFunc_any base g c br all12 zs W hs hn hown (by decide) hc hc2 hg hgw hbr hrow)
  rw [all_eq zs h2 hn] at HD
  have H12 := hide (show 0 < all12.length from by decide)
  have hrow := row4_alloc w zs 42
  have Hrow := hide hrow
  clear hrow hs
  generalize allD zs = L at *
  generalize all12 = M at *
  go_enter Try.func51, Try.ntmps51
  go_wp2_with fail
  have hA0 : Below w.heap.size w (w.alloc (.cells #[.int .i64 (pd zs 0), .int .i64 (pd zs 1), .int .i64 (pd zs 2), .int .i64 (pd zs 3)] 42)) := (Below.refl _ _).alloc (Nat.le_refl _) _
  have z0 : w.heap.size < (w.alloc (.cells #[.int .i64 (pd zs 0), .int .i64 (pd zs 1), .int .i64 (pd zs 2), .int .i64 (pd zs 3)] 42)).heap.size := by simp
  generalize (w.alloc (.cells #[.int .i64 (pd zs 0), .int .i64 (pd zs 1), .int .i64 (pd zs 2), .int .i64 (pd zs 3)] 42)) = W0 at *
  refine (HA.out _).mono ?_; rintro e w2 ⟨A', c', rfl, hown, hb2⟩
  obtain ⟨g, c, hv, hg, hgw, hc, hc2⟩ := hown.form2 H12.out
  injection hv with hA hn' hc'
  subst hA hc'
  have hrow2 := Hrow.out.of_block (hb2.block _ z0)
  have HDx := hide (HD.out _ g c' w.heap.size w2 hown hc hc2 hg hgw z0 hrow2)
  clear hown hrow2 hc2
  go_wp2_with fail
  refine HDx.out.mono ?_; rintro e w3 ⟨rfl, hown3, hb3⟩
  go_wp2_with fail
  go_ret
  exact ⟨_, _, rfl, hown3.less (by omega), hA0.trans ((hb2.trans hb3).mono hA0.size)⟩

end Go.Proofs.Ytnakkmmmkbjfbaa
