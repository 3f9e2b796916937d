
/-
  MARKS IN A LIST OF LISTS: what lies behind it is as it was.
-/
import Derived.Test.YtjfkadmmmhefbaaDoorSs
namespace Go.Proofs.YtjfkadmmmhefbaaDoor
open Go.RowKit Go.Deep
set_option linter.unusedVariables false

theorem OwnVs.blk_lt {w : World} {base : Nat} {v : Value} {vs : List Value} {zss : List (List Int)} (h : OwnVs w base v vs zss) : ∀ i, i < zss.length → ∀ b, (vs.getD i undef).ownBlock = some b → b < w.heap.size := by
  intro i hi b hb
  rcases (h.2.2.1 i hi).form with ⟨e, _⟩ | ⟨g, c, e, _, hg, _⟩
  · rw [e] at hb; cases hb
  · rw [e] at hb
    injection hb with hb
    rw [← hb]; exact hg

set_option maxRecDepth 100000 in
set_option maxHeartbeats 1000000 in
theorem markIntSS_oth (base hi : Nat) (A : Option Addr) (n c : Nat) (vs : List Value) (zss : List (List Int)) (k0 : Int) (w : World) (hown : OwnVs w base (.slice A n c) vs zss) (hlen : zss.length = n) (hn : sizeSS zss ≤ 1048576) (hk0 : 0 ≤ k0) (hk1 : k0 ≤ 10000000) (hbs : base ≤ w.heap.size) (hcap : n ≤ 17592186044416)
    (hblk : ∀ i, i < zss.length → ∀ b, (vs.getD i undef).ownBlock = some b → b < hi) :
    Calls Tryd.prog 13 #[.slice A n c, .int .i64 k0] w fun e w' => e = .returned (.int .i64 (k0 + (sizeSS zss : Int))) ∧ Below base w w' ∧ ∀ h, hi ≤ h → h < w.heap.size → w'.heap[h]? = w.heap[h]? := by
  subst hlen
  have hz : ∀ k, k < zss.length → (zss.getD k []).length ≤ 1048576 := fun k hk => by
    have := sizeSS_succ zss k hk
    have := sizeSS_le zss (k + 1)
    omega
  have HZ := hide hz
  have HS := hide (fun k (hk : k < zss.length) => sizeSS_succ zss k hk)
  have HL := hide (fun k => sizeSS_le zss k)
  have HM := hide hown
  have HBK := hide hblk
  have H0 := hide (show sizeSS (zss.take 0) = 0 by simp [sizeSS])
  have HF := hide (show sizeSS (zss.take zss.length) = sizeSS zss by rw [List.take_length])
  clear hz hown hblk
  go_enter Tryd.func13, Tryd.ntmps13
  go_wp2_with fail
  go_loopw [1, 5] (fun kv i wr => ∃ j : Nat, j ≤ zss.length ∧ i = .int .i64 j ∧ kv = .int .i64 (k0 + (sizeSS (zss.take j) : Int)) ∧ OwnVs wr base (.slice A zss.length c) vs (mixSS k0 j zss) ∧ Below base w wr ∧ Hid (∀ h, hi ≤ h → h < w.heap.size → wr.heap[h]? = w.heap[h]?))
    (fun _ i _ => zss.length - (intOf i).toNat)
  case atStart => exact ⟨0, Nat.zero_le _, rfl, by rw [H0.out]; simp, by rw [mixSS_zero]; exact HM.out, Below.refl _ _, hide (fun _ _ _ => rfl)⟩
  case round =>
    obtain ⟨j, hj, rfl, rfl, ho, hb, HOT⟩ := hrel
    have BB := hide hb
    have OO := hide ho
    clear hb ho
    by_cases hlt : j < zss.length
    · have hmx := mixSS_length k0 j zss hj
      have hv := OO.out.vals
      rw [hmx] at hv
      obtain ⟨ad, rfl, hab, hcell⟩ := hv.at_ hlt
      have hrow := OO.out.2.2.1 j (by omega)
      rw [mixSS_ge k0 j j zss (Nat.le_refl _) hlt] at hrow
      obtain ⟨A1, c1, e1, _, _⟩ := hrow.shape
      have hzj := HZ.out j hlt
      have hs1 := HL.out j
      have HSj := hide (HS.out j hlt)
      rw [e1] at hcell hrow
      have E1 := hide e1
      have HB1 := hide (HBK.out j hlt)
      have HMj := hide (markIntS_any base A1 (zss.getD j []).length c1 (zss.getD j []) (k0 + (sizeSS (zss.take j) : Int)) wr hrow rfl hzj (by omega) (by omega))
      have HNX : Hid (∀ w2, Own w2 base 3 (.slice A1 (zss.getD j []).length c1) (marks (k0 + (sizeSS (zss.take j) : Int)) (zss.getD j []).length) → (∀ h, h < wr.heap.size → (∀ ad, A1 = some ad → h ≠ ad.block) → w2.heap[h]? = wr.heap[h]?) →
          OwnVs w2 base (.slice (some ad) zss.length c) vs (mixSS k0 (j + 1) zss)) := hide fun w2 h2 h3 => by
        refine OO.out.turned j (by omega) (by rw [mixSS_length _ _ _ hlt, hmx]) (fun k hk hne => ?_) ?_ (fun g hg hne => h3 g hg (fun ad' he h4 => hne (by rw [E1.out, he, h4]; rfl)))
        · rw [hmx] at hk
          rcases Nat.lt_or_ge k j with h7 | h7
          · rw [mixSS_lt _ _ _ _ (by omega) hlt, mixSS_lt _ _ _ _ h7 hj]
          · rw [mixSS_ge _ _ _ _ (by omega) hk, mixSS_ge _ _ _ _ h7 hk]
        · rw [mixSS_lt _ _ _ _ (by omega) hlt, marksSS_getD _ _ _ hlt, E1.out]
          exact h2
      clear hv hrow e1 hmx
      generalize sizeSS (zss.take j) = sj at *
      generalize (zss.getD j []).length = L at *
      go_wp2_with fail
      refine HMj.out.mono ?_; rintro e w2 ⟨rfl, h2, hb2, h3⟩
      have O2 := hide (HNX.out w2 h2 h3)
      have B2 := hide (BB.out.trans hb2)
      have HO2 := hide (show ∀ h, hi ≤ h → h < w.heap.size → w2.heap[h]? = w.heap[h]? from fun h h4 h5 => (h3 h (Nat.lt_of_lt_of_le h5 BB.out.size) (fun ad' he e => by have := HB1.out ad'.block (by rw [E1.out, he]; rfl); omega)).trans (HOT.out h h4 h5))
      clear h2 h3 hb2
      go_wp2_with fail
      go_roundw
      case rel => exact ⟨j + 1, by omega, by go_num, by rw [HSj.out]; congr 1; omega, O2.out, B2.out, HO2⟩
      case measure => simp [intOf]; omega
    · obtain rfl : j = zss.length := by omega
      go_wp2_with fail
      go_ret
      exact ⟨by rw [← HF.out]; rfl, BB.out, HOT.out⟩

end Go.Proofs.YtjfkadmmmhefbaaDoor
