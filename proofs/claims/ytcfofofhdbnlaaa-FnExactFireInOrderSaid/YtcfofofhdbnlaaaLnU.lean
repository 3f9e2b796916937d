
/-
  THE MODEL'S FireAt, FireAll, FireInOrder.
-/
import Derived.Test.YtcfofofhdbnlaaaLnT
namespace Go.Proofs.Ytcfofofhdbnlaaa
open Go.RowKit Go.Deep
set_option linter.unusedVariables false

/-- WHAT A FIRING LEAVES: a list, what is lost, whether it is. -/
def Made3 (zs : List Int) (l : Int) (b : Bool) (w : World) (e : Ending) (w' : World) : Prop :=
  ∃ A c, e = .returned (.tuple #[.slice A zs.length c, .int .i64 l, .bool b]) ∧ zs.length ≤ c ∧ c ≤ maxLen ∧ Own w' w.heap.size 3 (.slice A zs.length c) zs ∧ Below w.heap.size w w'
theorem made3_none {w w' : World} (h : Below w.heap.size w w') : Made3 [] 0 false w (.returned (.tuple #[.slice none 0 0, .int .i64 0, .bool false])) w' :=
  ⟨none, 0, rfl, Nat.le_refl _, Nat.zero_le _, Own.nil _ _ _, h⟩

def fatOk (zs : List Int) (p : Int) : Bool := hasked zs p && decide (1 < zs.getD p.toNat 0)
def fatR (zs : List Int) (p : Int) : List Int := if fatOk zs p then chipsOf zs (once zs.length p.toNat) else []
def fatL (zs : List Int) (p : Int) : Int := if fatOk zs p then lostOf (once zs.length p.toNat) else 0
theorem fatR_short (zs : List Int) (p : Int) (h : zs.length ≤ 1048576) : (fatR zs p).length ≤ 1048576 := by
  unfold fatR; split
  · rw [chipsOf_length]; exact h
  · simp
theorem once_upto (n p : Nat) (hp : p < n) : upto (once n p) 1 := by
  rw [once_more]; exact upto_more (upto_noF n 0 (by omega)) p (by rw [noF_length]; exact hp)
theorem small_chips {zs : List Int} (hg : hgood zs = true) (j : Nat) : -1000000000 ≤ zs.getD j 0 ∧ zs.getD j 0 ≤ 1000000000 := by
  by_cases hj : j < zs.length
  · have := hgood_getD hg j hj; omega
  · rw [getD_over _ _ (by omega)]; omega
theorem small_of {ts : List Int} {m : Int} (h : upto ts m) (hm : m ≤ 1000000000) (j : Nat) : 0 ≤ ts.getD j 0 ∧ ts.getD j 0 ≤ 1000000000 := by have := h j; omega

set_option maxRecDepth 100000 in
theorem specFireAt_any (A : Option Addr) (n c B : Nat) (zs : List Int) (p : Int) (w : World) (hr : Ints w B A n zs) (hB : B ≤ w.heap.size) (hn : n ≤ 17592186044416) :
    Calls Try.prog 7 #[.slice A n c, .int .i64 p] w (Made3 (fatR zs p) (fatL zs p) (fatOk zs p) w) := by
  obtain rfl := hr.len
  cases ha : hasked zs p
  · have hok : fatOk zs p = false := by unfold fatOk; rw [ha]; rfl
    rw [show fatR zs p = [] from by simp [fatR, hok], show fatL zs p = 0 from by simp [fatL, hok], hok]
    clear hok
    go_enter Try.func7, Try.ntmps7
    go_wp2_with fail
    refine (chAsked_any _ _ _ _ _ _ _ hr hn).mono ?_; rintro e w' ⟨rfl, rfl⟩; rw [ha]
    go_wp2_with fail
    go_ret3
    exact made3_none (Below.refl _ _)
  · obtain ⟨hg, k, rfl, hk⟩ := hasked_of ha
    obtain ⟨h1, h20, _⟩ := hgood_of hg
    have hz := small_chips hg
    have HA := hide (chAsked_any A zs.length c B zs (k : Int) w hr hn)
    rw [ha] at HA
    obtain ⟨ad, rfl, hab, hcell⟩ := hr.at_ hk
    by_cases h2 : 1 < zs.getD k 0
    · have hok : fatOk zs (k : Int) = true := by unfold fatOk; rw [ha, Int.toNat_natCast, decide_eq_true h2]; rfl
      rw [show fatR zs (k : Int) = chipsOf zs (once zs.length k) from by simp [fatR, hok], show fatL zs (k : Int) = lostOf (once zs.length k) from by simp [fatL, hok], hok]
      have HO := hide (fun W => chOnce_any zs.length k W hk h20)
      have hu := once_upto zs.length k hk
      have HL := hide (chipsOf_length zs (once zs.length k))
      have HOL := hide (once_length zs.length k)
      have HF := hide (fun A' c' B' W hr' (h1' : B ≤ W.heap.size) h2' (hrW : Ints W B (some ad) zs.length zs) (hB' : B ≤ W.heap.size) => chFire_any (some ad) A' zs.length c c' B B' zs (once zs.length k) W hrW (hr' : Ints W B' A' zs.length (once zs.length k)) h1' (h2' : B' ≤ W.heap.size) (by omega) h20 hz (small_of hu (by omega)))
      have HT := hide (fun A' c' B' W (hr' : Ints W B' A' zs.length (once zs.length k)) => chLost_any A' zs.length c' B' (once zs.length k) W hr' (by omega) (by omega) (small_of hu (by omega)))
      have HR := hide hr
      generalize zs.getD k 0 = z at *
      generalize lostOf (once zs.length k) = l at *
      clear hz ha hok hu hr
      go_enter Try.func7, Try.ntmps7
      go_wp2_with fail
      refine HA.out.mono ?_; rintro e w' ⟨rfl, rfl⟩
      go_wp2_with fail
      refine (HO.out _).mono ?_
      rintro e w1 ⟨g, c1, rfl, hg1, hg2, hc1, hc2, hown, hb1⟩
      rw [HOL.out] at hown hc1
      rw [HOL.out]
      have hT1 := hown.ints
      rw [HOL.out] at hT1
      have hZ1 := HR.out.below hb1 hB
      have s1 := hb1.size
      go_wp2_with fail
      refine (HF.out _ c1 _ _ hT1 (by omega) (Nat.le_refl _) hZ1 (by omega)).mono ?_
      rintro e w2 ⟨g2, c2, rfl, _, _, hc3, hc4, hown2, hb2⟩
      rw [HL.out] at hown2 hc3
      rw [HL.out]
      have hT2 := hT1.below hb2 (Nat.le_refl _)
      go_wp2_with fail
      refine (HT.out _ c1 _ _ hT2).mono ?_
      rintro e w3 ⟨rfl, hb3⟩
      have hO3 := hown2.below hb3
      go_wp2_with fail
      go_ret3
      exact ⟨some ⟨g2, 0, none⟩, c2, by rw [HL.out]; rfl, by rw [HL.out]; exact hc3, hc4, by rw [HL.out]; exact hO3.less s1, below_next (below_next hb1 hb2) hb3⟩
    · have hok : fatOk zs (k : Int) = false := by unfold fatOk; rw [ha, Int.toNat_natCast, decide_eq_false h2]; rfl
      rw [show fatR zs (k : Int) = [] from by simp [fatR, hok], show fatL zs (k : Int) = 0 from by simp [fatL, hok], hok]
      clear hok hz ha
      generalize zs.getD k 0 = z at *
      go_enter Try.func7, Try.ntmps7
      go_wp2_with fail
      refine HA.out.mono ?_; rintro e w' ⟨rfl, rfl⟩
      go_wp2_with fail
      go_ret3
      exact made3_none (Below.refl _ _)

/-- What FireAll tells. -/
def allR (zs : List Int) : List Int := if hgood zs then chipsOf zs (readyL zs) else []
def allL (zs : List Int) : Int := if hgood zs then lostOf (readyL zs) else 0
theorem allR_short (zs : List Int) (h : zs.length ≤ 1048576) : (allR zs).length ≤ 1048576 := by
  unfold allR; split
  · rw [chipsOf_length]; exact h
  · simp

set_option maxRecDepth 100000 in
theorem specFireAll_any (A : Option Addr) (n c B : Nat) (zs : List Int) (w : World) (hr : Ints w B A n zs) (hB : B ≤ w.heap.size) (hn : n ≤ 17592186044416) :
    Calls Try.prog 13 #[.slice A n c] w (Made3 (allR zs) (allL zs) (hgood zs) w) := by
  obtain rfl := hr.len
  have HA := hide (chGood_any A zs.length c B zs w hr hn)
  cases hg : hgood zs
  · rw [show allR zs = [] from by simp [allR, hg], show allL zs = 0 from by simp [allL, hg]]
    rw [hg] at HA
    clear hg
    go_enter Try.func13, Try.ntmps13
    go_wp2_with fail
    refine HA.out.mono ?_; rintro e w' ⟨rfl, rfl⟩
    go_wp2_with fail
    go_ret3
    exact made3_none (Below.refl _ _)
  · rw [show allR zs = chipsOf zs (readyL zs) from by simp [allR, hg], show allL zs = lostOf (readyL zs) from by simp [allL, hg]]
    obtain ⟨h1, h20, _⟩ := hgood_of hg
    have hz := small_chips hg
    rw [hg] at HA
    have HO := hide (fun W (h : Ints W B A zs.length zs) (h2 : B ≤ W.heap.size) => chReady_any A zs.length c B zs W h h2 (by omega) (by omega))
    have hu := readyL_upto zs
    have HL := hide (chipsOf_length zs (readyL zs))
    have HOL := hide (readyL_length zs)
    have HF := hide (fun A' c' B' W hr' (h1' : B ≤ W.heap.size) h2' (hrW : Ints W B A zs.length zs) => chFire_any A A' zs.length c c' B B' zs (readyL zs) W hrW (hr' : Ints W B' A' zs.length (readyL zs)) h1' (h2' : B' ≤ W.heap.size) (by omega) h20 hz (small_of hu (by omega)))
    have HT := hide (fun A' c' B' W (hr' : Ints W B' A' zs.length (readyL zs)) => chLost_any A' zs.length c' B' (readyL zs) W hr' (by omega) (by omega) (small_of hu (by omega)))
    have HR := hide hr
    generalize lostOf (readyL zs) = l at *
    clear hz hg hu hr
    go_enter Try.func13, Try.ntmps13
    go_wp2_with fail
    refine HA.out.mono ?_; rintro e w' ⟨rfl, rfl⟩
    go_wp2_with fail
    refine (HO.out _ HR.out hB).mono ?_
    rintro e w1 ⟨g, c1, rfl, hg1, hg2, hc1, hc2, hown, hb1⟩
    rw [HOL.out] at hown hc1
    rw [HOL.out]
    have hT1 := hown.ints
    rw [HOL.out] at hT1
    have hZ1 := HR.out.below hb1 hB
    have s1 := hb1.size
    go_wp2_with fail
    refine (HF.out _ c1 _ _ hT1 (by omega) (Nat.le_refl _) hZ1).mono ?_
    rintro e w2 ⟨g2, c2, rfl, _, _, hc3, hc4, hown2, hb2⟩
    rw [HL.out] at hown2 hc3
    rw [HL.out]
    have hT2 := hT1.below hb2 (Nat.le_refl _)
    go_wp2_with fail
    refine (HT.out _ c1 _ _ hT2).mono ?_
    rintro e w3 ⟨rfl, hb3⟩
    have hO3 := hown2.below hb3
    go_wp2_with fail
    go_ret3
    exact ⟨some ⟨g2, 0, none⟩, c2, by rw [HL.out]; rfl, by rw [HL.out]; exact hc3, hc4, by rw [HL.out]; exact hO3.less s1, below_next (below_next hb1 hb2) hb3⟩

/-- What FireInOrder tells. -/
def ordOk (zs os : List Int) : Bool := (orderF zs os).isSome
def ordR (zs os : List Int) : List Int := match orderF zs os with
  | some ts => chipsOf zs ts
  | none => []
theorem ordR_none {zs os : List Int} (h : orderF zs os = none) : ordR zs os = [] ∧ ordOk zs os = false := by unfold ordR ordOk; rw [h]; exact ⟨rfl, rfl⟩
theorem ordR_some {zs os ts : List Int} (h : orderF zs os = some ts) : ordR zs os = chipsOf zs ts ∧ ordOk zs os = true := by unfold ordR ordOk; rw [h]; exact ⟨rfl, rfl⟩
theorem ordR_short (zs os : List Int) (h : zs.length ≤ 1048576) : (ordR zs os).length ≤ 1048576 := by
  cases e : orderF zs os with
  | none => rw [(ordR_none e).1]; simp
  | some ts => rw [(ordR_some e).1, chipsOf_length]; exact h
end Go.Proofs.Ytcfofofhdbnlaaa
