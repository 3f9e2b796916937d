
/-
  ONE MOVE, BOTH WAYS: MakeMove.
-/
import Derived.Test.YtdaghclnggbmoaaPlayC
namespace Go.Proofs.Ytdaghclnggbmoaa
open Go.RowKit Go.Deep
set_option linter.unusedVariables false

theorem play_one (zs : List Int) (m : Mv) : play zs [m] = if canMv zs m.f m.t m.c then some (moved m.f.toNat m.t.toNat m.c zs) else none := by
  simp [play]
theorem playOk_one {zs : List Int} (hg : good zs = true) (m : Mv) : playOk zs [m] = canMv zs m.f m.t m.c := by
  unfold playOk
  rw [hg, play_one]
  cases canMv zs m.f m.t m.c <;> simp
theorem playL_one {zs : List Int} (hg : good zs = true) (m : Mv) : playL zs [m] = movedR zs m.f m.t m.c := by
  unfold playL movedR
  rw [playOk_one hg, play_one]
  cases canMv zs m.f m.t m.c <;> simp

/-- The model's MakeMove. -/
theorem specMakeMove_any (A : Option Addr) (n c B : Nat) (zs : List Int) (m : Mv) (w : World) (hr : Ints w B A n zs) (hB : B ≤ w.heap.size) (hn : n ≤ 17592186044416) :
    Calls Try.prog 17 #[.slice A n c, .agg #[.int .i64 m.f, .int .i64 m.t, .int .i64 m.c]] w (MadeR (playL zs [m]) (playOk zs [m]) w) := by
  obtain rfl := hr.len
  have hro : ∀ o, Ints (w.alloc o) B A zs.length zs := fun o => hr.alloc hB o
  cases hg : good zs
  · have H1 := hide (playOk_bad (ms := [m]) hg)
    rw [playL_no H1.out, H1.out]
    have hgb : good zs = false := hg
    go_enter Try.func17, Try.ntmps17
    go_wp2_with fail
    refine (hpGood_any _ _ _ _ _ _ (hro _) hn).mono ?_; rintro e w' ⟨rfl, rfl⟩; rw [hgb]
    go_wp2_with fail
    go_ret2
    exact madeR_none ((Below.refl _ _).alloc (Nat.le_refl _) _)
  · rw [playL_one hg, playOk_one hg]
    have hgb : good zs = true := hg
    have hle := (good_of hg).2.1
    have hle1 := (good_of hg).1
    have hcalm := calm_of_good hg
    generalize hL : movedR zs m.f m.t m.c = L at *
    generalize hO : canMv zs m.f m.t m.c = O at *
    have HL := hide hL
    have HO := hide hO
    clear hL hO
    go_enter Try.func17, Try.ntmps17
    go_wp2_with fail
    refine (hpGood_any _ _ _ _ _ _ (hro _) hn).mono ?_; rintro e w' ⟨rfl, rfl⟩; rw [hgb]
    go_wp2_with fail
    refine (hpMove_any _ _ _ _ _ _ _ _ _ (hro _) (by simp; omega) hle1 hle hcalm).mono ?_
    rw [HL.out, HO.out]
    rintro e w3 ⟨A3, c3, rfl, h31, h32, hown3, hb3⟩
    go_wp2_with fail
    go_ret2
    exact madeR_below ((Below.refl _ _).alloc (Nat.le_refl _) _) ⟨A3, c3, rfl, h31, h32, hown3, hb3⟩

theorem one_mvs (W : World) (T : TypeId) (m : Mv) : Mvs (W.alloc (.cells #[.int .i64 m.f, .int .i64 m.t, .int .i64 m.c] T)) (W.heap.size + 1) (some ⟨W.heap.size, 0, none⟩) 1 [m] := by
  refine ⟨rfl, fun _ => ⟨W.heap.size, 0, rfl, by omega, fun i hi => ?_⟩⟩
  match i, hi with
  | 0, _ => rw [show cellM [m] 0 = .int .i64 m.f from rfl]; simp
  | 1, _ => rw [show cellM [m] 1 = .int .i64 m.t from rfl]; simp
  | 2, _ => rw [show cellM [m] 2 = .int .i64 m.c from rfl]; simp

/-- The program's MakeMove. -/
theorem MakeMove_any (A : Option Addr) (n c B : Nat) (zs : List Int) (m : Mv) (w : World) (hr : Ints w B A n zs) (hB : B ≤ w.heap.size) (hn : n ≤ 17592186044416) :
    Calls Try.prog 19 #[.slice A n c, .agg #[.int .i64 m.f, .int .i64 m.t, .int .i64 m.c]] w (MadeR (playL zs [m]) (playOk zs [m]) w) := by
  obtain rfl := hr.len
  go_enter Try.func19, Try.ntmps19
  go_wp2_with fail
  have hmv := one_mvs (w.alloc (.cells #[.int .i64 m.f, .int .i64 m.t, .int .i64 m.c] 44)) 44 m
  rw [show (w.alloc (.cells #[.int .i64 m.f, .int .i64 m.t, .int .i64 m.c] 44)).heap.size = w.heap.size + 1 from by simp] at hmv
  refine (PlayMoves_any _ _ _ _ _ _ _ _ zs [m] _ (((hr.alloc hB _).alloc (by simp; omega) _)) (by simp; omega) hn hmv (by simp) (by omega)).mono ?_
  rintro e w3 ⟨A3, c3, rfl, h31, h32, hown3, hb3⟩
  go_wp2_with fail
  go_ret2
  exact madeR_below (((Below.refl _ _).alloc (Nat.le_refl _) _).alloc (by simp) _) ⟨A3, c3, rfl, h31, h32, hown3, hb3⟩
end Go.Proofs.Ytdaghclnggbmoaa
