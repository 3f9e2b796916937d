
/-
  PLAYS OF SPLITS, the model's way: slPlay.
-/
import Derived.Test.YtpeblkbbnkinaaaSlM
import Derived.Test.YtpeblkbbnkinaaaSpB
namespace Go.Proofs.Ytpeblkbbnkinaaa
open Go.RowKit Go.Deep
set_option linter.unusedVariables false

theorem smade_at {k : Nat} {p : Int} {zs : List Int} (hk : k < zs.length) : (smade k p zs)[k]'(by rw [smade_length]; omega) = zs[k] - p := by
  unfold smade; simp [List.getD, hk]
/-- A split that can be made: its numbers. -/
theorem smay_ix {r : Int} {zs : List Int} {d : Sp} (hz : within 1 60 zs = true) (h : smay r zs d.x0 d.x1 = true) : ∃ i : Nat, d.x0 = (i : Int) ∧ ∃ hi : i < zs.length, 1 ≤ d.x1 ∧ 2 * d.x1 ≤ zs[i] ∧ zs[i] ≤ 60 := by
  have h' := smay_of h
  obtain ⟨i, hi⟩ := Int.eq_ofNat_of_zero_le h'.1
  have hlt : i < zs.length := by omega
  have h3 := scan_of h'.2.2
  rw [hi, Int.toNat_natCast, show zs.getD i 0 = zs[i] from by simp [List.getD, hlt]] at h3
  exact ⟨i, hi, hlt, h3.1, h3.2.1, (within_get hz i hlt).2⟩
theorem prod_bd {p h : Int} (h1 : 1 ≤ p) (h2 : 2 * p ≤ h) (h3 : h ≤ 60) : 0 ≤ p * (h - p) ∧ p * (h - p) ≤ 3600 :=
  ⟨Int.mul_nonneg (by omega) (by omega), by
    have := Int.mul_le_mul (a := p) (b := h - p) (c := 60) (d := 60) (by omega) (by omega) (by omega) (by omega)
    omega⟩
theorem ssum_bd (r : Int) (zs : List Int) (ds : List Sp) (hz : within 1 60 zs = true) : ∀ k, k ≤ ds.length → (splay r zs (ds.take k)).isSome = true → 0 ≤ ssum r zs (ds.take k) ∧ ssum r zs (ds.take k) ≤ 3600 * k
  | 0, _, _ => by simp [ssum]
  | k + 1, hk, hs => by
    cases hp : splay r zs (ds.take k) with
    | none =>
      rw [List.take_succ_eq_append_getElem (by omega), splay_append, hp] at hs
      simp at hs
    | some ys =>
      have ih := ssum_bd r zs ds hz k (by omega) (by rw [hp]; rfl)
      rw [ssum_take_succ r zs ys ds k (by omega) hp]
      rw [splay_take_succ r zs ds k (by omega) ys hp] at hs
      cases hm : smay r ys (ds[k]'(by omega)).x0 (ds[k]'(by omega)).x1
      · rw [hm] at hs; simp at hs
      · obtain ⟨i, e, hi, h1, h2, h3⟩ := smay_ix (splay_bd _ _ _ _ hz hp).1 hm
        have := prod_bd h1 h2 h3
        have e2 : sprod ys (ds[k]'(by omega)) = (ds[k]'(by omega)).x1 * (ys[i] - (ds[k]'(by omega)).x1) := by
          unfold sprod; rw [e, Int.toNat_natCast, show ys.getD i 0 = ys[i] from by simp [List.getD, hi]]
        rw [e2]
        omega

/-- What a play leaves: the heaps, the sum. -/
def plL (r : Int) (zs : List Int) (ds : List Sp) : List Int := (splay r zs ds).getD []
def plOk (r : Int) (zs : List Int) (ds : List Sp) : Bool := (splay r zs ds).isSome
def plS (r : Int) (zs : List Int) (ds : List Sp) : Int := if plOk r zs ds then ssum r zs ds else 0
def MadeP (zs : List Int) (s : Int) (b : Bool) (w : World) (e : Ending) (w' : World) : Prop :=
  ∃ A c, e = .returned (.tuple #[.slice A zs.length c, .int .i64 s, .bool b]) ∧ zs.length ≤ c ∧ c ≤ maxLen ∧ Own w' w.heap.size 3 (.slice A zs.length c) zs ∧ Below w.heap.size w w'
theorem madeP_none {w w' : World} (h : Below w.heap.size w w') : MadeP [] 0 false w (.returned (.tuple #[.slice none 0 0, .int .i64 0, .bool false])) w' :=
  ⟨none, 0, rfl, Nat.le_refl _, Nat.zero_le _, Own.nil _ _ _, h⟩

set_option maxHeartbeats 2000000 in
theorem slPlay_any (r : Int) (A : Option Addr) (n c B : Nat) (A' : Option Addr) (n' c' B' : Nat) (zs : List Int) (ds : List Sp) (w : World) (hr : Ints w B A n zs) (hB : B ≤ w.heap.size) (hd : Sps w B' A' n' ds) (hB' : B' ≤ w.heap.size)
    (hn1 : 1 ≤ n) (hn8 : n ≤ 8) (hn' : n' ≤ 60) (hrule : srule r = true) (hz : within 1 60 zs = true) :
    Calls Try.prog 34 #[.int .i64 r, .slice A n c, .slice A' n' c'] w (MadeP (plL r zs ds) (plS r zs ds) (plOk r zs ds) w) := by
  obtain rfl := hr.len
  obtain rfl := hd.len
  have HZ := hide hz
  have HR := hide hrule
  clear hz hrule
  go_enter Try.func34, Try.ntmps34
  go_wp2_with fail
  refine (l1Own_any _ _ _ _ _ _ hr hB hn1 (by omega)).mono ?_
  rintro e w1 ⟨g1, c1, rfl, hg1, hg2, hc1, hc2, hown1, hb1⟩
  have s1 := hb1.size
  go_wp2_with fail
  go_loopw [9, 10, 19] (fun v s i wr => ∃ (k : Nat) (ys : List Int) (Ak : Option Addr) (ck : Nat), k ≤ ds.length ∧ i = .int .i64 k ∧ v = .slice Ak ys.length ck ∧ s = .int .i64 (ssum r zs (ds.take k)) ∧ Hid (splay r zs (ds.take k) = some ys) ∧
      Hid (Own wr w.heap.size 3 (.slice Ak ys.length ck) ys) ∧ ys.length ≤ ck ∧ ck ≤ maxLen ∧ Below w.heap.size w wr)
    (fun _ _ i _ => ds.length - (intOf i).toNat)
  case atStart => exact ⟨0, zs, _, c1, Nat.zero_le _, rfl, rfl, rfl, hide rfl, hide hown1, hc1, hc2, hb1⟩
  case round =>
    obtain ⟨k, ys, Ak, ck, hk, rfl, rfl, rfl, HP, HO, hc1, hc2, hb⟩ := hrel
    have hsz := hb.size
    have hys := splay_bd _ _ _ _ HZ.out HP.out
    have hyl : ys.length = zs.length + k := by rw [hys.2, List.length_take]; omega
    have HY := hide hys.1
    have hsb := ssum_bd r zs ds HZ.out k hk (by rw [HP.out]; rfl)
    clear hys
    by_cases hlt : k < ds.length
    · obtain ⟨b, off, rfl, hab, hc0, hc1'⟩ := (hd.below hb hB').at_ hlt hlt
      have HN := hide (splay_take_succ r zs ds k hlt ys HP.out)
      have HSu := hide (ssum_take_succ r zs ys ds k hlt HP.out)
      have hyi : ∀ o, Ints (wr.alloc o) wr.heap.size Ak ys.length ys := fun o => HO.out.ints.alloc (Nat.le_refl _) o
      have hy1 : 1 ≤ ys.length := by omega
      have hy2 : ys.length ≤ 1000 := by omega
      cases hm : smay r ys ds[k].x0 ds[k].x1
      · have HC := hide (fun W (h : Ints W wr.heap.size Ak ys.length ys) (hB : wr.heap.size ≤ W.heap.size) => slMake_no r Ak ys.length ck wr.heap.size ys ds[k].x0 ds[k].x1 W h hB hy1 hy2 HR.out HY.out hm)
        have hst := splay_stuck r zs ds (k + 1) (by rw [HN.out, hm]; rfl)
        have HB := hide (show plL r zs ds = [] ∧ plS r zs ds = 0 ∧ plOk r zs ds = false from by unfold plL plS plOk; rw [hst]; exact ⟨rfl, rfl, rfl⟩)
        clear hst hm HN hyl
        generalize ds[k] = d at *
        go_wp2_with fail
        refine (HC.out _ (hyi _) (by simp)).mono ?_
        rintro e w4 ⟨rfl, hb4⟩
        go_wp2_with fail
        go_ret3
        rw [HB.out.1, HB.out.2.1, HB.out.2.2]
        exact madeP_none (below_next (hb.alloc hsz _) hb4)
      · obtain ⟨i, e0, hi, h1, h2, h3⟩ := smay_ix HY.out hm
        have HNx := hide (show splay r zs (ds.take (k + 1)) = some (smade i ds[k].x1 ys) from by rw [HN.out, hm, e0]; rfl)
        have hpr := prod_bd h1 h2 h3
        have HSx := hide (show ssum r zs (ds.take (k + 1)) = ssum r zs (ds.take k) + ds[k].x1 * (ys[i] - ds[k].x1) from by rw [HSu.out]; unfold sprod; rw [e0, Int.toNat_natCast, show ys.getD i 0 = ys[i] from by simp [List.getD, hi]])
        rw [e0] at hm hc0
        have HC := hide (fun W (h : Ints W wr.heap.size Ak ys.length ys) (hB : wr.heap.size ≤ W.heap.size) => slMake_yes r Ak ys.length ck wr.heap.size ys i ds[k].x1 W h hB hy2 HR.out HY.out hm)
        have HAt := hide (smade_at (p := ds[k].x1) hi)
        have HL := hide (smade_length i ds[k].x1 ys)
        clear hm HN HSu e0 HP hyl
        generalize hq : ds[k].x1 = p at *
        clear hq
        have HPr := hide (show IntKind.i64.wrap (p * (ys[i] - p)) = p * (ys[i] - p) from wrap_ok (by omega) (by omega))
        go_wp2_with fail
        have X0 : Bx (wr.alloc (.cells #[.int .i64 (i : Int), .int .i64 p] 33)) wr.heap.size 33 (.int .i64 (i : Int)) (.int .i64 p) := Bx.new _ _ _ _
        refine (HC.out _ (hyi _) (by simp)).mono ?_
        rintro e w4 ⟨g4, c4, rfl, hg4, hg4', hc4, hc4', hown4, hb4⟩
        have X4 := X0.next hb4
        have d0 := X4.c0
        have d1 := X4.c1
        have e1 : w4.cell? ⟨g4, i, none⟩ = some (.int .i64 (ys[i] - p)) := by
          have FO3 := hown4
          unfold Own at FO3
          rw [World.ownsRow.cellAt FO3 i (by rw [HL.out]; omega), List.getElem?_map, List.getElem?_eq_getElem (by rw [HL.out]; omega), Option.map_some, HAt.out]
        have hbn := below_next (hb.alloc hsz (.cells #[.int .i64 (i : Int), .int .i64 p] 33)) hb4
        have HO4 := hide (hown4.less (base' := w.heap.size) (by simp <;> omega))
        have hc4 : ys.length + 1 ≤ c4 := by rw [← HL.out]; exact hc4
        rw [HL.out]
        have hki : (i : Int) < ((ys.length + 1 : Nat) : Int) := by omega
        clear X0 X4 hown4 hb4 hg4 hg4' hyi HO HY
        generalize ys[i] = h at *
        have hq := HPr.out
        go_wp2_with fail
        go_quiet (fail)
        go_wp2_with fail
        go_roundw
        case rel => exact ⟨k + 1, smade i p ys, some ⟨g4, 0, none⟩, c4, by omega, by go_num, by rw [HL.out], by rw [HSx.out], HNx, by rw [HL.out] at HO4 ⊢; exact hide (HO4.out.drewN _), by rw [HL.out]; exact hc4, hc4', below_drewN hbn _⟩
        case measure => simp [intOf]; omega
    · have hfull : splay r zs ds = some ys := by
        have := HP.out
        rwa [List.take_of_length_le (by omega)] at this
      have HE := hide (show plL r zs ds = ys ∧ plS r zs ds = ssum r zs (ds.take k) ∧ plOk r zs ds = true from by
        rw [List.take_of_length_le (show ds.length ≤ k by omega)]
        unfold plS plL plOk; rw [hfull]; exact ⟨rfl, rfl, rfl⟩)
      clear hfull hyl
      go_wp2_with fail
      go_ret3
      rw [HE.out.1, HE.out.2.1, HE.out.2.2]
      exact ⟨Ak, ck, rfl, hc1, hc2, HO.out, hb⟩
end Go.Proofs.Ytpeblkbbnkinaaa
