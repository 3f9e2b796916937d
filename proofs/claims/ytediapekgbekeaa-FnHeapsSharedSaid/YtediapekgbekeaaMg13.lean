import Derived.Test.YtediapekgbekeaaMg12
import Derived.Test.YtediapekgbekeaaMg03
import Derived.Deep.RegionHeld3

/-
  PLANS: heaps on the way to being equal, with the next move.
-/
namespace Go.Proofs.Ytediapekgbekeaa
open Go.RowKit Go.Deep
set_option linter.unusedVariables false

theorem tooMany_any (f t k s : Int) (A : Option Addr) (n c B i : Nat) (ys : List Int) (w : World) (hr : Ints w B A n ys) (hB : B ≤ w.heap.size) (hi : i < n) (hi' : i < ys.length)
    (h0 : 0 ≤ ys[i]) (h1 : ys[i] ≤ 100000) (h2 : 0 ≤ s) (h3 : s ≤ 100000) :
    Calls Try.prog 40 #[.agg #[.int .i64 f, .int .i64 t, .int .i64 k, .slice A n c, .int .i64 s], .int .i64 i] w fun e w' => e = .returned (.int .i64 (max (ys[i] - s) 0)) ∧ Below w.heap.size w w' := by
  obtain ⟨ad, rfl, hab, hcell⟩ := hr.at_ hi
  rw [show ys.getD i 0 = ys[i] from by simp [List.getD, hi']] at hcell
  generalize ys[i] = y at *
  have ho : ∀ o, (w.alloc o).cell? (ad.add i) = some (.int .i64 y) := fun o => by
    rw [World.cell?_alloc_lt w o (ad.add i) (by rw [block_of_add]; omega)]; exact hcell
  by_cases hd : y - s < 0
  · rw [Int.max_eq_right (by omega)]
    go_enter Try.func40, Try.ntmps40
    go_wp2_with fail
    go_quiet (fail)
    go_wp2_with fail
    go_ret
    exact ⟨rfl, below_drewN ((Below.refl _ _).alloc (Nat.le_refl _) _) _⟩
  · rw [Int.max_eq_left (by omega)]
    go_enter Try.func40, Try.ntmps40
    go_wp2_with fail
    go_quiet (fail)
    go_wp2_with fail
    go_ret
    exact ⟨rfl, below_drewN ((Below.refl _ _).alloc (Nat.le_refl _) _) _⟩

theorem tooFew_any (f t k s : Int) (A : Option Addr) (n c B i : Nat) (ys : List Int) (w : World) (hr : Ints w B A n ys) (hB : B ≤ w.heap.size) (hi : i < n) (hi' : i < ys.length)
    (h0 : 0 ≤ ys[i]) (h1 : ys[i] ≤ 100000) (h2 : 0 ≤ s) (h3 : s ≤ 100000) :
    Calls Try.prog 72 #[.agg #[.int .i64 f, .int .i64 t, .int .i64 k, .slice A n c, .int .i64 s], .int .i64 i] w fun e w' => e = .returned (.int .i64 (max (s - ys[i]) 0)) ∧ Below w.heap.size w w' := by
  obtain ⟨ad, rfl, hab, hcell⟩ := hr.at_ hi
  rw [show ys.getD i 0 = ys[i] from by simp [List.getD, hi']] at hcell
  generalize ys[i] = y at *
  have ho : ∀ o, (w.alloc o).cell? (ad.add i) = some (.int .i64 y) := fun o => by
    rw [World.cell?_alloc_lt w o (ad.add i) (by rw [block_of_add]; omega)]; exact hcell
  by_cases hd : s - y < 0
  · rw [Int.max_eq_right (by omega)]
    go_enter Try.func72, Try.ntmps72
    go_wp2_with fail
    go_quiet (fail)
    go_wp2_with fail
    go_ret
    exact ⟨rfl, below_drewN ((Below.refl _ _).alloc (Nat.le_refl _) _) _⟩
  · rw [Int.max_eq_left (by omega)]
    go_enter Try.func72, Try.ntmps72
    go_wp2_with fail
    go_quiet (fail)
    go_wp2_with fail
    go_ret
    exact ⟨rfl, below_drewN ((Below.refl _ _).alloc (Nat.le_refl _) _) _⟩


/-- Which is the first number above 0, and whether there is one. -/
def fwB (L : List Int) : Bool := L.any fun x => decide (0 < x)
def fwI (L : List Int) : Nat := if fwB L then L.findIdx (fun x => decide (0 < x)) else 0
theorem fw_yes {L : List Int} {k : Nat} (hk : k < L.length) (h : ∀ j (hj : j < L.length), j < k → L[j] ≤ 0) (h1 : 0 < L[k]) : fwB L = true ∧ fwI L = k := by
  have hb : fwB L = true := by
    unfold fwB
    rw [List.any_eq_true]
    exact ⟨L[k], List.getElem_mem hk, by simpa using h1⟩
  refine ⟨hb, ?_⟩
  unfold fwI
  rw [hb, if_pos rfl]
  rw [List.findIdx_eq hk]
  refine ⟨by simpa using h1, fun j hj => ?_⟩
  have := h j (by omega) hj
  simp; omega
theorem fw_no {L : List Int} (h : ∀ j (hj : j < L.length), L[j] ≤ 0) : fwB L = false ∧ fwI L = 0 := by
  have hb : fwB L = false := by
    unfold fwB
    rw [List.any_eq_false]
    intro x hx
    obtain ⟨j, hj, rfl⟩ := List.mem_iff_getElem.1 hx
    have := h j hj
    simp; omega
  exact ⟨hb, by unfold fwI; rw [hb]; rfl⟩
def manyL (s : Int) (ys : List Int) : List Int := ys.map fun y => max (y - s) 0
def fewL (s : Int) (ys : List Int) : List Int := ys.map fun y => max (s - y) 0
theorem manyL_length (s : Int) (ys : List Int) : (manyL s ys).length = ys.length := by simp [manyL]
theorem fewL_length (s : Int) (ys : List Int) : (fewL s ys).length = ys.length := by simp [fewL]
theorem manyL_get (s : Int) (ys : List Int) (i : Nat) (h : i < ys.length) : (manyL s ys)[i]'(by rw [manyL_length]; exact h) = max (ys[i] - s) 0 := by simp [manyL]
theorem fewL_get (s : Int) (ys : List Int) (i : Nat) (h : i < ys.length) : (fewL s ys)[i]'(by rw [fewL_length]; exact h) = max (s - ys[i]) 0 := by simp [fewL]

theorem firstWith_many (f t k s : Int) (A : Option Addr) (n c B : Nat) (ys : List Int) (w : World) (hr : Ints w B A n ys) (hB : B ≤ w.heap.size) (hn : n ≤ 1000000)
    (hv : ∀ i (h : i < ys.length), 0 ≤ ys[i] ∧ ys[i] ≤ 100000) (h2 : 0 ≤ s) (h3 : s ≤ 100000) :
    Calls Try.prog 71 #[.agg #[.int .i64 f, .int .i64 t, .int .i64 k, .slice A n c, .int .i64 s], .func (.func 40) #[] #[]] w
      fun e w' => e = .returned (.tuple #[.int .i64 (fwI (manyL s ys) : Nat), .bool (fwB (manyL s ys))]) ∧ Below w.heap.size w w' := by
  obtain rfl := hr.len
  have hfy := hide (fun q hq h h1 => fw_yes (L := manyL s ys) (k := q) hq h h1)
  have hfn := hide (fun h => fw_no (L := manyL s ys) h)
  have HV := hide hv
  clear hv
  have HL := hide (manyL_length s ys)
  have HG := hide (fun i (h : i < ys.length) (h' : i < (manyL s ys).length) => show (manyL s ys)[i] = _ from manyL_get s ys i h)
  have HT := hide (fun (W : World) (i : Nat) (h : i < ys.length) (hrW : Ints W B A ys.length ys) (hBW : B ≤ W.heap.size) =>
    tooMany_any f t k s A ys.length c B i ys W hrW hBW h h (HV.out i h).1 (HV.out i h).2 h2 h3)
  generalize manyL s ys = L at *
  go_enter Try.func71, Try.ntmps71
  go_wp2_with fail
  have hA : Below w.heap.size w (w.alloc (.cells #[.int .i64 f, .int .i64 t, .int .i64 k, .slice A ys.length c, .int .i64 s] 46)) := (Below.refl _ _).alloc (Nat.le_refl _) _
  have hr0 := hr.alloc hB (.cells #[.int .i64 f, .int .i64 t, .int .i64 k, .slice A ys.length c, .int .i64 s] 46)
  have k0 : ((w.alloc (.cells #[.int .i64 f, .int .i64 t, .int .i64 k, .slice A ys.length c, .int .i64 s] 46)).cell? ⟨w.heap.size, 0, none⟩ = some ((.int .i64 f)) ∧ (w.alloc (.cells #[.int .i64 f, .int .i64 t, .int .i64 k, .slice A ys.length c, .int .i64 s] 46)).cell? ⟨w.heap.size, 1, none⟩ = some ((.int .i64 t)) ∧ (w.alloc (.cells #[.int .i64 f, .int .i64 t, .int .i64 k, .slice A ys.length c, .int .i64 s] 46)).cell? ⟨w.heap.size, 2, none⟩ = some ((.int .i64 k)) ∧ (w.alloc (.cells #[.int .i64 f, .int .i64 t, .int .i64 k, .slice A ys.length c, .int .i64 s] 46)).cell? ⟨w.heap.size, 3, none⟩ = some ((.slice A ys.length c)) ∧ (w.alloc (.cells #[.int .i64 f, .int .i64 t, .int .i64 k, .slice A ys.length c, .int .i64 s] 46)).cell? ⟨w.heap.size, 4, none⟩ = some ((.int .i64 s))) := by refine ⟨?_, ?_, ?_, ?_, ?_⟩ <;> simp
  have hz0 : w.heap.size < (w.alloc (.cells #[.int .i64 f, .int .i64 t, .int .i64 k, .slice A ys.length c, .int .i64 s] 46)).heap.size := by simp
  generalize (w.alloc (.cells #[.int .i64 f, .int .i64 t, .int .i64 k, .slice A ys.length c, .int .i64 s] 46)) = W0 at *
  have hz1 : B ≤ W0.heap.size := by omega
  obtain ⟨b0, hb0⟩ : ∃ b0, b0 = w.heap.size := ⟨_, rfl⟩
  rw [← hb0] at k0 hz0 ⊢
  have s0 := hA.size
  clear hb0
  have HK : Hid (∀ W', Below W0.heap.size W0 W' → (W'.cell? ⟨b0, 0, none⟩ = some ((.int .i64 f)) ∧ W'.cell? ⟨b0, 1, none⟩ = some ((.int .i64 t)) ∧ W'.cell? ⟨b0, 2, none⟩ = some ((.int .i64 k)) ∧ W'.cell? ⟨b0, 3, none⟩ = some ((.slice A ys.length c)) ∧ W'.cell? ⟨b0, 4, none⟩ = some ((.int .i64 s)))) :=
    hide fun W' h => ⟨(h.cell (p := ⟨b0, 0, none⟩) hz0).trans k0.1, (h.cell (p := ⟨b0, 1, none⟩) hz0).trans k0.2.1, (h.cell (p := ⟨b0, 2, none⟩) hz0).trans k0.2.2.1, (h.cell (p := ⟨b0, 3, none⟩) hz0).trans k0.2.2.2.1, (h.cell (p := ⟨b0, 4, none⟩) hz0).trans k0.2.2.2.2⟩
  clear k0
  go_loopw [10] (fun i wr => ∃ q : Nat, q ≤ ys.length ∧ i = .int .i64 q ∧ Hid (∀ j (hj : j < L.length), j < q → L[j] ≤ 0) ∧ Below W0.heap.size W0 wr)
    (fun i _ => ys.length - (intOf i).toNat)
  case atStart => exact ⟨0, Nat.zero_le _, rfl, hide (fun _ _ h => by omega), Below.refl _ _⟩
  case round =>
    obtain ⟨q, hq, rfl, hall, hb⟩ := hrel
    have hsz := hb.size
    by_cases hlt : q < ys.length
    · obtain ⟨o0, o1, o2, o3, o4⟩ := HK.out _ hb
      have HC := hide (HT.out wr q hlt (hr0.below hb hz1) (by omega))
      have hg := HG.out q hlt (by rw [HL.out]; exact hlt)
      generalize hd : max (ys[q] - s) 0 = d at HC hg
      clear hd
      by_cases hp : 0 < d
      · obtain ⟨y1, y2⟩ := hfy.out q (by rw [HL.out]; exact hlt) (fun j hj h => hall.out j hj h) (by rw [hg]; exact hp)
        have Y1 := hide y1
        have Y2 := hide y2
        clear y1 y2 hg hfy hfn
        go_wp2_with fail
        refine HC.out.mono ?_
        rintro e w2 ⟨rfl, hb2⟩
        go_wp2_with fail
        go_ret2
        exact ⟨by rw [Y1.out, Y2.out]; rfl, hA.trans ((below_next hb hb2).mono s0)⟩
      · have hall' : Hid (∀ j (hj : j < L.length), j < q + 1 → L[j] ≤ 0) := hide fun j hj h => by
          by_cases hjq : j < q
          · exact hall.out j hj hjq
          · obtain rfl : j = q := by omega
            rw [hg]; omega
        clear hg
        go_wp2_with fail
        refine HC.out.mono ?_
        rintro e w2 ⟨rfl, hb2⟩
        go_wp2_with fail
        go_roundw
        case rel => exact ⟨q + 1, by omega, by go_num, hall', below_next hb hb2⟩
        case measure => simp [intOf]; omega
    · obtain ⟨y1, y2⟩ := hfn.out (fun j hj => hall.out j hj (by rw [HL.out] at hj; omega))
      have Y1 := hide y1
      have Y2 := hide y2
      clear y1 y2 hfy hfn
      go_wp2_with fail
      go_ret2
      exact ⟨by rw [Y1.out, Y2.out]; rfl, hA.trans (hb.mono s0)⟩

theorem firstWith_few (f t k s : Int) (A : Option Addr) (n c B : Nat) (ys : List Int) (w : World) (hr : Ints w B A n ys) (hB : B ≤ w.heap.size) (hn : n ≤ 1000000)
    (hv : ∀ i (h : i < ys.length), 0 ≤ ys[i] ∧ ys[i] ≤ 100000) (h2 : 0 ≤ s) (h3 : s ≤ 100000) :
    Calls Try.prog 71 #[.agg #[.int .i64 f, .int .i64 t, .int .i64 k, .slice A n c, .int .i64 s], .func (.func 72) #[] #[]] w
      fun e w' => e = .returned (.tuple #[.int .i64 (fwI (fewL s ys) : Nat), .bool (fwB (fewL s ys))]) ∧ Below w.heap.size w w' := by
  obtain rfl := hr.len
  have hfy := hide (fun q hq h h1 => fw_yes (L := fewL s ys) (k := q) hq h h1)
  have hfn := hide (fun h => fw_no (L := fewL s ys) h)
  have HV := hide hv
  clear hv
  have HL := hide (fewL_length s ys)
  have HG := hide (fun i (h : i < ys.length) (h' : i < (fewL s ys).length) => show (fewL s ys)[i] = _ from fewL_get s ys i h)
  have HT := hide (fun (W : World) (i : Nat) (h : i < ys.length) (hrW : Ints W B A ys.length ys) (hBW : B ≤ W.heap.size) =>
    tooFew_any f t k s A ys.length c B i ys W hrW hBW h h (HV.out i h).1 (HV.out i h).2 h2 h3)
  generalize fewL s ys = L at *
  go_enter Try.func71, Try.ntmps71
  go_wp2_with fail
  have hA : Below w.heap.size w (w.alloc (.cells #[.int .i64 f, .int .i64 t, .int .i64 k, .slice A ys.length c, .int .i64 s] 46)) := (Below.refl _ _).alloc (Nat.le_refl _) _
  have hr0 := hr.alloc hB (.cells #[.int .i64 f, .int .i64 t, .int .i64 k, .slice A ys.length c, .int .i64 s] 46)
  have k0 : ((w.alloc (.cells #[.int .i64 f, .int .i64 t, .int .i64 k, .slice A ys.length c, .int .i64 s] 46)).cell? ⟨w.heap.size, 0, none⟩ = some ((.int .i64 f)) ∧ (w.alloc (.cells #[.int .i64 f, .int .i64 t, .int .i64 k, .slice A ys.length c, .int .i64 s] 46)).cell? ⟨w.heap.size, 1, none⟩ = some ((.int .i64 t)) ∧ (w.alloc (.cells #[.int .i64 f, .int .i64 t, .int .i64 k, .slice A ys.length c, .int .i64 s] 46)).cell? ⟨w.heap.size, 2, none⟩ = some ((.int .i64 k)) ∧ (w.alloc (.cells #[.int .i64 f, .int .i64 t, .int .i64 k, .slice A ys.length c, .int .i64 s] 46)).cell? ⟨w.heap.size, 3, none⟩ = some ((.slice A ys.length c)) ∧ (w.alloc (.cells #[.int .i64 f, .int .i64 t, .int .i64 k, .slice A ys.length c, .int .i64 s] 46)).cell? ⟨w.heap.size, 4, none⟩ = some ((.int .i64 s))) := by refine ⟨?_, ?_, ?_, ?_, ?_⟩ <;> simp
  have hz0 : w.heap.size < (w.alloc (.cells #[.int .i64 f, .int .i64 t, .int .i64 k, .slice A ys.length c, .int .i64 s] 46)).heap.size := by simp
  generalize (w.alloc (.cells #[.int .i64 f, .int .i64 t, .int .i64 k, .slice A ys.length c, .int .i64 s] 46)) = W0 at *
  have hz1 : B ≤ W0.heap.size := by omega
  obtain ⟨b0, hb0⟩ : ∃ b0, b0 = w.heap.size := ⟨_, rfl⟩
  rw [← hb0] at k0 hz0 ⊢
  have s0 := hA.size
  clear hb0
  have HK : Hid (∀ W', Below W0.heap.size W0 W' → (W'.cell? ⟨b0, 0, none⟩ = some ((.int .i64 f)) ∧ W'.cell? ⟨b0, 1, none⟩ = some ((.int .i64 t)) ∧ W'.cell? ⟨b0, 2, none⟩ = some ((.int .i64 k)) ∧ W'.cell? ⟨b0, 3, none⟩ = some ((.slice A ys.length c)) ∧ W'.cell? ⟨b0, 4, none⟩ = some ((.int .i64 s)))) :=
    hide fun W' h => ⟨(h.cell (p := ⟨b0, 0, none⟩) hz0).trans k0.1, (h.cell (p := ⟨b0, 1, none⟩) hz0).trans k0.2.1, (h.cell (p := ⟨b0, 2, none⟩) hz0).trans k0.2.2.1, (h.cell (p := ⟨b0, 3, none⟩) hz0).trans k0.2.2.2.1, (h.cell (p := ⟨b0, 4, none⟩) hz0).trans k0.2.2.2.2⟩
  clear k0
  go_loopw [10] (fun i wr => ∃ q : Nat, q ≤ ys.length ∧ i = .int .i64 q ∧ Hid (∀ j (hj : j < L.length), j < q → L[j] ≤ 0) ∧ Below W0.heap.size W0 wr)
    (fun i _ => ys.length - (intOf i).toNat)
  case atStart => exact ⟨0, Nat.zero_le _, rfl, hide (fun _ _ h => by omega), Below.refl _ _⟩
  case round =>
    obtain ⟨q, hq, rfl, hall, hb⟩ := hrel
    have hsz := hb.size
    by_cases hlt : q < ys.length
    · obtain ⟨o0, o1, o2, o3, o4⟩ := HK.out _ hb
      have HC := hide (HT.out wr q hlt (hr0.below hb hz1) (by omega))
      have hg := HG.out q hlt (by rw [HL.out]; exact hlt)
      generalize hd : max (s - ys[q]) 0 = d at HC hg
      clear hd
      by_cases hp : 0 < d
      · obtain ⟨y1, y2⟩ := hfy.out q (by rw [HL.out]; exact hlt) (fun j hj h => hall.out j hj h) (by rw [hg]; exact hp)
        have Y1 := hide y1
        have Y2 := hide y2
        clear y1 y2 hg hfy hfn
        go_wp2_with fail
        refine HC.out.mono ?_
        rintro e w2 ⟨rfl, hb2⟩
        go_wp2_with fail
        go_ret2
        exact ⟨by rw [Y1.out, Y2.out]; rfl, hA.trans ((below_next hb hb2).mono s0)⟩
      · have hall' : Hid (∀ j (hj : j < L.length), j < q + 1 → L[j] ≤ 0) := hide fun j hj h => by
          by_cases hjq : j < q
          · exact hall.out j hj hjq
          · obtain rfl : j = q := by omega
            rw [hg]; omega
        clear hg
        go_wp2_with fail
        refine HC.out.mono ?_
        rintro e w2 ⟨rfl, hb2⟩
        go_wp2_with fail
        go_roundw
        case rel => exact ⟨q + 1, by omega, by go_num, hall', below_next hb hb2⟩
        case measure => simp [intOf]; omega
    · obtain ⟨y1, y2⟩ := hfn.out (fun j hj => hall.out j hj (by rw [HL.out] at hj; omega))
      have Y1 := hide y1
      have Y2 := hide y2
      clear y1 y2 hfy hfn
      go_wp2_with fail
      go_ret2
      exact ⟨by rw [Y1.out, Y2.out]; rfl, hA.trans (hb.mono s0)⟩
end Go.Proofs.Ytediapekgbekeaa

/-
  THE NEXT MOVE OF A PLAN.
-/
namespace Go.Proofs.Ytediapekgbekeaa
open Go.RowKit Go.Deep
set_option linter.unusedVariables false

theorem fwI_lt (L : List Int) (h : 0 < L.length) : fwI L < L.length := by
  unfold fwI
  split
  · rename_i hb
    unfold fwB at hb
    rw [List.any_eq_true] at hb
    obtain ⟨x, hx, hp⟩ := hb
    exact List.findIdx_lt_length_of_exists ⟨x, hx, hp⟩
  · exact h
theorem fwB_pos {L : List Int} (h : fwB L = true) : 0 < L.length := by
  cases L with
  | nil => simp [fwB] at h
  | cons a l => simp
def nextF (s : Int) (ys : List Int) : Int := if fwB (manyL s ys) then (fwI (manyL s ys) : Nat) else 0
def nextT (s : Int) (ys : List Int) : Int := if fwB (manyL s ys) then (fwI (fewL s ys) : Nat) else 0
def nextC (s : Int) (ys : List Int) : Int := if fwB (manyL s ys) then min (max (ys.getD (fwI (manyL s ys)) 0 - s) 0) (max (s - ys.getD (fwI (fewL s ys)) 0) 0) else 0

set_option maxRecDepth 100000 in
theorem nextMove_any (f t k s : Int) (A : Option Addr) (n c B : Nat) (ys : List Int) (w : World) (hr : Ints w B A n ys) (hB : B ≤ w.heap.size) (hn : n ≤ 1000000)
    (hv : ∀ i (h : i < ys.length), 0 ≤ ys[i] ∧ ys[i] ≤ 100000) (h2 : 0 ≤ s) (h3 : s ≤ 100000) :
    Calls Try.prog 60 #[.agg #[.int .i64 f, .int .i64 t, .int .i64 k, .slice A n c, .int .i64 s]] w
      fun e w' => e = .returned (.agg #[.int .i64 (nextF s ys), .int .i64 (nextT s ys), .int .i64 (nextC s ys)]) ∧ Below w.heap.size w w' := by
  obtain rfl := hr.len
  have HM := hide (fun (W : World) (hrW : Ints W B A ys.length ys) (hBW : B ≤ W.heap.size) => firstWith_many f t k s A ys.length c B ys W hrW hBW hn hv h2 h3)
  have HW := hide (fun (W : World) (hrW : Ints W B A ys.length ys) (hBW : B ≤ W.heap.size) => firstWith_few f t k s A ys.length c B ys W hrW hBW hn hv h2 h3)
  have HV := hide hv
  clear hv
  go_enter Try.func60, Try.ntmps60
  go_wp2_with fail
  have hA : Below w.heap.size w ((w.alloc (.cells #[.int .i64 f, .int .i64 t, .int .i64 k, .slice A ys.length c, .int .i64 s] 46)).alloc (.cells #[.int .i64 0, .int .i64 0, .int .i64 0] 43)) := ((Below.refl _ _).alloc (Nat.le_refl _) _).alloc (by simp) _
  have hr0 := (hr.alloc hB (.cells #[.int .i64 f, .int .i64 t, .int .i64 k, .slice A ys.length c, .int .i64 s] 46)).alloc (by simp; omega) (.cells #[.int .i64 0, .int .i64 0, .int .i64 0] 43)
  have k0 : (((w.alloc (.cells #[.int .i64 f, .int .i64 t, .int .i64 k, .slice A ys.length c, .int .i64 s] 46)).alloc (.cells #[.int .i64 0, .int .i64 0, .int .i64 0] 43)).cell? ⟨w.heap.size, 0, none⟩ = some (.int .i64 f) ∧ ((w.alloc (.cells #[.int .i64 f, .int .i64 t, .int .i64 k, .slice A ys.length c, .int .i64 s] 46)).alloc (.cells #[.int .i64 0, .int .i64 0, .int .i64 0] 43)).cell? ⟨w.heap.size, 1, none⟩ = some (.int .i64 t) ∧ ((w.alloc (.cells #[.int .i64 f, .int .i64 t, .int .i64 k, .slice A ys.length c, .int .i64 s] 46)).alloc (.cells #[.int .i64 0, .int .i64 0, .int .i64 0] 43)).cell? ⟨w.heap.size, 2, none⟩ = some (.int .i64 k) ∧ ((w.alloc (.cells #[.int .i64 f, .int .i64 t, .int .i64 k, .slice A ys.length c, .int .i64 s] 46)).alloc (.cells #[.int .i64 0, .int .i64 0, .int .i64 0] 43)).cell? ⟨w.heap.size, 3, none⟩ = some (.slice A ys.length c) ∧ ((w.alloc (.cells #[.int .i64 f, .int .i64 t, .int .i64 k, .slice A ys.length c, .int .i64 s] 46)).alloc (.cells #[.int .i64 0, .int .i64 0, .int .i64 0] 43)).cell? ⟨w.heap.size, 4, none⟩ = some (.int .i64 s) ∧ ((w.alloc (.cells #[.int .i64 f, .int .i64 t, .int .i64 k, .slice A ys.length c, .int .i64 s] 46)).alloc (.cells #[.int .i64 0, .int .i64 0, .int .i64 0] 43)).cell? ⟨w.heap.size + 1, 0, none⟩ = some (.int .i64 0) ∧ ((w.alloc (.cells #[.int .i64 f, .int .i64 t, .int .i64 k, .slice A ys.length c, .int .i64 s] 46)).alloc (.cells #[.int .i64 0, .int .i64 0, .int .i64 0] 43)).cell? ⟨w.heap.size + 1, 1, none⟩ = some (.int .i64 0) ∧ ((w.alloc (.cells #[.int .i64 f, .int .i64 t, .int .i64 k, .slice A ys.length c, .int .i64 s] 46)).alloc (.cells #[.int .i64 0, .int .i64 0, .int .i64 0] 43)).cell? ⟨w.heap.size + 1, 2, none⟩ = some (.int .i64 0) ∧ ((w.alloc (.cells #[.int .i64 f, .int .i64 t, .int .i64 k, .slice A ys.length c, .int .i64 s] 46)).alloc (.cells #[.int .i64 0, .int .i64 0, .int .i64 0] 43)).frozen? ⟨w.heap.size + 1, 0, none⟩ = false ∧ ((w.alloc (.cells #[.int .i64 f, .int .i64 t, .int .i64 k, .slice A ys.length c, .int .i64 s] 46)).alloc (.cells #[.int .i64 0, .int .i64 0, .int .i64 0] 43)).frozen? ⟨w.heap.size + 1, 1, none⟩ = false ∧ ((w.alloc (.cells #[.int .i64 f, .int .i64 t, .int .i64 k, .slice A ys.length c, .int .i64 s] 46)).alloc (.cells #[.int .i64 0, .int .i64 0, .int .i64 0] 43)).frozen? ⟨w.heap.size + 1, 2, none⟩ = false) := by refine ⟨?_, ?_, ?_, ?_, ?_, ?_, ?_, ?_, ?_, ?_, ?_⟩ <;> simp [go_sem]
  have hz0 : w.heap.size < ((w.alloc (.cells #[.int .i64 f, .int .i64 t, .int .i64 k, .slice A ys.length c, .int .i64 s] 46)).alloc (.cells #[.int .i64 0, .int .i64 0, .int .i64 0] 43)).heap.size := by simp; omega
  have hz1 : w.heap.size + 1 < ((w.alloc (.cells #[.int .i64 f, .int .i64 t, .int .i64 k, .slice A ys.length c, .int .i64 s] 46)).alloc (.cells #[.int .i64 0, .int .i64 0, .int .i64 0] 43)).heap.size := by simp
  have s0 := hA.size
  generalize ((w.alloc (.cells #[.int .i64 f, .int .i64 t, .int .i64 k, .slice A ys.length c, .int .i64 s] 46)).alloc (.cells #[.int .i64 0, .int .i64 0, .int .i64 0] 43)) = W0 at *
  obtain ⟨b0, hb0⟩ : ∃ b0, b0 = w.heap.size := ⟨_, rfl⟩
  obtain ⟨b1, hb1⟩ : ∃ b1, b1 = w.heap.size + 1 := ⟨_, rfl⟩
  have hB0 : B ≤ W0.heap.size := by omega
  have hwb : w.heap.size ≤ b1 := by omega
  have hBb : B ≤ b1 := by omega
  have hb01 : b0 < b1 := by omega
  rw [← hb1] at k0 hz1 ⊢
  rw [← hb0] at k0 hz0 ⊢
  clear hb0 hb1
  have HK : Hid (∀ W', Below W0.heap.size W0 W' → (W'.cell? ⟨b0, 0, none⟩ = some (.int .i64 f) ∧ W'.cell? ⟨b0, 1, none⟩ = some (.int .i64 t) ∧ W'.cell? ⟨b0, 2, none⟩ = some (.int .i64 k) ∧ W'.cell? ⟨b0, 3, none⟩ = some (.slice A ys.length c) ∧ W'.cell? ⟨b0, 4, none⟩ = some (.int .i64 s) ∧ W'.cell? ⟨b1, 0, none⟩ = some (.int .i64 0) ∧ W'.cell? ⟨b1, 1, none⟩ = some (.int .i64 0) ∧ W'.cell? ⟨b1, 2, none⟩ = some (.int .i64 0) ∧ W'.frozen? ⟨b1, 0, none⟩ = false ∧ W'.frozen? ⟨b1, 1, none⟩ = false ∧ W'.frozen? ⟨b1, 2, none⟩ = false)) :=
    hide fun W' h => ⟨(h.cell (p := ⟨b0, 0, none⟩) hz0).trans k0.1, (h.cell (p := ⟨b0, 1, none⟩) hz0).trans k0.2.1, (h.cell (p := ⟨b0, 2, none⟩) hz0).trans k0.2.2.1, (h.cell (p := ⟨b0, 3, none⟩) hz0).trans k0.2.2.2.1, (h.cell (p := ⟨b0, 4, none⟩) hz0).trans k0.2.2.2.2.1, (h.cell (p := ⟨b1, 0, none⟩) hz1).trans k0.2.2.2.2.2.1, (h.cell (p := ⟨b1, 1, none⟩) hz1).trans k0.2.2.2.2.2.2.1, (h.cell (p := ⟨b1, 2, none⟩) hz1).trans k0.2.2.2.2.2.2.2.1, (h.frozen (p := ⟨b1, 0, none⟩) hz1).trans k0.2.2.2.2.2.2.2.2.1, (h.frozen (p := ⟨b1, 1, none⟩) hz1).trans k0.2.2.2.2.2.2.2.2.2.1, (h.frozen (p := ⟨b1, 2, none⟩) hz1).trans k0.2.2.2.2.2.2.2.2.2.2⟩
  clear k0
  refine (HM.out _ hr0 hB0).mono ?_
  rintro e w1 ⟨rfl, hbl1⟩
  have s1 := hbl1.size
  obtain ⟨o0, o1, o2, o3, o4, o5, o6, o7, o8, o9, o10⟩ := HK.out _ hbl1
  cases hb : fwB (manyL s ys)
  · have HR := hide (show nextF s ys = 0 ∧ nextT s ys = 0 ∧ nextC s ys = 0 from by unfold nextF nextT nextC; simp [hb])
    clear hb
    go_wp2_with fail
    exact bodyPost_ret (v := .agg #[.int .i64 0, .int .i64 0, .int .i64 0]) (by simp [results, Try.results60, go_sem, o5, o6, o7]) rfl
      ⟨by rw [HR.out.1, HR.out.2.1, HR.out.2.2], ((hA.trans (hbl1.mono s0)).setCell hwb _).setCell hwb _ |>.setCell hwb _⟩
  · have hpos : 0 < ys.length := by have := fwB_pos hb; rwa [manyL_length] at this
    have HF := hide (show nextF s ys = (fwI (manyL s ys) : Nat) ∧ nextT s ys = (fwI (fewL s ys) : Nat) ∧ nextC s ys = min (max (ys.getD (fwI (manyL s ys)) 0 - s) 0) (max (s - ys.getD (fwI (fewL s ys)) 0) 0) from by unfold nextF nextT nextC; simp [hb])
    have hi : fwI (manyL s ys) < ys.length := by have := fwI_lt (manyL s ys) (by rw [manyL_length]; exact hpos); rwa [manyL_length] at this
    have hj : fwI (fewL s ys) < ys.length := by have := fwI_lt (fewL s ys) (by rw [fewL_length]; exact hpos); rwa [fewL_length] at this
    clear hb
    generalize fwI (manyL s ys) = i at *
    have HTM := hide (fun (W : World) (hrW : Ints W B A ys.length ys) (hBW : B ≤ W.heap.size) => tooMany_any f t k s A ys.length c B i ys W hrW hBW hi hi (HV.out i hi).1 (HV.out i hi).2 h2 h3)
    go_wp2_with fail
    refine (HW.out _ (hr0.below hbl1 hB0) (by omega)).mono ?_
    generalize fwI (fewL s ys) = j at *
    generalize fwB (fewL s ys) = bb at *
    have HTF := hide (fun (W : World) (hrW : Ints W B A ys.length ys) (hBW : B ≤ W.heap.size) => tooFew_any f t k s A ys.length c B j ys W hrW hBW hj hj (HV.out j hj).1 (HV.out j hj).2 h2 h3)
    have HX := hide (show ys.getD i 0 = ys[i] from by simp [List.getD, hi])
    have HY := hide (show ys.getD j 0 = ys[j] from by simp [List.getD, hj])
    rintro e w2 ⟨rfl, hbl2⟩
    have hbl2' := below_next hbl1 hbl2
    have s2 := hbl2'.size
    clear o0 o1 o2 o3 o4 o5 o6 o7 o8 o9 o10
    go_wp2_with fail
    have hB2 : B ≤ w2.heap.size := by omega
    obtain ⟨o0, o1, o2, o3, o4, o5, o6, o7, o8, o9, o10⟩ := HK.out _ hbl2'
    have hr2 := hr0.below hbl2' hB0
    have HS : Hid (∀ W', Below b1 w2 W' → (Below b1 w2 W' ∧ W'.cell? ⟨b0, 0, none⟩ = some (.int .i64 f) ∧ W'.cell? ⟨b0, 1, none⟩ = some (.int .i64 t) ∧ W'.cell? ⟨b0, 2, none⟩ = some (.int .i64 k) ∧ W'.cell? ⟨b0, 3, none⟩ = some (.slice A ys.length c) ∧ W'.cell? ⟨b0, 4, none⟩ = some (.int .i64 s))) := hide (fun W' h => ⟨h, (h.cell (p := ⟨b0, 0, none⟩) hb01).trans o0, (h.cell (p := ⟨b0, 1, none⟩) hb01).trans o1, (h.cell (p := ⟨b0, 2, none⟩) hb01).trans o2, (h.cell (p := ⟨b0, 3, none⟩) hb01).trans o3, (h.cell (p := ⟨b0, 4, none⟩) hb01).trans o4⟩)
    have HT1 := hide (fun (W : World) (h : Below b1 w2 W) => HTM.out W (hr2.below h hBb) (Nat.le_trans hB2 h.size))
    have HT2 := hide (fun (W : World) (h : Below b1 w2 W) => HTF.out W (hr2.below h hBb) (Nat.le_trans hB2 h.size))
    clear o0 o1 o2 o3 o4 o5 o6 o7 o8 o9 o10
    rw [HX.out, HY.out] at HF
    clear HX HY HTM HTF HM HW
    generalize max (ys[i] - s) 0 = a at *
    generalize max (s - ys[j]) 0 = b at *
    by_cases hab : b < a
    · have HN := hide (Int.min_eq_right (Int.le_of_lt hab))
      first | go_region_held3 (fun W => Below b1 w2 W ∧ W.cell? ⟨b0, 0, none⟩ = some (.int .i64 f) ∧ W.cell? ⟨b0, 1, none⟩ = some (.int .i64 t) ∧ W.cell? ⟨b0, 2, none⟩ = some (.int .i64 k) ∧ W.cell? ⟨b0, 3, none⟩ = some (.slice A ys.length c) ∧ W.cell? ⟨b0, 4, none⟩ = some (.int .i64 s))
        (first | exact HS.out _ (Below.refl _ _).drew | exact HS.out _ (Below.trans (And.left (by assumption)) (hb4.mono (by have := hb3.size; simp at this; omega))) | exact HS.out _ (Below.trans (And.left (by assumption)) (hb3.mono (by simp; omega))) | exact HS.out _ (((hS4.setCell (Nat.le_refl _) _).setCell (Nat.le_refl _) _).setCell (Nat.le_refl _) _) | go_keep)
        (first
          | (go_at_call 40; (with_reducible refine (HT1.out _ (And.left (by assumption))).mono ?_); rintro e w3 ⟨rfl, hb3⟩)
          | (go_at_call 72; (with_reducible refine (HT2.out _ (And.left (by assumption))).mono ?_); rintro e w4 ⟨rfl, hb4⟩; obtain ⟨o0, o1, o2, o3, o4, o5, o6, o7, o8, o9, o10⟩ := HK.out _ (below_next (below_next hbl2'.drew hb3) hb4); have hS4 : Below b1 w2 w4 := Below.trans (And.left (by assumption)) (hb4.mono (by have := hb3.size; simp at this; omega))))
      go_wp2_with fail
      exact bodyPost_ret (v := .agg #[.int .i64 i, .int .i64 j, .int .i64 b]) (by simp [results, Try.results60, go_sem, o5, o6, o7]) rfl
        ⟨by rw [HF.out.1, HF.out.2.1, HF.out.2.2, HN.out], (hA.trans (hbl2'.mono s0)).trans ((((hS4.setCell (Nat.le_refl _) _).setCell (Nat.le_refl _) _).setCell (Nat.le_refl _) _).mono hwb)⟩
    · have HN := hide (Int.min_eq_left (Int.not_lt.1 hab))
      first | go_region_held3 (fun W => Below b1 w2 W ∧ W.cell? ⟨b0, 0, none⟩ = some (.int .i64 f) ∧ W.cell? ⟨b0, 1, none⟩ = some (.int .i64 t) ∧ W.cell? ⟨b0, 2, none⟩ = some (.int .i64 k) ∧ W.cell? ⟨b0, 3, none⟩ = some (.slice A ys.length c) ∧ W.cell? ⟨b0, 4, none⟩ = some (.int .i64 s))
        (first | exact HS.out _ (Below.refl _ _).drew | exact HS.out _ (Below.trans (And.left (by assumption)) (hb4.mono (by have := hb3.size; simp at this; omega))) | exact HS.out _ (Below.trans (And.left (by assumption)) (hb3.mono (by simp; omega))) | exact HS.out _ (((hS4.setCell (Nat.le_refl _) _).setCell (Nat.le_refl _) _).setCell (Nat.le_refl _) _) | go_keep)
        (first
          | (go_at_call 40; (with_reducible refine (HT1.out _ (And.left (by assumption))).mono ?_); rintro e w3 ⟨rfl, hb3⟩)
          | (go_at_call 72; (with_reducible refine (HT2.out _ (And.left (by assumption))).mono ?_); rintro e w4 ⟨rfl, hb4⟩; obtain ⟨o0, o1, o2, o3, o4, o5, o6, o7, o8, o9, o10⟩ := HK.out _ (below_next (below_next hbl2'.drew hb3) hb4); have hS4 : Below b1 w2 w4 := Below.trans (And.left (by assumption)) (hb4.mono (by have := hb3.size; simp at this; omega))))
      go_wp2_with fail
      exact bodyPost_ret (v := .agg #[.int .i64 i, .int .i64 j, .int .i64 a]) (by simp [results, Try.results60, go_sem, o5, o6, o7, Int.not_lt.2 hab]) rfl
        ⟨by rw [HF.out.1, HF.out.2.1, HF.out.2.2, HN.out], (hA.trans (hbl2'.mono s0)).trans ((((hS4.setCell (Nat.le_refl _) _).setCell (Nat.le_refl _) _).setCell (Nat.le_refl _) _).mono hwb)⟩
end Go.Proofs.Ytediapekgbekeaa
