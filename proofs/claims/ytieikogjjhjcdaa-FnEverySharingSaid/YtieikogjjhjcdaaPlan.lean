
/-
  PLANS: heaps on the way to being equal, with the next move.
-/
import Derived.Test.YtieikogjjhjcdaaFlows
import Derived.Test.YtieikogjjhjcdaaCopy
import Derived.Test.YtieikogjjhjcdaaLaws0
namespace Go.Proofs.Ytieikogjjhjcdaa
open Go.RowKit Go.Deep
set_option linter.unusedVariables false

theorem tooMany_any (f t k s : Int) (A : Option Addr) (n c B i : Nat) (ys : List Int) (w : World) (hr : Ints w B A n ys) (hB : B ≤ w.heap.size) (hi : i < n) (hi' : i < ys.length)
    (h0 : 0 ≤ ys[i]) (h1 : ys[i] ≤ 100000) (h2 : 0 ≤ s) (h3 : s ≤ 100000) :
    Calls Try.prog 22 #[.agg #[.int .i64 f, .int .i64 t, .int .i64 k, .slice A n c, .int .i64 s], .int .i64 i] w fun e w' => e = .returned (.int .i64 (max (ys[i] - s) 0)) ∧ Below w.heap.size w w' := by
  obtain ⟨ad, rfl, hab, hcell⟩ := hr.at_ hi
  rw [show ys.getD i 0 = ys[i] from by simp [List.getD, hi']] at hcell
  generalize ys[i] = y at *
  have ho : ∀ o, (w.alloc o).cell? (ad.add i) = some (.int .i64 y) := fun o => by
    rw [World.cell?_alloc_lt w o (ad.add i) (by rw [block_of_add]; omega)]; exact hcell
  by_cases hd : y - s < 0
  · rw [Int.max_eq_right (by omega)]
    go_enter Try.func22, Try.ntmps22
    go_wp2_with fail
    go_quiet (fail)
    go_wp2_with fail
    go_ret
    exact ⟨rfl, below_drewN ((Below.refl _ _).alloc (Nat.le_refl _) _) _⟩
  · rw [Int.max_eq_left (by omega)]
    go_enter Try.func22, Try.ntmps22
    go_wp2_with fail
    go_quiet (fail)
    go_wp2_with fail
    go_ret
    exact ⟨rfl, below_drewN ((Below.refl _ _).alloc (Nat.le_refl _) _) _⟩

theorem tooFew_any (f t k s : Int) (A : Option Addr) (n c B i : Nat) (ys : List Int) (w : World) (hr : Ints w B A n ys) (hB : B ≤ w.heap.size) (hi : i < n) (hi' : i < ys.length)
    (h0 : 0 ≤ ys[i]) (h1 : ys[i] ≤ 100000) (h2 : 0 ≤ s) (h3 : s ≤ 100000) :
    Calls Try.prog 33 #[.agg #[.int .i64 f, .int .i64 t, .int .i64 k, .slice A n c, .int .i64 s], .int .i64 i] w fun e w' => e = .returned (.int .i64 (max (s - ys[i]) 0)) ∧ Below w.heap.size w w' := by
  obtain ⟨ad, rfl, hab, hcell⟩ := hr.at_ hi
  rw [show ys.getD i 0 = ys[i] from by simp [List.getD, hi']] at hcell
  generalize ys[i] = y at *
  have ho : ∀ o, (w.alloc o).cell? (ad.add i) = some (.int .i64 y) := fun o => by
    rw [World.cell?_alloc_lt w o (ad.add i) (by rw [block_of_add]; omega)]; exact hcell
  by_cases hd : s - y < 0
  · rw [Int.max_eq_right (by omega)]
    go_enter Try.func33, Try.ntmps33
    go_wp2_with fail
    go_quiet (fail)
    go_wp2_with fail
    go_ret
    exact ⟨rfl, below_drewN ((Below.refl _ _).alloc (Nat.le_refl _) _) _⟩
  · rw [Int.max_eq_left (by omega)]
    go_enter Try.func33, Try.ntmps33
    go_wp2_with fail
    go_quiet (fail)
    go_wp2_with fail
    go_ret
    exact ⟨rfl, below_drewN ((Below.refl _ _).alloc (Nat.le_refl _) _) _⟩


/-- Which is the first number above 0, and whether there is one. -/
def fwB (L : List Int) : Bool := L.any fun x => decide (0 < x)
def fwI (L : List Int) : Nat := if fwB L then L.findIdx (fun x => decide (0 < x)) else 0
theorem fw_yes {L : List Int} {k : Nat} (hk : k < L.length) (h : ∀ j (hj : j < L.length), j < k → L[j] ≤ 0) (h1 : 0 < L[k]) : fwB L = true ∧ fwI L = k := by
  have hb : fwB L = true := by
    unfold fwB
    rw [List.any_eq_true]
    exact ⟨L[k], List.getElem_mem hk, by simpa using h1⟩
  refine ⟨hb, ?_⟩
  unfold fwI
  rw [hb, if_pos rfl]
  rw [List.findIdx_eq hk]
  refine ⟨by simpa using h1, fun j hj => ?_⟩
  have := h j (by omega) hj
  simp; omega
theorem fw_no {L : List Int} (h : ∀ j (hj : j < L.length), L[j] ≤ 0) : fwB L = false ∧ fwI L = 0 := by
  have hb : fwB L = false := by
    unfold fwB
    rw [List.any_eq_false]
    intro x hx
    obtain ⟨j, hj, rfl⟩ := List.mem_iff_getElem.1 hx
    have := h j hj
    simp; omega
  exact ⟨hb, by unfold fwI; rw [hb]; rfl⟩
def manyL (s : Int) (ys : List Int) : List Int := ys.map fun y => max (y - s) 0
def fewL (s : Int) (ys : List Int) : List Int := ys.map fun y => max (s - y) 0
theorem manyL_length (s : Int) (ys : List Int) : (manyL s ys).length = ys.length := by simp [manyL]
theorem fewL_length (s : Int) (ys : List Int) : (fewL s ys).length = ys.length := by simp [fewL]
theorem manyL_get (s : Int) (ys : List Int) (i : Nat) (h : i < ys.length) : (manyL s ys)[i]'(by rw [manyL_length]; exact h) = max (ys[i] - s) 0 := by simp [manyL]
theorem fewL_get (s : Int) (ys : List Int) (i : Nat) (h : i < ys.length) : (fewL s ys)[i]'(by rw [fewL_length]; exact h) = max (s - ys[i]) 0 := by simp [fewL]

theorem firstWith_many (f t k s : Int) (A : Option Addr) (n c B : Nat) (ys : List Int) (w : World) (hr : Ints w B A n ys) (hB : B ≤ w.heap.size) (hn : n ≤ 1000000)
    (hv : ∀ i (h : i < ys.length), 0 ≤ ys[i] ∧ ys[i] ≤ 100000) (h2 : 0 ≤ s) (h3 : s ≤ 100000) :
    Calls Try.prog 32 #[.agg #[.int .i64 f, .int .i64 t, .int .i64 k, .slice A n c, .int .i64 s], .func (.func 22) #[] #[]] w
      fun e w' => e = .returned (.tuple #[.int .i64 (fwI (manyL s ys) : Nat), .bool (fwB (manyL s ys))]) ∧ Below w.heap.size w w' := by
  obtain rfl := hr.len
  have hfy := hide (fun q hq h h1 => fw_yes (L := manyL s ys) (k := q) hq h h1)
  have hfn := hide (fun h => fw_no (L := manyL s ys) h)
  have HV := hide hv
  clear hv
  have HL := hide (manyL_length s ys)
  have HG := hide (fun i (h : i < ys.length) (h' : i < (manyL s ys).length) => show (manyL s ys)[i] = _ from manyL_get s ys i h)
  have HT := hide (fun (W : World) (i : Nat) (h : i < ys.length) (hrW : Ints W B A ys.length ys) (hBW : B ≤ W.heap.size) =>
    tooMany_any f t k s A ys.length c B i ys W hrW hBW h h (HV.out i h).1 (HV.out i h).2 h2 h3)
  generalize manyL s ys = L at *
  go_enter Try.func32, Try.ntmps32
  go_wp2_with fail
  have hA : Below w.heap.size w (w.alloc (.cells #[.int .i64 f, .int .i64 t, .int .i64 k, .slice A ys.length c, .int .i64 s] 37)) := (Below.refl _ _).alloc (Nat.le_refl _) _
  have hr0 := hr.alloc hB (.cells #[.int .i64 f, .int .i64 t, .int .i64 k, .slice A ys.length c, .int .i64 s] 37)
  have k0 : ((w.alloc (.cells #[.int .i64 f, .int .i64 t, .int .i64 k, .slice A ys.length c, .int .i64 s] 37)).cell? ⟨w.heap.size, 0, none⟩ = some ((.int .i64 f)) ∧ (w.alloc (.cells #[.int .i64 f, .int .i64 t, .int .i64 k, .slice A ys.length c, .int .i64 s] 37)).cell? ⟨w.heap.size, 1, none⟩ = some ((.int .i64 t)) ∧ (w.alloc (.cells #[.int .i64 f, .int .i64 t, .int .i64 k, .slice A ys.length c, .int .i64 s] 37)).cell? ⟨w.heap.size, 2, none⟩ = some ((.int .i64 k)) ∧ (w.alloc (.cells #[.int .i64 f, .int .i64 t, .int .i64 k, .slice A ys.length c, .int .i64 s] 37)).cell? ⟨w.heap.size, 3, none⟩ = some ((.slice A ys.length c)) ∧ (w.alloc (.cells #[.int .i64 f, .int .i64 t, .int .i64 k, .slice A ys.length c, .int .i64 s] 37)).cell? ⟨w.heap.size, 4, none⟩ = some ((.int .i64 s))) := by refine ⟨?_, ?_, ?_, ?_, ?_⟩ <;> simp
  have hz0 : w.heap.size < (w.alloc (.cells #[.int .i64 f, .int .i64 t, .int .i64 k, .slice A ys.length c, .int .i64 s] 37)).heap.size := by simp
  generalize (w.alloc (.cells #[.int .i64 f, .int .i64 t, .int .i64 k, .slice A ys.length c, .int .i64 s] 37)) = W0 at *
  have hz1 : B ≤ W0.heap.size := by omega
  obtain ⟨b0, hb0⟩ : ∃ b0, b0 = w.heap.size := ⟨_, rfl⟩
  rw [← hb0] at k0 hz0 ⊢
  have s0 := hA.size
  clear hb0
  have HK : Hid (∀ W', Below W0.heap.size W0 W' → (W'.cell? ⟨b0, 0, none⟩ = some ((.int .i64 f)) ∧ W'.cell? ⟨b0, 1, none⟩ = some ((.int .i64 t)) ∧ W'.cell? ⟨b0, 2, none⟩ = some ((.int .i64 k)) ∧ W'.cell? ⟨b0, 3, none⟩ = some ((.slice A ys.length c)) ∧ W'.cell? ⟨b0, 4, none⟩ = some ((.int .i64 s)))) :=
    hide fun W' h => ⟨(h.cell (p := ⟨b0, 0, none⟩) hz0).trans k0.1, (h.cell (p := ⟨b0, 1, none⟩) hz0).trans k0.2.1, (h.cell (p := ⟨b0, 2, none⟩) hz0).trans k0.2.2.1, (h.cell (p := ⟨b0, 3, none⟩) hz0).trans k0.2.2.2.1, (h.cell (p := ⟨b0, 4, none⟩) hz0).trans k0.2.2.2.2⟩
  clear k0
  go_loopw [10] (fun i wr => ∃ q : Nat, q ≤ ys.length ∧ i = .int .i64 q ∧ Hid (∀ j (hj : j < L.length), j < q → L[j] ≤ 0) ∧ Below W0.heap.size W0 wr)
    (fun i _ => ys.length - (intOf i).toNat)
  case atStart => exact ⟨0, Nat.zero_le _, rfl, hide (fun _ _ h => by omega), Below.refl _ _⟩
  case round =>
    obtain ⟨q, hq, rfl, hall, hb⟩ := hrel
    have hsz := hb.size
    by_cases hlt : q < ys.length
    · obtain ⟨o0, o1, o2, o3, o4⟩ := HK.out _ hb
      have HC := hide (HT.out wr q hlt (hr0.below hb hz1) (by omega))
      have hg := HG.out q hlt (by rw [HL.out]; exact hlt)
      generalize hd : max (ys[q] - s) 0 = d at HC hg
      clear hd
      by_cases hp : 0 < d
      · obtain ⟨y1, y2⟩ := hfy.out q (by rw [HL.out]; exact hlt) (fun j hj h => hall.out j hj h) (by rw [hg]; exact hp)
        have Y1 := hide y1
        have Y2 := hide y2
        clear y1 y2 hg hfy hfn
        go_wp2_with fail
        refine HC.out.mono ?_
        rintro e w2 ⟨rfl, hb2⟩
        go_wp2_with fail
        go_ret2
        exact ⟨by rw [Y1.out, Y2.out]; rfl, hA.trans ((below_next hb hb2).mono s0)⟩
      · have hall' : Hid (∀ j (hj : j < L.length), j < q + 1 → L[j] ≤ 0) := hide fun j hj h => by
          by_cases hjq : j < q
          · exact hall.out j hj hjq
          · obtain rfl : j = q := by omega
            rw [hg]; omega
        clear hg
        go_wp2_with fail
        refine HC.out.mono ?_
        rintro e w2 ⟨rfl, hb2⟩
        go_wp2_with fail
        go_roundw
        case rel => exact ⟨q + 1, by omega, by go_num, hall', below_next hb hb2⟩
        case measure => simp [intOf]; omega
    · obtain ⟨y1, y2⟩ := hfn.out (fun j hj => hall.out j hj (by rw [HL.out] at hj; omega))
      have Y1 := hide y1
      have Y2 := hide y2
      clear y1 y2 hfy hfn
      go_wp2_with fail
      go_ret2
      exact ⟨by rw [Y1.out, Y2.out]; rfl, hA.trans (hb.mono s0)⟩

theorem firstWith_few (f t k s : Int) (A : Option Addr) (n c B : Nat) (ys : List Int) (w : World) (hr : Ints w B A n ys) (hB : B ≤ w.heap.size) (hn : n ≤ 1000000)
    (hv : ∀ i (h : i < ys.length), 0 ≤ ys[i] ∧ ys[i] ≤ 100000) (h2 : 0 ≤ s) (h3 : s ≤ 100000) :
    Calls Try.prog 32 #[.agg #[.int .i64 f, .int .i64 t, .int .i64 k, .slice A n c, .int .i64 s], .func (.func 33) #[] #[]] w
      fun e w' => e = .returned (.tuple #[.int .i64 (fwI (fewL s ys) : Nat), .bool (fwB (fewL s ys))]) ∧ Below w.heap.size w w' := by
  obtain rfl := hr.len
  have hfy := hide (fun q hq h h1 => fw_yes (L := fewL s ys) (k := q) hq h h1)
  have hfn := hide (fun h => fw_no (L := fewL s ys) h)
  have HV := hide hv
  clear hv
  have HL := hide (fewL_length s ys)
  have HG := hide (fun i (h : i < ys.length) (h' : i < (fewL s ys).length) => show (fewL s ys)[i] = _ from fewL_get s ys i h)
  have HT := hide (fun (W : World) (i : Nat) (h : i < ys.length) (hrW : Ints W B A ys.length ys) (hBW : B ≤ W.heap.size) =>
    tooFew_any f t k s A ys.length c B i ys W hrW hBW h h (HV.out i h).1 (HV.out i h).2 h2 h3)
  generalize fewL s ys = L at *
  go_enter Try.func32, Try.ntmps32
  go_wp2_with fail
  have hA : Below w.heap.size w (w.alloc (.cells #[.int .i64 f, .int .i64 t, .int .i64 k, .slice A ys.length c, .int .i64 s] 37)) := (Below.refl _ _).alloc (Nat.le_refl _) _
  have hr0 := hr.alloc hB (.cells #[.int .i64 f, .int .i64 t, .int .i64 k, .slice A ys.length c, .int .i64 s] 37)
  have k0 : ((w.alloc (.cells #[.int .i64 f, .int .i64 t, .int .i64 k, .slice A ys.length c, .int .i64 s] 37)).cell? ⟨w.heap.size, 0, none⟩ = some ((.int .i64 f)) ∧ (w.alloc (.cells #[.int .i64 f, .int .i64 t, .int .i64 k, .slice A ys.length c, .int .i64 s] 37)).cell? ⟨w.heap.size, 1, none⟩ = some ((.int .i64 t)) ∧ (w.alloc (.cells #[.int .i64 f, .int .i64 t, .int .i64 k, .slice A ys.length c, .int .i64 s] 37)).cell? ⟨w.heap.size, 2, none⟩ = some ((.int .i64 k)) ∧ (w.alloc (.cells #[.int .i64 f, .int .i64 t, .int .i64 k, .slice A ys.length c, .int .i64 s] 37)).cell? ⟨w.heap.size, 3, none⟩ = some ((.slice A ys.length c)) ∧ (w.alloc (.cells #[.int .i64 f, .int .i64 t, .int .i64 k, .slice A ys.length c, .int .i64 s] 37)).cell? ⟨w.heap.size, 4, none⟩ = some ((.int .i64 s))) := by refine ⟨?_, ?_, ?_, ?_, ?_⟩ <;> simp
  have hz0 : w.heap.size < (w.alloc (.cells #[.int .i64 f, .int .i64 t, .int .i64 k, .slice A ys.length c, .int .i64 s] 37)).heap.size := by simp
  generalize (w.alloc (.cells #[.int .i64 f, .int .i64 t, .int .i64 k, .slice A ys.length c, .int .i64 s] 37)) = W0 at *
  have hz1 : B ≤ W0.heap.size := by omega
  obtain ⟨b0, hb0⟩ : ∃ b0, b0 = w.heap.size := ⟨_, rfl⟩
  rw [← hb0] at k0 hz0 ⊢
  have s0 := hA.size
  clear hb0
  have HK : Hid (∀ W', Below W0.heap.size W0 W' → (W'.cell? ⟨b0, 0, none⟩ = some ((.int .i64 f)) ∧ W'.cell? ⟨b0, 1, none⟩ = some ((.int .i64 t)) ∧ W'.cell? ⟨b0, 2, none⟩ = some ((.int .i64 k)) ∧ W'.cell? ⟨b0, 3, none⟩ = some ((.slice A ys.length c)) ∧ W'.cell? ⟨b0, 4, none⟩ = some ((.int .i64 s)))) :=
    hide fun W' h => ⟨(h.cell (p := ⟨b0, 0, none⟩) hz0).trans k0.1, (h.cell (p := ⟨b0, 1, none⟩) hz0).trans k0.2.1, (h.cell (p := ⟨b0, 2, none⟩) hz0).trans k0.2.2.1, (h.cell (p := ⟨b0, 3, none⟩) hz0).trans k0.2.2.2.1, (h.cell (p := ⟨b0, 4, none⟩) hz0).trans k0.2.2.2.2⟩
  clear k0
  go_loopw [10] (fun i wr => ∃ q : Nat, q ≤ ys.length ∧ i = .int .i64 q ∧ Hid (∀ j (hj : j < L.length), j < q → L[j] ≤ 0) ∧ Below W0.heap.size W0 wr)
    (fun i _ => ys.length - (intOf i).toNat)
  case atStart => exact ⟨0, Nat.zero_le _, rfl, hide (fun _ _ h => by omega), Below.refl _ _⟩
  case round =>
    obtain ⟨q, hq, rfl, hall, hb⟩ := hrel
    have hsz := hb.size
    by_cases hlt : q < ys.length
    · obtain ⟨o0, o1, o2, o3, o4⟩ := HK.out _ hb
      have HC := hide (HT.out wr q hlt (hr0.below hb hz1) (by omega))
      have hg := HG.out q hlt (by rw [HL.out]; exact hlt)
      generalize hd : max (s - ys[q]) 0 = d at HC hg
      clear hd
      by_cases hp : 0 < d
      · obtain ⟨y1, y2⟩ := hfy.out q (by rw [HL.out]; exact hlt) (fun j hj h => hall.out j hj h) (by rw [hg]; exact hp)
        have Y1 := hide y1
        have Y2 := hide y2
        clear y1 y2 hg hfy hfn
        go_wp2_with fail
        refine HC.out.mono ?_
        rintro e w2 ⟨rfl, hb2⟩
        go_wp2_with fail
        go_ret2
        exact ⟨by rw [Y1.out, Y2.out]; rfl, hA.trans ((below_next hb hb2).mono s0)⟩
      · have hall' : Hid (∀ j (hj : j < L.length), j < q + 1 → L[j] ≤ 0) := hide fun j hj h => by
          by_cases hjq : j < q
          · exact hall.out j hj hjq
          · obtain rfl : j = q := by omega
            rw [hg]; omega
        clear hg
        go_wp2_with fail
        refine HC.out.mono ?_
        rintro e w2 ⟨rfl, hb2⟩
        go_wp2_with fail
        go_roundw
        case rel => exact ⟨q + 1, by omega, by go_num, hall', below_next hb hb2⟩
        case measure => simp [intOf]; omega
    · obtain ⟨y1, y2⟩ := hfn.out (fun j hj => hall.out j hj (by rw [HL.out] at hj; omega))
      have Y1 := hide y1
      have Y2 := hide y2
      clear y1 y2 hfy hfn
      go_wp2_with fail
      go_ret2
      exact ⟨by rw [Y1.out, Y2.out]; rfl, hA.trans (hb.mono s0)⟩
end Go.Proofs.Ytieikogjjhjcdaa
