import Derived.Test.YtnakkmmmkbjfbaaMg07
import Derived.Test.YtnakkmmmkbjfbaaMg08
import Derived.Test.YtnakkmmmkbjfbaaMg01
import Derived.Test.YtnakkmmmkbjfbaaMg02
import Derived.WalkSpells

/-
  SUMS AND SHARES, BOTH WAYS: hpSum, StonesOf, EqualShare, CanBeEqual, hpEqual, shareOfEach.
-/
namespace Go.Proofs.Ytnakkmmmkbjfbaa
open Go.RowKit Go.Deep

theorem quiet_left {P : Program} {f : FuncId} {args : Array Value} {w : World} {n : Nat} {v : Value}
    (h : Calls P f args (w.drewN n) fun e w' => e = .returned v ∧ w.drewN n = w') : Calls P f args (w.drewN n) fun e w'' => e = .returned v ∧ ∃ m, w'' = w.drewN m :=
  h.mono fun _ _ ⟨he, hm⟩ => ⟨he, n, hm.symm⟩

/-- The model's hpSum. -/
theorem hpSum_any (A : Option Addr) (n c B : Nat) (zs : List Int) (w : World) (hr : Ints w B A n zs) (hn : n ≤ 1000000) (hb : within (-1000000000) 1000000000 zs = true) :
    Calls Try.prog 38 #[.slice A n c] w fun e w' => e = .returned (.int .i64 (tot zs)) ∧ w = w' := by
  obtain rfl := hr.len
  go_enter Try.func38, Try.ntmps38
  go_wp2
  go_loop [3, 8] (fun s i => ∃ k : Nat, k ≤ zs.length ∧ i = .int .i64 k ∧ s = .int .i64 (tot (zs.take k)))
    (fun _ i => zs.length - (intOf i).toNat)
  case atStart => exact ⟨0, Nat.zero_le _, rfl, rfl⟩
  case round =>
    obtain ⟨k, hk, rfl, rfl⟩ := hrel
    have hs := tot_small hb (by omega) k
    by_cases hlt : k < zs.length
    · have Hs := hide (tot_take_succ zs k hlt)
      have hk2 := within_get hb k hlt
      obtain ⟨ad, rfl, hab, hcell⟩ := hr.at_ hlt
      rw [show zs.getD k 0 = zs[k] from by simp [List.getD, List.getElem?_eq_getElem hlt]] at hcell
      go_wp2
      go_round
      case rel => exact ⟨k + 1, by omega, by go_num, by rw [Hs.out]⟩
      case measure => simp [intOf]; omega
    · go_wp2
      go_ret
      exact ⟨ret_int (by rw [List.take_of_length_le (by omega)]), rfl⟩

/-- The program's sumOf. -/
theorem sumOf_any (A : Option Addr) (n c B : Nat) (zs : List Int) (w : World) (hr : Ints w B A n zs) (hn : n ≤ 1000000) (hb : within (-1000000000) 1000000000 zs = true) :
    Calls Try.prog 49 #[.slice A n c] w fun e w' => e = .returned (.int .i64 (tot zs)) ∧ w = w' := by
  obtain rfl := hr.len
  have HB := hide hb
  clear hb
  go_enter Try.func49, Try.ntmps49
  go_wp2
  go_loop [3, 8] (fun s i => ∃ k : Nat, k ≤ zs.length ∧ i = .int .i64 k ∧ s = .int .i64 (tot (zs.take k)))
    (fun _ i => zs.length - (intOf i).toNat)
  case atStart => exact ⟨0, Nat.zero_le _, rfl, rfl⟩
  case round =>
    obtain ⟨k, hk, rfl, rfl⟩ := hrel
    have hs := tot_small HB.out (by omega) k
    by_cases hlt : k < zs.length
    · have Hs := hide (tot_take_succ zs k hlt)
      have hk2 := within_get HB.out k hlt
      obtain ⟨ad, rfl, hab, hcell⟩ := hr.at_ hlt
      rw [show zs.getD k 0 = zs[k] from by simp [List.getD, List.getElem?_eq_getElem hlt]] at hcell
      go_wp2
      go_round
      case rel => exact ⟨k + 1, by omega, by go_num, by rw [Hs.out]⟩
      case measure => simp [intOf]; omega
    · go_wp2
      go_ret
      exact ⟨ret_int (by rw [List.take_of_length_le (by omega)]), rfl⟩

/-- The program's StonesOf. -/
theorem StonesOf_any (A : Option Addr) (n c B : Nat) (zs : List Int) (w : World) (hr : Ints w B A n zs) (hn : n ≤ 17592186044416) :
    Calls Try.prog 41 #[.slice A n c] w fun e w' => e = .returned (.tuple #[.int .i64 (stonesN zs), .bool (good zs)]) ∧ w = w' := by
  obtain rfl := hr.len
  cases hg : good zs
  · have H1 := hide (stonesN_no hg)
    have hgb : good zs = false := hg
    go_enter Try.func41, Try.ntmps41
    go_wp2_with fail
    refine (AreHeaps_any _ _ _ _ _ _ hr hn).mono ?_; rintro e w' ⟨rfl, rfl⟩; rw [hgb]
    go_wp2_with fail
    go_ret2
    exact ⟨by rw [H1.out]; rfl, rfl⟩
  · have H1 := hide (stonesN_yes hg)
    have hgb : good zs = true := hg
    have hle := (good_of hg).2.1
    have HB := hide (good_small hg)
    go_enter Try.func41, Try.ntmps41
    go_wp2_with fail
    refine (AreHeaps_any _ _ _ _ _ _ hr hn).mono ?_; rintro e w' ⟨rfl, rfl⟩; rw [hgb]
    go_wp2_with fail
    refine (sumOf_any _ _ _ _ _ _ hr (by omega) HB.out).mono ?_; rintro e w' ⟨rfl, rfl⟩
    go_wp2_with fail
    go_ret2
    exact ⟨by rw [H1.out]; rfl, rfl⟩

end Go.Proofs.Ytnakkmmmkbjfbaa

/-
  COPIES OF A LIST BY append([]int{}, l...): the model's l1Own, slices.Clone. And 'append(l, 0)' onto a list of the call's own, a constant laid.
-/
namespace Go.Proofs.Ytnakkmmmkbjfbaa
open Go.RowKit Go.Deep

section
variable {P : Program}
/-- 'append([]int{}, l...)', l not empty. -/
theorem wpList_app_list {wr : World} {ops : Array Oper} {rest : List Oper} {o : Oper} {a : Act} {Q : Exit → Act → World → Prop} (hgd : o.guard = none) (s x : Operand) (t e : TypeId)
    (ho : o.op = .call { callee := .builtin .append, args := #[s, x], argTypes := #[t, t] }) (ht : P.underlying t = some (.slice e))
    (hinfo : (P.info? e).map (fun i => (i.zero, i.size, i.bytes)) = some (some (.int .i64 0), 1, 8))
    (hs : a.eval s = .slice (some ⟨wr.heap.size, 0, none⟩) 0 0) (ad : Addr) (m c B : Nat) (zs : List Int) (hx : a.eval x = .slice (some ad) m c) (hr : Ints wr B (some ad) m zs) (hB : B ≤ wr.heap.size)
    (hlen : m < 10000000)
    (h : ∀ v' w', Own w' wr.heap.size e v' zs → Below wr.heap.size wr w' → wpList P ops Q rest (a.put o.dst v') w') :
    wpList P ops Q (o :: rest) a (wr.alloc (.cells #[] e)) := by
  obtain rfl := hr.len
  obtain ⟨i0, hi, hz0, hz1, hz2⟩ := info_parts hinfo
  have hown : (wr.alloc (.cells #[] e)).ownsRow wr.heap.size e 1 (.slice (some ⟨wr.heap.size, 0, none⟩) 0 0) 0 [] :=
    World.ownsRow_lit wr #[] 0 (Nat.le_refl _) (Nat.zero_le _) (by simp)
  refine wpList_append_own _ hgd s x t ho wr.heap.size e i0 (.int .i64 0) 1 8 ht hi hz0 hz1 hz2 rfl (by decide) _ 0 [] hs hown
    ad zs.length c (zs.map (Value.int .i64)) hx (by simp) ?_ ?_ (by unfold maxLen; omega) (by omega) (by simp) ?_
  · intro j u hj
    rw [List.getElem?_map] at hj
    have hlt : j < zs.length := by
      rcases Nat.lt_or_ge j zs.length with h1 | h1
      · exact h1
      · rw [List.getElem?_eq_none h1] at hj; cases hj
    rw [List.getElem?_eq_getElem hlt] at hj
    simp at hj
    subst hj
    obtain ⟨ad', had, _, hc⟩ := (hr.alloc hB (.cells #[] e)).at_ hlt
    obtain rfl : ad' = ad := by injection had with h; exact h.symm
    rw [hc]
    simp [List.getD, List.getElem?_eq_getElem hlt]
  · intro u hu
    rw [List.mem_map] at hu
    obtain ⟨z, _, rfl⟩ := hu
    rfl
  · intro v' w' h1 h2 _
    refine h v' w' (by simpa [Own] using h1) ?_
    refine (((Below.refl wr.heap.size wr).alloc (Nat.le_refl _) _).grown h2 (by simp) ?_)
    intro k hk
    exact (World.ownsRow.lt hown k hk).1
end

/-- WHAT A COPY LEAVES. -/
def Made1 (zs : List Int) (w : World) (e : Ending) (w' : World) : Prop :=
  ∃ g c, e = .returned (.slice (some ⟨g, 0, none⟩) zs.length c) ∧ w.heap.size ≤ g ∧ g < w'.heap.size ∧ zs.length ≤ c ∧ c ≤ maxLen ∧ Own w' w.heap.size 3 (.slice (some ⟨g, 0, none⟩) zs.length c) zs ∧ Below w.heap.size w w'

theorem made1_of {zs : List Int} {w w' : World} {v : Value} (h0 : 0 < zs.length) (hown : Own w' w.heap.size 3 v zs) (hb : Below w.heap.size w w') : Made1 zs w (.returned v) w' := by
  rcases hown.form with ⟨_, rfl⟩ | ⟨g, c, rfl, h1, h2, h3, h4⟩
  · simp at h0
  · exact ⟨g, c, rfl, h1, h2, h3, h4, hown, hb⟩

/-- The model's l1Own. -/
theorem l1Own_any (A : Option Addr) (n c B : Nat) (zs : List Int) (w : World) (hr : Ints w B A n zs) (hB : B ≤ w.heap.size) (h0 : 0 < n) (hn : n < 1000000) :
    Calls Try.prog 23 #[.slice A n c] w (Made1 zs w) := by
  obtain rfl := hr.len
  obtain ⟨ad, rfl, hab, _⟩ := hr.at_ h0
  go_enter Try.func23, Try.ntmps23
  go_wp2_with (at_builtin; refine wpList_app_list rfl _ _ 22 3 rfl Try.underlying22 infoInt rfl ad _ _ B zs rfl hr hB (by omega) ?_; intro v' w' hown' hb')
  go_ret
  exact made1_of h0 hown' hb'

end Go.Proofs.Ytnakkmmmkbjfbaa
