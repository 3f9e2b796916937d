
/-
  THE NUMBER OF HEAPS; an append that tells what lies elsewhere.
-/
import Derived.Test.YtnakkmmmkbjfbaaSeR
import Derived.Test.YtnakkmmmkbjfbaaDbAll
import Derived.Test.YtnakkmmmkbjfbaaHas
import Derived.Test.YtnakkmmmkbjfbaaSsB
import Derived.Maps.AppendAt
namespace Go.Proofs.Ytnakkmmmkbjfbaa
open Go.RowKit Go.Deep
set_option linter.unusedVariables false

/-- 'x = append(x, n)', with what lies elsewhere. -/
theorem wpList_app_intB {wr : World} {ops : Array Oper} {rest : List Oper} {o : Oper} {a : Act} {Q : Exit → Act → World → Prop} (hgd : o.guard = none) (s x : Operand)
    (ho : o.op = .call { callee := .builtin .append, args := #[s, x], argTypes := #[22, 22] })
    (base : Nat) (v : Value) (zs : List Int) (hs : a.eval s = v) (hown : Own wr base 3 v zs) (n : Int) (c : Nat) (hx : a.eval x = .slice (some ⟨wr.heap.size, 0, none⟩) 1 c)
    (hbase : base ≤ wr.heap.size) (hlen : zs.length < 100000000)
    (h : ∀ v' w', Own w' base 3 v' (zs ++ [n]) → Below base wr w' → (∀ k, k < wr.heap.size → some k ≠ v.ownBlock → w'.heap[k]? = wr.heap[k]?) → (v'.ownBlock = v.ownBlock ∨ ∃ g, v'.ownBlock = some g ∧ wr.heap.size ≤ g) → wpList Try.prog ops Q rest (a.put o.dst v') w') :
    wpList Try.prog ops Q (o :: rest) a (wr.alloc (.cells #[.int .i64 n] 3)) := by
  obtain ⟨i0, hi, hz0, hz1, hz2⟩ := info_parts infoInt
  refine wpList_append_own_at _ hgd s x 22 ho base 3 i0 (.int .i64 0) 1 8 Try.underlying22 hi hz0 hz1 hz2 rfl (by decide) v zs.length (zs.map (Value.int .i64)) hs (World.ownsRow.alloc hown _)
    ⟨wr.heap.size, 0, none⟩ 1 c [.int .i64 n] hx rfl ?_ ?_ (by unfold maxLen; omega) (by omega) (by simp; omega) ?_
  · intro j u hj
    match j, hj with
    | 0, hj => simp at hj; subst hj; simp [Addr.add]
  · intro u hu; simp at hu; subst hu; rfl
  · intro v' w' h1 h2 _ h4
    have hoth : ∀ k, k < wr.heap.size → some k ≠ v.ownBlock → w'.heap[k]? = wr.heap[k]? := fun k hk hne => by
      rw [h2.block k (by simp; omega) hne]
      exact Below.heap_alloc _ _ _ hk
    refine h v' w' (by simpa [Own] using h1) ?_ hoth ?_
    · refine (((Below.refl base wr).alloc hbase _).grown h2 (by simp; omega) ?_)
      intro k hk
      exact (World.ownsRow.lt hown k hk).1
    · rcases h4 with h4 | h4
      · exact .inl h4
      · exact .inr ⟨_, h4, by simp⟩

theorem numD_take (zs : List Int) (k : Nat) (hk : k < zs.length) : numD (zs.take (k + 1)) = numD (zs.take k) * 41 + (zs.getD k 0).toNat := by
  unfold numD
  rw [List.take_succ_eq_append_getElem hk, List.foldl_append]
  simp [List.getD, hk]

set_option maxRecDepth 100000 in
set_option maxHeartbeats 2000000 in
/-- The model's dbNumber. -/
theorem dbNumber_any (A : Option Addr) (n c B : Nat) (zs : List Int) (w : World) (hr : Ints w B A n zs) (hn : n ≤ 4) (hs : ∀ x ∈ zs, 0 ≤ x ∧ x ≤ 40) :
    Calls Try.prog 45 #[.slice A n c] w fun e w' => e = .returned (.int .i64 (numD zs : Int)) ∧ w = w' := by
  obtain rfl := hr.len
  have HT := hide (fun k hk => numD_take zs k hk)
  have HB := hide (fun k => show numD (zs.take k) ≤ 2825761 by
    have h1 := numD_lt (zs := zs.take k) (fun x hx => hs x (List.mem_of_mem_take hx))
    have h2 : (zs.take k).length ≤ 4 := by rw [List.length_take]; omega
    have h3 : 41 ^ (zs.take k).length ≤ 41 ^ 4 := Nat.pow_le_pow_right (by omega) h2
    have h4 : 41 ^ 4 = 2825761 := by decide
    omega)
  have HX := hide (fun k (hk : k < zs.length) => hs (zs.getD k 0) (by rw [getD_get hk]; exact List.getElem_mem _))
  have HE := hide (show numD (zs.take zs.length) = numD zs by rw [List.take_length])
  have hR := hr
  clear hr hs
  go_enter Try.func45, Try.ntmps45
  go_wp2
  go_loop [3, 8] (fun v i => ∃ k : Nat, k ≤ zs.length ∧ i = .int .i64 (k : Int) ∧ v = .int .i64 (numD (zs.take k) : Int))
    (fun _ i => zs.length - (intOf i).toNat)
  case atStart => exact ⟨0, Nat.zero_le _, rfl, by simp [numD]⟩
  case round =>
    obtain ⟨k, hk, rfl, rfl⟩ := hrel
    by_cases hlt : k < zs.length
    · obtain ⟨ad, rfl, hab, hcell⟩ := hR.at_ hlt
      have hx := HX.out k hlt
      have hb := HB.out k
      have hb1 := HB.out (k + 1)
      have HTk := hide (HT.out k hlt)
      rw [HTk.out] at hb1
      obtain ⟨y, hy⟩ := Int.eq_ofNat_of_zero_le hx.1
      rw [hy] at hcell hx HTk hb1
      rw [Int.toNat_natCast] at HTk hb1
      clear hy
      generalize numD (zs.take k) = m at *
      have hlt2 : (k : Int) < (zs.length : Int) := by omega
      have hy40 : (y : Int) ≤ 40 := hx.2
      clear hx
      go_wp2
      go_round
      case rel => exact ⟨k + 1, by omega, by go_num, by rw [HTk.out]; go_num⟩
      case measure => simp [intOf]; omega
    · obtain rfl : k = zs.length := by omega
      have HEE := HE
      generalize numD (zs.take zs.length) = m at *
      go_wp2
      go_ret
      exact ⟨by rw [← HEE.out]; rfl, rfl⟩
end Go.Proofs.Ytnakkmmmkbjfbaa
