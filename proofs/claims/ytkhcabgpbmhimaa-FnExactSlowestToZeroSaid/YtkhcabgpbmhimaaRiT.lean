
/-
  A STEP, THE PROGRAM's WAY: the closures of stepFor; the list of a row; RingStep.
-/
import Derived.Test.YtkhcabgpbmhimaaRiM
import Derived.Test.YtkhcabgpbmhimaaArr
import Derived.ArgAppend
import Derived.StillTailTactics
import Derived.Laws.EntriesVeiled
namespace Go.Proofs.Ytkhcabgpbmhimaa
open Go.RowKit Go.Deep
set_option linter.unusedVariables false

/-- A ring in a row. -/
def pad10 (zs : List Int) : List Int := zs ++ List.replicate (10 - zs.length) 0
theorem pad10_len {zs : List Int} (h : zs.length ≤ 10) : (pad10 zs).length = 10 := by simp [pad10]; omega
theorem pad10_take (zs : List Int) : (pad10 zs).take zs.length = zs := by simp [pad10]
theorem pad10_nil : pad10 [] = zero10 := rfl
theorem pad10_set {ys : List Int} {k : Nat} (hk : ys.length = k) (h : k < 10) (v : Int) : (pad10 ys).set k v = pad10 (ys ++ [v]) := by
  unfold pad10
  rw [List.set_append_right _ _ (by omega), List.append_assoc]
  congr 1
  rw [show 10 - ys.length = (10 - (ys ++ [v]).length) + 1 by simp; omega, List.replicate_succ, hk, Nat.sub_self, List.set_cons_zero]
  rfl
theorem pad10_inj {xs ys : List Int} (h : xs.length = ys.length) (e : pad10 xs = pad10 ys) : xs = ys := by
  have h1 := pad10_take xs
  rw [e, h, pad10_take] at h1
  exact h1.symm

theorem behind_get (z : Int) (os : List Int) (k : Nat) (hk : k < (z :: os).length) : (os ++ [z]).getD k 0 = (z :: os).getD (nextOf k (z :: os).length) 0 := by
  rw [List.length_cons] at hk
  by_cases h : k + 1 = os.length + 1
  · have hn : nextOf k (z :: os).length = 0 := nextOf_end (by rw [List.length_cons]; exact h)
    rw [hn]
    simp only [List.getD]
    rw [List.getElem?_append_right (by omega), show k - os.length = 0 by omega]
    rfl
  · have hn : nextOf k (z :: os).length = k + 1 := nextOf_in (by rw [List.length_cons]; omega)
    rw [hn]
    simp only [List.getD]
    rw [List.getElem?_append_left (by omega)]
    rfl
theorem within_getD {lo hi : Int} {zs : List Int} (h : within lo hi zs = true) (k : Nat) (hk : k < zs.length) : lo ≤ zs.getD k 0 ∧ zs.getD k 0 ≤ hi := by
  rw [rget hk]; exact within_get h k hk

section
variable {P : Program}
/-- 'append(l, x)', l a list that is as long as its room: it is copied. -/
theorem wpList_app_full {wr : World} {ops : Array Oper} {rest : List Oper} {o : Oper} {a : Act} {Q : Exit → Act → World → Prop} (hgd : o.guard = none) (s x : Operand) (t e : TypeId)
    (ho : o.op = .call { callee := .builtin .append, args := #[s, x], argTypes := #[t, t] }) (ht : P.underlying t = some (.slice e))
    (hinfo : (P.info? e).map (fun i => (i.zero, i.size, i.bytes)) = some (some (.int .i64 0), 1, 8))
    (A : Option Addr) (m B : Nat) (zs : List Int) (hs : a.eval s = .slice A m m) (hr : Ints wr B A m zs) (hB : B ≤ wr.heap.size) (h0 : 0 < m) (n : Int) (c : Nat) (hx : a.eval x = .slice (some ⟨wr.heap.size, 0, none⟩) 1 c)
    (hlen : m < 1000000)
    (h : ∀ v' w', Own w' wr.heap.size e v' (zs ++ [n]) → Below wr.heap.size wr w' → wpList P ops Q rest (a.put o.dst v') w') :
    wpList P ops Q (o :: rest) a (wr.alloc (.cells #[.int .i64 n] e)) := by
  obtain ⟨i0, hi, hz0, hz1, hz2⟩ := info_parts hinfo
  obtain rfl := hr.len
  obtain ⟨ad, rfl, hab, _⟩ := hr.at_ h0
  have hra := hr.alloc hB (.cells #[.int .i64 n] e)
  refine wpList_append_grows _ hgd s x t ho e i0 (.int .i64 0) 1 8 ht hi hz0 hz1 hz2 rfl (by decide) (some ad) zs.length zs.length (zs.map (Value.int .i64)) hs (by simp) (by simp) ?_
    ⟨wr.heap.size, 0, none⟩ 1 c [.int .i64 n] hx rfl ?_ ?_ (by omega) (by unfold maxLen; omega) (by omega) ?_
  · intro b hb j u hj
    injection hb with hb
    subst hb
    rw [List.getElem?_map] at hj
    obtain ⟨z, hz, rfl⟩ := Option.map_eq_some_iff.1 hj
    obtain ⟨hlt, rfl⟩ := List.getElem?_eq_some_iff.1 hz
    obtain ⟨ad', had, _, hc⟩ := hra.at_ hlt
    obtain rfl : ad' = ad := by injection had with h; exact h.symm
    rw [hc]
    simp [List.getD, List.getElem?_eq_getElem hlt]
  · intro j u hj
    match j, hj with
    | 0, hj => simp at hj; subst hj; simp [Addr.add]
  · intro u hu; simp at hu; subst hu; rfl
  · intro v' w' h1 h2
    have h3 : Own w' (wr.alloc (.cells #[.int .i64 n] e)).heap.size e v' (zs ++ [n]) := by simpa [Own] using h1
    refine h v' w' (h3.less (by simp)) ?_
    exact (((Below.refl wr.heap.size wr).alloc (Nat.le_refl _) _).grown h2 (by simp) (by simp))
end

set_option maxRecDepth 100000 in
set_option maxHeartbeats 1000000 in
/-- The variadic closure: the differences around. -/
theorem differences_any (A : Option Addr) (m B : Nat) (z : Int) (os zs : List Int) (w : World) (hr : Ints w B A m os) (hB : B ≤ w.heap.size) (h0 : 0 < m) (hm : m ≤ 9) (hzs : z :: os = zs) (hc : within 0 1000 zs = true) :
    Calls Try.prog 31 #[.int .i64 z, .slice A m m] w fun e w' => e = .returned (aggA (pad10 (rstep zs))) ∧ Below w.heap.size w w' := by
  obtain rfl := hr.len
  have hL1 : zs.length = os.length + 1 := by rw [← hzs]; exact List.length_cons
  have HE := hide (rstep_length zs)
  have hz0 : 0 ≤ z ∧ z ≤ 1000 := by have := within_getD hc 0 (by omega); rw [← hzs] at this; exact this
  have HC := hide (fun k hk => within_getD hc k hk)
  clear hc
  have HT := hide (fun k (hk : k < zs.length) => rstep_take_succ zs k hk)
  have HN := hide (fun k (hk : k < zs.length) => (show (os ++ [z]).getD k 0 = zs.getD (nextOf k zs.length) 0 by subst hzs; exact behind_get z os k hk))
  have HZ := hide (show zs.getD 0 0 = z by rw [← hzs]; rfl)
  have HLL := hide (show (os ++ [z]).length = zs.length by rw [hL1]; simp)
  have hlz : 2 ≤ zs.length ∧ zs.length ≤ 10 := by omega
  obtain ⟨hlz1, hlz2⟩ := hlz
  have HOL := hide (show os.length = zs.length - 1 by omega)
  clear hzs hL1
  obtain ⟨ad, rfl, hab, _⟩ := hr.at_ h0
  obtain ⟨i0, hi, hz00, hz1, hz2⟩ := info_parts infoInt
  have HI := hide hi
  have HI0 := hide hz00
  have HI1 := hide hz1
  have HI2 := hide hz2
  clear hi hz00 hz1 hz2
  have hzl := hide zero10_len
  have HR := hide hr
  clear hr
  go_enter Try.func31, Try.ntmps31
  go_wp2_with (first
    | (with_reducible refine wpList_arr_new (o := ⟨some 4, _, _, _, _, _⟩) rfl rfl ?_; intro w1 hL1' hb1 hs1; have A1 := hide hL1'; have B1 := hide hb1; have S1 := hide hs1; clear hL1' hb1 hs1)
    | (with_reducible refine wpList_arr_new (o := ⟨some 5, _, _, _, _, _⟩) rfl rfl ?_; intro w2 hL2' hb2 hs2; have A2 := hide hL2'; have B2 := hide (B1.out.trans (hb2.mono B1.out.size)); have S2 := hide hs2; have A12 := hide (A1.out.next hb2); have R2 := hide (HR.out.below B2.out hB); have Z2 := hide (Nat.le_trans hB B2.out.size); clear hL2' hb2 hs2)
    | (at_builtin; refine wpList_app_full rfl _ _ 22 3 rfl Try.underlying22 infoInt (some ad) os.length B os rfl R2.out Z2.out h0 _ _ rfl (by omega) ?_; intro v3 w3 hO3 hb3; have O3 := hide hO3; have B3 := hide (B2.out.trans (hb3.mono B2.out.size)); have A3 := hide (A2.out.next hb3); have A13 := hide (A12.out.next hb3); obtain ⟨A', c', hv', _, _⟩ := hO3.shape; subst hv'; obtain ⟨g', hA', hg1', hg2'⟩ := hO3.head (by rw [HLL.out]; omega); subst hA'; have hI3 := hO3.ints; rw [HLL.out] at hI3; rw [HLL.out]; have I3 := hide hI3; have G1 := hide hg1'; have G2 := hide hg2'; clear hO3 hb3 hI3 hg1' hg2'))
  have HN0 := hide (show zs.getD (0 % zs.length) 0 = z by rw [Nat.zero_mod]; exact HZ.out)
  have HNX := hide (fun k => (show zs.getD (nextOf k zs.length) 0 = zs.getD ((k + 1) % zs.length) 0 from rfl))
  have hne : w1.heap.size < g' := by have := G1.out; have := S2.out; omega
  go_loopw [6, 15] (fun n i wr => ∃ k : Nat, k ≤ zs.length ∧ i = .int .i64 k ∧ n = .int .i64 (zs.getD (k % zs.length) 0) ∧ ArrAt wr w1.heap.size 43 (pad10 ((rstep zs).take k)) ∧ Lone w1.heap.size w3 wr)
    (fun _ i _ => zs.length - (intOf i).toNat)
  case atStart => exact ⟨0, Nat.zero_le _, rfl, by rw [HN0.out], A3.out, Lone.refl _ _⟩
  case round =>
    obtain ⟨k, hk, rfl, rfl, hA, hO⟩ := hrel
    have HO := hide hO
    have HA := hide hA
    have hlk : (pad10 ((rstep zs).take k)).length = 10 := pad10_len (by rw [List.length_take, HE.out]; omega)
    by_cases hlt : k < zs.length
    · have hold := hA.cell k (by omega)
      have hfz := hA.frozen k
      have hcell : wr.cell? ⟨g', k, none⟩ = some (.int .i64 (zs.getD ((k + 1) % zs.length) 0)) := by
        obtain ⟨ad', had, _, hc⟩ := I3.out.at_ hlt
        injection had with had
        subst had
        rw [HN.out k hlt, HNX.out, add_head] at hc
        rw [← hc]
        exact cell_of_block (hO.rest g' (by omega))
      have hb1 := HC.out k hlt
      have hb2 := HC.out (nextOf k zs.length) (nextOf_lt hlt)
      rw [HNX.out] at hb2
      have HD := hide (dif_size (zs.getD k 0) (zs.getD ((k + 1) % zs.length) 0))
      have HS := hide (show (rstep zs).take (k + 1) = (rstep zs).take k ++ [dif (zs.getD k 0) (zs.getD ((k + 1) % zs.length) 0)] from HT.out k hlt)
      rw [show k % zs.length = k from Nat.mod_eq_of_lt hlt]
      have HK := hide (show ((rstep zs).take k).length = k by rw [List.length_take, HE.out]; omega)
      have hk10 : k < 10 := by omega
      clear hA hO hlk
      generalize hy : zs.getD ((k + 1) % zs.length) 0 = y at *
      have HY := hide hy
      clear hy
      generalize zs.getD k 0 = x at *
      generalize dif x y = d at *
      go_wp2_with fail
      refine (sizeOf_any _ (by omega) (by omega) _).mono ?_; rintro e w' ⟨rfl, rfl⟩; rw [HD.out]
      go_wp2_with fail
      go_roundw
      case rel => exact ⟨k + 1, by omega, by go_num, by rw [HY.out], by rw [HS.out, ← pad10_set HK.out hk10]; exact HA.out.set k d, HO.out.set k _⟩
      case measure => simp [intOf]; omega
    · obtain rfl : k = zs.length := by omega
      rw [List.take_of_length_le (by rw [HE.out]; exact Nat.le_refl _)] at hA hlk
      have HAF := hide hA
      have HLK := hide hlk
      have HA1 := hide (A13.out.same (hO.rest w.heap.size (by have := S1.out; omega)))
      clear hA hlk hO HA
      go_wp2_with (first
        | (with_reducible refine wpList_arr_load rfl (.tmp 5) rfl w1.heap.size _ (pad10 (rstep zs)) rfl HLK.out HAF.out ?_)
        | (with_reducible refine wpList_arr_store rfl (.tmp 4) (.tmp 28) rfl w.heap.size _ _ (pad10 (rstep zs)) rfl rfl HLK.out hzl.out HA1.out ?_; intro w5 hL5 ho5))
      exact bodyPost_ret (results_arr1 rfl _ _ _ _ _ rfl HLK.out hL5) rfl ⟨rfl, (B3.out.trans (HO.out.below.mono (by have := S1.out; omega))).trans ho5.below⟩
end Go.Proofs.Ytkhcabgpbmhimaa
