import Derived.Test.YtediapekgbekeaaMg10
import Derived.StillTailTactics
import Derived.Test.YtediapekgbekeaaMg11
import Derived.Test.YtediapekgbekeaaMg12
import Derived.Test.YtediapekgbekeaaMg17
import Derived.Deep.QuietTactic
import Derived.BigQuiet

/-
  LISTS OF STRUCTS OF 3 NUMBERS (impl.Move), THE SECOND PART: szMoveS, eqMoveS. Printed by structs.py.
-/
namespace Go.Proofs.Ytediapekgbekeaa
open Go.RowKit Go.Deep
set_option linter.unusedVariables false

end Go.Proofs.Ytediapekgbekeaa

/-
  MOVES THAT MAKE HEAPS EQUAL, THE MODEL's WAY.
-/
namespace Go.Proofs.Ytediapekgbekeaa
open Go.RowKit Go.Deep
set_option linter.unusedVariables false

theorem l1Least_any (a b : Int) (w : World) :
    Calls Try.prog 39 #[.int .i64 a, .int .i64 b] w fun e w' => e = .returned (.int .i64 (min a b)) ∧ w = w' := by
  by_cases h : a < b
  · rw [Int.min_eq_left (by omega)]
    go_enter Try.func39, Try.ntmps39
    go_wp2_with fail
    go_ret
    exact ⟨rfl, rfl⟩
  · rw [Int.min_eq_right (by omega)]
    go_enter Try.func39, Try.ntmps39
    go_wp2_with fail
    go_ret
    exact ⟨rfl, rfl⟩

def bd (E : List Int) : Prop := ∀ (k : Nat) (_ : k < E.length), -1000 ≤ E[k] ∧ E[k] ≤ 1000
theorem bd_moved {E : List Int} {i j : Nat} (h : bd E) (hij : i ≠ j) (hi : i < E.length) (hj : j < E.length) (h1 : 0 < E[i]) (h2 : E[j] < 0) : bd (movedE i j (min E[i] (-E[j])) E) := fun k hk => by
  rw [movedE_length] at hk
  rw [movedE_get hij hi hj k hk]
  have a := h i hi
  have b := h j hj
  have c := h k hk
  by_cases e : k = j
  · rw [if_pos e]; omega
  · rw [if_neg e]
    by_cases e2 : k = i
    · rw [if_pos e2]; omega
    · rw [if_neg e2]; exact c
theorem Own.cellAt' {w : World} {base g n c : Nat} {e : TypeId} {E : List Int} (h : Own w base e (.slice (some ⟨g, 0, none⟩) n c) E) (hn : E.length = n) (k : Nat) (hk : k < E.length) : w.cell? ⟨g, k, none⟩ = some (.int .i64 E[k]) := by
  subst hn
  have h' := h
  unfold Own at h'
  rw [World.ownsRow.cellAt h' k (by omega)]; simp [hk]

theorem Own.frozenAt' {w : World} {base g n c : Nat} {e : TypeId} {E : List Int} (h : Own w base e (.slice (some ⟨g, 0, none⟩) n c) E) (hn : E.length = n) (k : Nat) : w.frozen? ⟨g, k, none⟩ = false := by
  subst hn
  have h' := h
  unfold Own at h'
  exact World.ownsRow.frozenAt h' k
theorem Own.only {w w' : World} {base g n c : Nat} {e : TypeId} {E : List Int} (h : Own w base e (.slice (some ⟨g, 0, none⟩) n c) E) (hk : w'.heap[g]? = w.heap[g]?) : Own w' base e (.slice (some ⟨g, 0, none⟩) n c) E := by
  refine ⟨h.1, ?_⟩
  rcases h.2 with h2 | ⟨g', cap, cur, hv, hb, hg, r⟩
  · exact .inl h2
  · have hgg : g = g' := by injection hv with h1; injection h1 with h1; injection h1
    subst hgg
    exact .inr ⟨g, cap, cur, hv, hb, hk.trans hg, r⟩
theorem Own.after {w w1 w' : World} {base g n c bO : Nat} {e : TypeId} {E : List Int} (h : Own w base e (.slice (some ⟨g, 0, none⟩) n c) E) (hw : w1.heap = w.heap) (hb : Below bO w1 w') (hg : g < bO) (hn : E.length = n) {i j : Nat} (hij : i ≠ j) (hi : i < E.length) (hj : j < E.length) (u v : Int) :
    Own ((w'.setCell ⟨g, i, none⟩ (.int .i64 u)).setCell ⟨g, j, none⟩ (.int .i64 v)) base e (.slice (some ⟨g, 0, none⟩) n c) ((E.set i u).set j v) ∧
    w'.cell? ⟨g, i, none⟩ = some (.int .i64 E[i]) ∧ w'.frozen? ⟨g, i, none⟩ = false ∧
    (w'.setCell ⟨g, i, none⟩ (.int .i64 u)).cell? ⟨g, j, none⟩ = some (.int .i64 E[j]) ∧ (w'.setCell ⟨g, i, none⟩ (.int .i64 u)).frozen? ⟨g, j, none⟩ = false := by
  have o := h.only (w' := w') (by rw [← hw]; exact hb.block g hg)
  have o2 := Own.stored o hn i u
  have o3 := Own.stored o2 (by rw [List.length_set]; exact hn) j v
  refine ⟨o3, o.cellAt' hn i hi, o.frozenAt' hn i, ?_, o2.frozenAt' (by rw [List.length_set]; exact hn) j⟩
  rw [o2.cellAt' (by rw [List.length_set]; exact hn) j (by rw [List.length_set]; exact hj)]
  rw [List.getElem_set_ne hij]
theorem moves_pair {E : List Int} {i j : Nat} (h : at_ E i j) (hi : i < E.length) (hj : j < E.length) (h1 : 0 < E[i]) (h2 : E[j] < 0) :
    moves E = ⟨(i : Int), (j : Int), min E[i] (-E[j])⟩ :: moves (movedE i j (min E[i] (-E[j])) E) := by
  obtain ⟨p1, p2, p3⟩ := at_pair h hi hj h1 h2
  subst p2; subst p3
  have := moves_yes h.1 p1
  rwa [amount_eq hi hj] at this

set_option maxRecDepth 1000000 in
set_option maxHeartbeats 2000000 in
theorem specSharing_any (A : Option Addr) (n c B : Nat) (zs : List Int) (w : World) (hr : Ints w B A n zs) (hB : B ≤ w.heap.size) (hn : n ≤ 17592186044416) (hq : eqOk zs = true) (h0 : (over zs).sum = 0) (hbd : bd (over zs)) :
    Calls Try.prog 7 #[.slice A n c] w (MadeRMo (moves (over zs)) true w) := by
  obtain rfl := hr.len
  have hg := eqOk_good hq
  have hle := (good_of hg).2.1
  have HE := hide (hpEqual_any A zs.length c B zs w hr hn)
  rw [hq] at HE
  have HV := hide (hpOver_any A zs.length c B zs w hr hB hg)
  have HS0 := hide (at_start h0)
  have HB0 := hide hbd
  have HOl := hide (over_length zs)
  have hlp := (good_of hg).1
  clear hq hg h0 hbd
  generalize over zs = E0 at *
  go_enter Try.func7, Try.ntmps7
  go_wp2_with fail
  refine HE.out.mono ?_; rintro e w1 ⟨rfl, rfl⟩
  go_wp2_with fail
  refine HV.out.mono ?_; rintro e w2 ⟨A2, c2, rfl, hl2, hm2, hown2, hb2⟩
  obtain ⟨g, rfl, hgb, hgw⟩ := hown2.head (by rw [HOl.out]; omega)
  have hE12 : E0.length ≤ 12 := by rw [HOl.out]; exact hle
  have hs2 := hb2.size
  go_wp2_with fail
  generalize hbO : w2.heap.size = bO at *
  have HBO := hide hbO
  clear hbO
  go_loopw [5, 16] (fun v x wr => ∃ (i : Nat) (E : List Int) (out : List Mo), i ≤ E0.length ∧ x = .int .i64 i ∧ Hid (E.length = E0.length) ∧ Hid (at_ E i 0) ∧ Hid (bd E) ∧ Hid (out ++ moves E = moves E0) ∧ out.length ≤ i * 12 ∧
      OwnIMo wr bO v out.length (numsMo out) ∧ Own wr w.heap.size 3 (.slice (some ⟨g, 0, none⟩) E0.length c2) E ∧ bO ≤ wr.heap.size ∧ Below w.heap.size w wr)
    (fun _ x _ => E0.length - (intOf x).toNat)
  case atStart => exact ⟨0, E0, [], Nat.zero_le _, rfl, hide rfl, HS0, HB0, hide rfl, by simp, OwnIMo.nil _ _, hown2, by rw [HBO.out]; exact Nat.le_refl _, hb2⟩
  case round =>
    obtain ⟨i, E, out, hi, rfl, HL, HAt, HBd, HOut, hlen, hmo, hown, hbs, hb⟩ := hrel
    by_cases hlt : i < E0.length
    · have Hmo := hide hmo
      have Hown := hide hown
      have Hb := hide hb
      clear hmo hown hb
      go_wp2_with fail
      go_loopw [5, 21] (fun v x wr => ∃ (j : Nat) (E : List Int) (out : List Mo), j ≤ E0.length ∧ x = .int .i64 j ∧ Hid (E.length = E0.length) ∧ Hid (at_ E i j) ∧ Hid (bd E) ∧ Hid (out ++ moves E = moves E0) ∧ out.length ≤ i * 12 + j ∧
          OwnIMo wr bO v out.length (numsMo out) ∧ Own wr w.heap.size 3 (.slice (some ⟨g, 0, none⟩) E0.length c2) E ∧ bO ≤ wr.heap.size ∧ Below w.heap.size w wr)
        (fun _ x _ => E0.length - (intOf x).toNat)
      case atStart => exact ⟨0, E, out, Nat.zero_le _, rfl, HL, HAt, HBd, HOut, hlen, Hmo.out, Hown.out, hbs, Hb.out⟩
      case round =>
        clear Hmo Hown Hb HL HAt HBd HOut hlen hbs
        obtain ⟨j, E, out, hj, rfl, HL, HAt, HBd, HOut, hlen, hmo, hown, hbs, hb⟩ := hrel
        by_cases hjl : j < E0.length
        · have hiE : i < E.length := by rw [HL.out]; exact hlt
          have hjE : j < E.length := by rw [HL.out]; exact hjl
          have ci := hown.cellAt' HL.out i hiE
          have cj := hown.cellAt' HL.out j hjE
          have bi := HBd.out i hiE
          have bj := HBd.out j hjE
          have hii : (i : Int) < (E0.length : Int) := by omega
          have hjj : (j : Int) < (E0.length : Int) := by omega
          have Hmo := hide hmo
          have Hown := hide hown
          have Hb := hide hb
          clear hmo hown hb
          by_cases h1 : 0 < E[i]
          · by_cases h2 : E[j] < 0
            · have hij : i ≠ j := by rintro rfl; omega
              have hcm : 1 ≤ min E[i] (-E[j]) ∧ min E[i] (-E[j]) ≤ 1000 := by omega
              have HAt2 := hide (at_take HAt.out hiE hjE h1 h2)
              have HBd2 := hide (bd_moved HBd.out hij hiE hjE h1 h2)
              have HMv := hide (moves_pair HAt.out hiE hjE h1 h2)
              have HL1 := hide (l1Least_any E[i] (-E[j]))
              have HM := hide (show movedE i j (min E[i] (-E[j])) E = (E.set i (E[i] - min E[i] (-E[j]))).set j (E[j] + min E[i] (-E[j])) from by unfold movedE; rw [gd hiE, gd hjE])
              generalize hcv : min E[i] (-E[j]) = cv at *
              clear hcv
              go_wp2_with fail
              go_quiet ((go_at_call 39; with_reducible exact quiet_left (HL1.out _)))
              have hlen6 : out.length < 1000000 := by
                have : i * 12 ≤ 12 * 12 := Nat.mul_le_mul_right 12 (by omega)
                omega
              have HX := hide (show ∀ (q : Nat) (w' : World), Below bO (wr.drewN q) w' → Below w.heap.size w w' ∧ bO ≤ w'.heap.size ∧ _ from fun q w' hb' => ⟨(below_drewN Hb.out _).trans (hb'.mono hs2), Nat.le_trans hbs hb'.size, Hown.out.after (w' := w') (w1 := wr.drewN q) rfl hb' hgw HL.out hij hiE hjE (E[i] - cv) (E[j] + cv)⟩)
              clear ci cj
              go_wp2_with (at_builtin; refine wpList_app_Mo rfl _ _ 26 rfl Try.underlying26 bO _ out rfl Hmo.out ⟨(i : Int), (j : Int), cv⟩ _ rfl hbs hlen6 ?_; intro v' w' hmo' hb'; obtain ⟨hb3, hbs2, o3, e1, f1, e2, f2⟩ := HX.out _ _ hb')
              refine ⟨⟨j + 1, movedE i j cv E, out ++ [⟨(i : Int), (j : Int), cv⟩], by omega, by go_num, hide (by rw [movedE_length]; exact HL.out), HAt2, HBd2, hide ?_, by simp; omega, hmo'.keep fun h hh _ => ?_, by rw [HM.out]; exact o3, by simp; exact hbs2, (hb3.setCell hgb _).setCell hgb _⟩, by simp [intOf]; omega⟩
              · rw [List.append_assoc, List.singleton_append, ← HMv.out]; exact HOut.out
              · rw [Below.heap_setCell _ _ _ _ (by simp; omega), Below.heap_setCell _ _ _ _ (by simp; omega)]
            · have HAt2 := hide (at_skip HAt.out hiE hjE (fun h => h2 h.2))
              go_wp2_with fail
              go_roundw
              case rel => exact ⟨j + 1, E, out, by omega, by go_num, HL, HAt2, HBd, HOut, by omega, Hmo.out, Hown.out, hbs, Hb.out⟩
              case measure => simp [intOf]; omega
          · have HAt2 := hide (at_skip HAt.out hiE hjE (fun h => h1 h.1))
            go_wp2_with fail
            go_roundw
            case rel => exact ⟨j + 1, E, out, by omega, by go_num, HL, HAt2, HBd, HOut, by omega, Hmo.out, Hown.out, hbs, Hb.out⟩
            case measure => simp [intOf]; omega
        · have HAt2 := hide (at_next HAt.out (by rw [HL.out]; exact hlt) (by rw [HL.out]; exact hjl))
          have Hmo := hide hmo
          have Hown := hide hown
          clear hmo hown
          go_wp2_with fail
          go_roundw
          case rel => exact ⟨i + 1, E, out, by omega, by go_num, HL, HAt2, HBd, HOut, by omega, Hmo.out, Hown.out, hbs, hb⟩
          case measure => simp [intOf]; omega
    · have HE := hide (show out = moves E0 from by have h := HOut.out; rw [at_end HAt.out (by rw [HL.out]; exact hlt)] at h; simpa using h)
      obtain ⟨A', c', hv⟩ := hmo.shape
      subst hv
      go_wp2_with fail
      go_ret2
      exact ⟨A', c', by rw [← HE.out]; rfl, by rw [← HE.out]; exact hmo.less (by omega), hb⟩
end Go.Proofs.Ytediapekgbekeaa
