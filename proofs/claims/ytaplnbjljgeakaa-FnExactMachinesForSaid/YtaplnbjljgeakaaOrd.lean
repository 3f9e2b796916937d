
/-
  ORDERS OF JOBS, THE MODEL's WAY: l1Own of whatever list, ldOrder.
-/
import Derived.Test.YtaplnbjljgeakaaOrdP
import Derived.Test.YtaplnbjljgeakaaLd
import Derived.Test.YtaplnbjljgeakaaCopy
import Derived.Test.YtaplnbjljgeakaaApp
import Derived.Laws.AppendOwnNone
namespace Go.Proofs.Ytaplnbjljgeakaa
open Go.RowKit Go.Deep
set_option linter.unusedVariables false

section
variable {P : Program}
theorem wpList_app_none {wr : World} {ops : Array Oper} {rest : List Oper} {o : Oper} {a : Act} {Q : Exit → Act → World → Prop} (hgd : o.guard = none) (s x : Operand) (t e : TypeId)
    (ho : o.op = .call { callee := .builtin .append, args := #[s, x], argTypes := #[t, t] }) (ht : P.underlying t = some (.slice e))
    (hinfo : (P.info? e).map (fun i => (i.zero, i.size, i.bytes)) = some (some (.int .i64 0), 1, 8))
    (base : Nat) (v : Value) (zs : List Int) (hs : a.eval s = v) (hown : Own wr base e v zs) (hx : a.eval x = .slice none 0 0)
    (h : wpList P ops Q rest (a.put o.dst v) wr) : wpList P ops Q (o :: rest) a wr := by
  obtain ⟨i0, hi, hz0, hz1, hz2⟩ := info_parts hinfo
  exact wpList_append_own_none hgd s x t ho base e i0 1 ht hi v zs.length (zs.map (Value.int .i64)) hs hown hx h
end

/-- What a call gives: a list of its own. -/
def OwnR (zs : List Int) (w : World) (e : Ending) (w' : World) : Prop := ∃ v, e = .returned v ∧ Own w' w.heap.size 3 v zs ∧ Below w.heap.size w w'
theorem own_empty (w : World) (t : TypeId) : Own (w.alloc (.cells #[] t)) w.heap.size t (.slice (some ⟨w.heap.size, 0, none⟩) 0 0) [] := by
  have := World.ownsRow_lit (e := t) (size := 1) w #[] 0 (Nat.le_refl _) (Nat.zero_le _) (by simp)
  unfold Own
  exact this

/-- The model's l1Own, of whatever list. -/
theorem l1Own_all (A : Option Addr) (n c B : Nat) (zs : List Int) (w : World) (hr : Ints w B A n zs) (hB : B ≤ w.heap.size) (hn : n < 1000000) (hA : A = none → n = 0 ∧ c = 0) :
    Calls Try.prog 16 #[.slice A n c] w (OwnR zs w) := by
  have ho := own_empty w 3
  have hb : Below w.heap.size w (w.alloc (.cells #[] 3)) := (Below.refl _ _).alloc (Nat.le_refl _) _
  cases A with
  | none =>
    obtain ⟨rfl, rfl⟩ := hA rfl
    obtain rfl : zs = [] := List.eq_nil_of_length_eq_zero hr.len
    go_enter Try.func16, Try.ntmps16
    go_wp2_with (at_builtin; refine wpList_app_none rfl _ _ 22 3 rfl Try.underlying22 infoInt w.heap.size _ [] rfl ho rfl ?_)
    go_ret
    exact ⟨_, rfl, ho, hb⟩
  | some ad =>
    go_enter Try.func16, Try.ntmps16
    go_wp2_with (at_builtin; refine wpList_app_ints rfl _ _ 22 3 rfl Try.underlying22 infoInt w.heap.size _ [] rfl ho ad n c B zs rfl (hr.alloc hB _) (by simp) (by simp; omega) ?_; intro v' w' hown' hb')
    go_ret
    exact ⟨_, rfl, hown', hb.trans hb'⟩

theorem own_get {w : World} {base n c : Nat} {e : TypeId} {A : Option Addr} {zs : List Int} (h : Own w base e (.slice A n c) zs) {k : Nat} (hk : k < zs.length) : ∃ g, A = some ⟨g, 0, none⟩ ∧ w.cell? ⟨g, k, none⟩ = some (.int .i64 (zs.getD k 0)) := by
  obtain ⟨g, rfl, _, _⟩ := h.head (by omega)
  obtain ⟨ad, had, _, hc⟩ := h.ints.at_ hk
  obtain rfl : (⟨g, 0, none⟩ : Addr) = ad := by injection had
  rw [add_head] at hc
  exact ⟨g, rfl, hc⟩

theorem ordStep (b : Bool) (zs : List Int) (i : Nat) {os : List Int} (h : ordS b zs i = os) {k : Nat} (hk : ordPos b zs os (zs.getD i 0) = k) : ordS b zs (i + 1) = os.take k ++ [(i : Int)] ++ os.drop k := by
  rw [ordS, h, hk]; rfl

set_option maxRecDepth 100000 in
set_option maxHeartbeats 2000000 in
/-- The model's ldOrder. -/
theorem ldOrder_any (b : Bool) (A : Option Addr) (n c B : Nat) (zs : List Int) (w : World) (hr : Ints w B A n zs) (hB : B ≤ w.heap.size) (hn : n ≤ 9) :
    Calls Try.prog 11 #[.slice A n c, .bool b] w (OwnR (ordA b zs) w) := by
  obtain rfl := hr.len
  have HL := hide (ordS_length b zs)
  have HG := hide (ordS_get b zs)
  have HE := hide (show ordA b zs = ordS b zs zs.length from rfl)
  go_enter Try.func11, Try.ntmps11
  go_wp2_with fail
  go_loopw [5, 12] (fun v i wr => ∃ q : Nat, q ≤ zs.length ∧ i = .int .i64 q ∧ Own wr w.heap.size 3 v (ordS b zs q) ∧ Below w.heap.size w wr)
    (fun _ i _ => zs.length - (intOf i).toNat)
  case atStart => exact ⟨0, Nat.zero_le _, rfl, Own.nil _ _ _, Below.refl _ _⟩
  case round =>
    obtain ⟨q, hq, rfl, hown, hb⟩ := hrel
    by_cases hlt : q < zs.length
    · obtain ⟨ad, rfl, hab, hcell⟩ := (hr.below hb hB).at_ hlt
      have hx : zs.getD q 0 = zs[q] := getD_at hlt
      rw [hx] at hcell
      have HST := hide (fun os (h : ordS b zs q = os) k (hk : ordPos b zs os zs[q] = k) => ordStep b zs q h (k := k) (by rw [hx]; exact hk))
      have HGQ := hide (HG.out q)
      have hol := HL.out q
      obtain ⟨os, hos⟩ : ∃ os, ordS b zs q = os := ⟨_, rfl⟩
      rw [hos] at hown hol HGQ
      have HOS := hide hos
      have HR := hide (fun k (hk : k < zs.length) => (hr.below hb hB).at_ hk)
      clear hos hx
      generalize zs[q] = x at *
      obtain ⟨Ao, co, rfl, hoc, hocm⟩ := hown.shape
      have HO := hide hown
      have HQB := hide hb
      have hsz := hb.size
      have hq9 : os.length ≤ 8 := by omega
      have HOL := hide hol
      clear hol
      unfold maxLen at hocm
      clear hown hb
      go_wp2_with fail
      go_loop [8] (fun kv => ∃ k : Nat, k ≤ os.length ∧ kv = .int .i64 k ∧ (b = true → ordK zs os x k = ordK zs os x os.length) ∧ (b = false → k = os.length))
        (fun kv => (intOf kv).toNat)
      case atStart => exact ⟨os.length, Nat.le_refl _, rfl, fun _ => rfl, fun _ => rfl⟩
      case round =>
        obtain ⟨k, hk, rfl, hk1, hk2⟩ := hrel
        have HK1 := hide hk1
        have HK2 := hide hk2
        clear hk1 hk2
        by_cases hcont : b = true ∧ ∃ j, k = j + 1 ∧ zs.getD (os.getD j 0).toNat 0 < x
        · obtain ⟨rfl, j, rfl, hlx⟩ := hcont
          obtain ⟨jb, hjb, hjq⟩ := HGQ.out j (by have := HOL.out; omega)
          rw [hjb] at hlx
          have HY := hide (ordK_yes (zs := zs) (os := os) (n := x) (k := j) (by rw [hjb]; exact hlx))
          obtain ⟨g, rfl, hcg⟩ := own_get HO.out (k := j) (by omega)
          rw [hjb] at hcg
          obtain ⟨ad', had, _, hcz⟩ := HR.out jb (by omega)
          obtain rfl : ad = ad' := by injection had
          clear had hjb
          rw [Int.toNat_natCast] at hlx
          have e1 : ((j + 1 : Nat) : Int) - 1 = (j : Int) := by omega
          have e2 : (0 : Int) < ((j + 1 : Nat) : Int) := by omega
          generalize zs.getD jb 0 = z at *
          go_wp2_with fail
          go_round
          case rel => exact ⟨j, by omega, by go_num, fun _ => HY.out ▸ HK1.out rfl, fun h => by cases h⟩
          case measure => simp [intOf]
        · have hpos : ordPos b zs os x = k := by
            unfold ordPos
            cases hb : b
            · simp only [Bool.false_eq_true, if_false]; exact (HK2.out hb).symm
            · simp only [if_true]
              rw [← HK1.out hb]
              cases k with
              | zero => rfl
              | succ j => exact ordK_no (fun h => hcont ⟨hb, j, rfl, h⟩)
          have HX := hide (HST.out os HOS.out k hpos)
          have HFIN := hide (fun (v : Value) (W : World) (h : Own W w.heap.size 3 v ((os.take k ++ [(q : Int)]) ++ os.drop k)) => (HX.out ▸ h : Own W w.heap.size 3 v (ordS b zs (q + 1))))
          have HTK := hide (HO.out.ints.takeAt (i := k) hk)
          clear hpos HST HK1 HK2 HG HL
          have hkz : (k : Int) ≤ (co : Int) := by omega
          have hlt4 : (os.take k).length < 1000000 := by rw [List.length_take]; omega
          have hlt5 : (os.take k ++ [(q : Int)]).length + (os.length - k) < 1000000 := by rw [List.length_append, List.length_take, List.length_singleton]; omega
          have HFRM := hide HO.out.form
          rcases HFRM.out with ⟨hv, hnil⟩ | ⟨g, c', hv, hgb, hgl, _, _⟩
          · subst hnil
            injection hv with hv1 hv2 hv3
            subst hv1 hv3
            obtain rfl : k = 0 := by simpa using hk
            have HLO := hide (l1Own_all none 0 0 wr.heap.size [] wr Ints.none_ (Nat.le_refl _) (by omega) (fun _ => ⟨rfl, rfl⟩))
            have HL0 := hide (show ([] : List Int).length < 1000000 from by simp)
            clear hcont hv2 hlt4 hlt5 HTK
            cases b
            · go_wp2_with fail
              refine HLO.out.mono ?_
              rintro e w1 ⟨v1, rfl, hown1, hb1⟩
              have s1 := hb1.size
              go_wp2_with (first
                | (at_builtin; refine wpList_app_int rfl _ _ 22 3 rfl Try.underlying22 infoInt wr.heap.size _ [] rfl hown1 _ _ rfl s1 HL0.out ?_; intro v2 w2 hown2 hb2; have s2 := hb2.size; have hb12 := HQB.out.trans ((hb1.trans hb2).mono hsz); have hwd := hown2.less hsz)
                | (at_builtin; refine wpList_app_none rfl _ _ 22 3 rfl Try.underlying22 infoInt w.heap.size _ _ rfl hwd rfl ?_))
              go_roundw
              case rel => exact ⟨q + 1, by omega, by go_num, HFIN.out _ _ (by simpa using hwd), hb12⟩
              case measure => simp [intOf]; omega
            · go_wp2_with fail
              refine HLO.out.mono ?_
              rintro e w1 ⟨v1, rfl, hown1, hb1⟩
              have s1 := hb1.size
              go_wp2_with (first
                | (at_builtin; refine wpList_app_int rfl _ _ 22 3 rfl Try.underlying22 infoInt wr.heap.size _ [] rfl hown1 _ _ rfl s1 HL0.out ?_; intro v2 w2 hown2 hb2; have s2 := hb2.size; have hb12 := HQB.out.trans ((hb1.trans hb2).mono hsz); have hwd := hown2.less hsz)
                | (at_builtin; refine wpList_app_none rfl _ _ 22 3 rfl Try.underlying22 infoInt w.heap.size _ _ rfl hwd rfl ?_))
              go_roundw
              case rel => exact ⟨q + 1, by omega, by go_num, HFIN.out _ _ (by simpa using hwd), hb12⟩
              case measure => simp [intOf]; omega
          · injection hv with hv1 hv2 hv3
            subst hv1
            clear hv2 hv3
            have HLO := hide (l1Own_all (some ⟨g, 0, none⟩) k co wr.heap.size (os.take k) wr HTK.out (Nat.le_refl _) (by omega) (fun h => by cases h))
            have hdec : (b = false) ∨ (b = true ∧ k = 0) ∨ (b = true ∧ ∃ j jb : Nat, k = j + 1 ∧ os.getD j 0 = (jb : Int) ∧ jb < zs.length ∧ ¬ zs.getD jb 0 < x) := by
              cases b with
              | false => exact .inl rfl
              | true =>
                cases k with
                | zero => exact .inr (.inl ⟨rfl, rfl⟩)
                | succ j =>
                  obtain ⟨jb, hjb, hjq⟩ := HGQ.out j (by have := HOL.out; omega)
                  exact .inr (.inr ⟨rfl, j, jb, rfl, hjb, by omega, fun h => hcont ⟨rfl, j, rfl, by rw [hjb]; exact h⟩⟩)
            clear hcont HGQ
            by_cases hkc : k = co
            · subst hkc
              have HD : Hid (Ints wr wr.heap.size (some (⟨g, 0, none⟩ : Addr)) (os.length - k) (os.drop k)) := hide ⟨by rw [List.length_drop], fun h => absurd h (by omega)⟩
              have HD0 : Hid (Ints wr wr.heap.size (some (⟨g, 0, none⟩ : Addr)) 0 (os.drop k)) := hide ⟨by rw [List.length_drop]; omega, fun h => absurd h (by omega)⟩
              have hlt6 : (os.take k ++ [(q : Int)]).length + 0 < 1000000 := by rw [List.length_append, List.length_take, List.length_singleton]; omega
              rcases hdec with rfl | ⟨rfl, hk0⟩ | ⟨rfl, j, jb, hkj, hjb, hjz, hnx⟩
              · go_wp2_with fail
                refine HLO.out.mono ?_
                rintro e w1 ⟨v1, rfl, hown1, hb1⟩
                have s1 := hb1.size
                go_wp2_with (first
                  | (at_builtin; refine wpList_app_int rfl _ _ 22 3 rfl Try.underlying22 infoInt wr.heap.size _ _ rfl hown1 _ _ rfl s1 hlt4 ?_; intro v2 w2 hown2 hb2; have s2 := hb2.size; have hb12 := HQB.out.trans ((hb1.trans hb2).mono hsz); have hwd := hown2.less hsz; have HD2 := hide ((HD.out.below hb1 (Nat.le_refl _)).below hb2 (Nat.le_refl _)); have HD3 := hide ((HD0.out.below hb1 (Nat.le_refl _)).below hb2 (Nat.le_refl _)))
                  | (at_builtin; refine wpList_app_ints rfl _ _ 22 3 rfl Try.underlying22 infoInt w.heap.size _ _ rfl hwd _ _ _ _ _ rfl HD2.out (by omega) hlt5 ?_; intro v3 w3 hown3 hb3)
                  | (at_builtin; refine wpList_app_ints rfl _ _ 22 3 rfl Try.underlying22 infoInt w.heap.size _ _ rfl hwd _ _ _ _ _ rfl HD3.out (by omega) hlt6 ?_; intro v3 w3 hown3 hb3))
                go_roundw
                case rel => exact ⟨q + 1, by omega, by go_num, HFIN.out _ _ hown3, hb12.trans hb3⟩
                case measure => simp [intOf]; omega
              · subst hk0
                go_wp2_with fail
                refine HLO.out.mono ?_
                rintro e w1 ⟨v1, rfl, hown1, hb1⟩
                have s1 := hb1.size
                go_wp2_with (first
                  | (at_builtin; refine wpList_app_int rfl _ _ 22 3 rfl Try.underlying22 infoInt wr.heap.size _ _ rfl hown1 _ _ rfl s1 hlt4 ?_; intro v2 w2 hown2 hb2; have s2 := hb2.size; have hb12 := HQB.out.trans ((hb1.trans hb2).mono hsz); have hwd := hown2.less hsz; have HD2 := hide ((HD.out.below hb1 (Nat.le_refl _)).below hb2 (Nat.le_refl _)); have HD3 := hide ((HD0.out.below hb1 (Nat.le_refl _)).below hb2 (Nat.le_refl _)))
                  | (at_builtin; refine wpList_app_ints rfl _ _ 22 3 rfl Try.underlying22 infoInt w.heap.size _ _ rfl hwd _ _ _ _ _ rfl HD2.out (by omega) hlt5 ?_; intro v3 w3 hown3 hb3)
                  | (at_builtin; refine wpList_app_ints rfl _ _ 22 3 rfl Try.underlying22 infoInt w.heap.size _ _ rfl hwd _ _ _ _ _ rfl HD3.out (by omega) hlt6 ?_; intro v3 w3 hown3 hb3))
                go_roundw
                case rel => exact ⟨q + 1, by omega, by go_num, HFIN.out _ _ hown3, hb12.trans hb3⟩
                case measure => simp [intOf]; omega
              · subst hkj
                obtain ⟨g', hg', hcg⟩ := own_get HO.out (k := j) (by omega)
                obtain rfl : g = g' := by injection hg' with hg'; injection hg'
                clear hg'
                rw [hjb] at hcg
                obtain ⟨ad', had, _, hcz⟩ := HR.out jb hjz
                obtain rfl : ad = ad' := by injection had
                clear had hjb
                have e1 : ((j + 1 : Nat) : Int) - 1 = (j : Int) := by omega
                have e2 : (0 : Int) < ((j + 1 : Nat) : Int) := by omega
                generalize zs.getD jb 0 = z at *
                go_wp2_with fail
                refine HLO.out.mono ?_
                rintro e w1 ⟨v1, rfl, hown1, hb1⟩
                have s1 := hb1.size
                go_wp2_with (first
                  | (at_builtin; refine wpList_app_int rfl _ _ 22 3 rfl Try.underlying22 infoInt wr.heap.size _ _ rfl hown1 _ _ rfl s1 hlt4 ?_; intro v2 w2 hown2 hb2; have s2 := hb2.size; have hb12 := HQB.out.trans ((hb1.trans hb2).mono hsz); have hwd := hown2.less hsz; have HD2 := hide ((HD.out.below hb1 (Nat.le_refl _)).below hb2 (Nat.le_refl _)); have HD3 := hide ((HD0.out.below hb1 (Nat.le_refl _)).below hb2 (Nat.le_refl _)))
                  | (at_builtin; refine wpList_app_ints rfl _ _ 22 3 rfl Try.underlying22 infoInt w.heap.size _ _ rfl hwd _ _ _ _ _ rfl HD2.out (by omega) hlt5 ?_; intro v3 w3 hown3 hb3)
                  | (at_builtin; refine wpList_app_ints rfl _ _ 22 3 rfl Try.underlying22 infoInt w.heap.size _ _ rfl hwd _ _ _ _ _ rfl HD3.out (by omega) hlt6 ?_; intro v3 w3 hown3 hb3))
                go_roundw
                case rel => exact ⟨q + 1, by omega, by go_num, HFIN.out _ _ hown3, hb12.trans hb3⟩
                case measure => simp [intOf]; omega
            · have HD : Hid (Ints wr wr.heap.size (some (⟨g, k, none⟩ : Addr)) (os.length - k) (os.drop k)) := hide (by have := HO.out.ints.dropAt (i := k) hk; rw [add_head] at this; exact this)
              rcases hdec with rfl | ⟨rfl, hk0⟩ | ⟨rfl, j, jb, hkj, hjb, hjz, hnx⟩
              · go_wp2_with fail
                refine HLO.out.mono ?_
                rintro e w1 ⟨v1, rfl, hown1, hb1⟩
                have s1 := hb1.size
                go_wp2_with (first
                  | (at_builtin; refine wpList_app_int rfl _ _ 22 3 rfl Try.underlying22 infoInt wr.heap.size _ _ rfl hown1 _ _ rfl s1 hlt4 ?_; intro v2 w2 hown2 hb2; have s2 := hb2.size; have hb12 := HQB.out.trans ((hb1.trans hb2).mono hsz); have hwd := hown2.less hsz; have HD2 := hide ((HD.out.below hb1 (Nat.le_refl _)).below hb2 (Nat.le_refl _)))
                  | (at_builtin; refine wpList_app_ints rfl _ _ 22 3 rfl Try.underlying22 infoInt w.heap.size _ _ rfl hwd _ _ _ _ _ rfl HD2.out (by omega) hlt5 ?_; intro v3 w3 hown3 hb3))
                go_roundw
                case rel => exact ⟨q + 1, by omega, by go_num, HFIN.out _ _ hown3, hb12.trans hb3⟩
                case measure => simp [intOf]; omega
              · subst hk0
                go_wp2_with fail
                refine HLO.out.mono ?_
                rintro e w1 ⟨v1, rfl, hown1, hb1⟩
                have s1 := hb1.size
                go_wp2_with (first
                  | (at_builtin; refine wpList_app_int rfl _ _ 22 3 rfl Try.underlying22 infoInt wr.heap.size _ _ rfl hown1 _ _ rfl s1 hlt4 ?_; intro v2 w2 hown2 hb2; have s2 := hb2.size; have hb12 := HQB.out.trans ((hb1.trans hb2).mono hsz); have hwd := hown2.less hsz; have HD2 := hide ((HD.out.below hb1 (Nat.le_refl _)).below hb2 (Nat.le_refl _)))
                  | (at_builtin; refine wpList_app_ints rfl _ _ 22 3 rfl Try.underlying22 infoInt w.heap.size _ _ rfl hwd _ _ _ _ _ rfl HD2.out (by omega) hlt5 ?_; intro v3 w3 hown3 hb3))
                go_roundw
                case rel => exact ⟨q + 1, by omega, by go_num, HFIN.out _ _ hown3, hb12.trans hb3⟩
                case measure => simp [intOf]; omega
              · subst hkj
                obtain ⟨g', hg', hcg⟩ := own_get HO.out (k := j) (by omega)
                obtain rfl : g = g' := by injection hg' with hg'; injection hg'
                clear hg'
                rw [hjb] at hcg
                obtain ⟨ad', had, _, hcz⟩ := HR.out jb hjz
                obtain rfl : ad = ad' := by injection had
                clear had hjb
                have e1 : ((j + 1 : Nat) : Int) - 1 = (j : Int) := by omega
                have e2 : (0 : Int) < ((j + 1 : Nat) : Int) := by omega
                generalize zs.getD jb 0 = z at *
                go_wp2_with fail
                refine HLO.out.mono ?_
                rintro e w1 ⟨v1, rfl, hown1, hb1⟩
                have s1 := hb1.size
                go_wp2_with (first
                  | (at_builtin; refine wpList_app_int rfl _ _ 22 3 rfl Try.underlying22 infoInt wr.heap.size _ _ rfl hown1 _ _ rfl s1 hlt4 ?_; intro v2 w2 hown2 hb2; have s2 := hb2.size; have hb12 := HQB.out.trans ((hb1.trans hb2).mono hsz); have hwd := hown2.less hsz; have HD2 := hide ((HD.out.below hb1 (Nat.le_refl _)).below hb2 (Nat.le_refl _)))
                  | (at_builtin; refine wpList_app_ints rfl _ _ 22 3 rfl Try.underlying22 infoInt w.heap.size _ _ rfl hwd _ _ _ _ _ rfl HD2.out (by omega) hlt5 ?_; intro v3 w3 hown3 hb3))
                go_roundw
                case rel => exact ⟨q + 1, by omega, by go_num, HFIN.out _ _ hown3, hb12.trans hb3⟩
                case measure => simp [intOf]; omega
    · obtain rfl : q = zs.length := by omega
      go_wp2_with fail
      go_ret
      rw [HE.out]
      exact ⟨_, rfl, hown, hb⟩
end Go.Proofs.Ytaplnbjljgeakaa
