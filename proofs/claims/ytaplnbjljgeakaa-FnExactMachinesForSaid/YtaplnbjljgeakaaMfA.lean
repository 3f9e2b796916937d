
/-
  FEWEST MACHINES, THE MODEL's WAY: ldFits.
-/
import Derived.Test.YtaplnbjljgeakaaMfP
import Derived.Test.YtaplnbjljgeakaaCopy
import Derived.Test.YtaplnbjljgeakaaHas
import Derived.Test.YtaplnbjljgeakaaMark
import Derived.Test.YtaplnbjljgeakaaApp
namespace Go.Proofs.Ytaplnbjljgeakaa
open Go.RowKit Go.Deep
set_option linter.unusedVariables false

/-- A yes or no to a question. -/
def Tells (p : Prop) (w : World) (e : Ending) (w' : World) : Prop := ∃ b : Bool, e = .returned (.bool b) ∧ (b = true ↔ p) ∧ Below w.heap.size w w'
theorem Ints.headAt {w : World} {B n : Nat} {ad : Addr} {zs : List Int} (h : Ints w B (some ad) n zs) (hn : 0 < n) : w.cell? ad = some (.int .i64 (zs.getD 0 0)) := by
  obtain ⟨ad', e, _, hc⟩ := h.at_ hn
  injection e with e
  subst e
  rwa [show ad.add 0 = ad from by unfold Addr.add; simp] at hc

set_option maxRecDepth 100000 in
set_option maxHeartbeats 4000000 in
theorem ldFits_any : ∀ (J l : List Int) (n k : Nat) (Aj Al : Option Addr) (cj cl : Nat) (W : World), Ints W W.heap.size Aj n J → n ≤ cj → cj ≤ maxLen → Ints W W.heap.size Al k l → k ≤ cl → cl ≤ maxLen → n ≤ 9 → k ≤ 9 →
    (∀ x ∈ J, 1 ≤ x ∧ x ≤ 1000) → (∀ i, i < l.length → 0 ≤ l.getD i 0 ∧ l.getD i 0 ≤ 10000) →
    Calls Try.prog 12 #[.slice Aj n cj, .slice Al k cl] W (Tells (Can J l) W) := by
  intro J
  induction J with
  | nil =>
    intro l n k Aj Al cj cl W hJ hcj hcjm hl hcl hclm hn9 hk9 hJr hlr
    obtain rfl : 0 = n := hJ.len
    go_enter Try.func12, Try.ntmps12
    go_wp2_with fail
    go_ret
    exact ⟨true, rfl, by simp [Can], Below.refl _ _⟩
  | cons j J ih =>
    intro l n k Aj Al cj cl W hJ hcj hcjm hl hcl hclm hn9 hk9 hJr hlr
    obtain ⟨m, rfl⟩ : ∃ m, n = m + 1 := ⟨n - 1, by have := hJ.len; simp at this; omega⟩
    obtain rfl := hl.len
    have hjb := hJr j (by simp)
    have HJR := hide (fun x hx => hJr x (List.mem_cons_of_mem j hx))
    have HLR := hide hlr
    have HF := hide (fun (h : Can (j :: J) l) => Can.first h)
    have HC := hide (fun i (h1 : i < l.length) (h2 : j ≤ l.getD i 0) (h3 : Can J (l.set i (l.getD i 0 - j))) => (show Can (j :: J) l from ⟨i, h1, h2, h3⟩))
    have HL := hide hl
    have HJ := hide hJ
    obtain ⟨adj, rfl, _, _⟩ := hJ.at_ (k := 0) (by omega)
    have HD := hide (hJ.dropAt (i := 1) (by omega))
    have hne : (((m : Int) + 1) == 0) = false := by simp; omega
    unfold maxLen at hcjm hclm
    clear hJr hlr hl hJ
    have hcap : cj = 1 ∨ ¬ cj = 1 := by omega
    have hDD : ∃ A1, (if cj = 1 then some adj else some (adj.add 1)) = A1 ∧ Hid (Ints W W.heap.size A1 m J) := by
      refine ⟨_, rfl, ?_⟩
      split
      · obtain rfl : m = 0 := by omega
        have := HD.out.len
        simp at this
        rw [this]
        exact hide Ints.none_
      · exact hide HD.out
    obtain ⟨A1, hA1, HD1⟩ := hDD
    clear HD
    go_enter Try.func12, Try.ntmps12
    go_wp2_with fail
    go_loopw [13] (fun iv wr => ∃ i : Nat, i ≤ l.length ∧ iv = .int .i64 i ∧ Hid (∀ q, q < i → q < l.length → j ≤ l.getD q 0 → l.getD q 0 ∉ l.take q → ¬ Can J (l.set q (l.getD q 0 - j))) ∧ Hid (Below W.heap.size W wr))
      (fun iv _ => l.length - (intOf iv).toNat)
    case atStart => exact ⟨0, Nat.zero_le _, rfl, hide (fun q hq => absurd hq (by omega)), hide (Below.refl _ _)⟩
    case round =>
      obtain ⟨i, hi, rfl, HN, HB⟩ := hrel
      by_cases hil : i < l.length
      · have HLW := hide (HL.out.next HB.out)
        have HJW := hide (HJ.out.next HB.out)
        have HDW := hide (HD1.out.next HB.out)
        obtain ⟨ad, rfl, hadl, celli⟩ := HLW.out.at_ hil
        have cellj := HJW.out.headAt (by omega)
        have cellj2 : wr.cell? (adj.add 0) = some (.int .i64 j) := by
          rw [show adj.add 0 = adj from by unfold Addr.add; simp]; exact cellj
        rw [show (j :: J).getD 0 0 = j from rfl] at cellj
        have hrb := HLR.out i hil
        have HSTEP := hide (fun (h : j ≤ l.getD i 0 → l.getD i 0 ∉ l.take i → ¬ Can J (l.set i (l.getD i 0 - j))) => (show ∀ q, q < i + 1 → q < l.length → j ≤ l.getD q 0 → l.getD q 0 ∉ l.take q → ¬ Can J (l.set q (l.getD q 0 - j)) from fun q hq hql h1 h2 => by
          by_cases e : q = i
          · subst e; exact h h1 h2
          · exact HN.out q (by omega) hql h1 h2))
        have HHAS := hide (l1Has_in (some ad) i cl wr.heap.size (l.take i) (l.getD i 0) wr (HLW.out.takeAt (by omega)) (by omega))
        have HCI := hide (HC.out i hil)
        have HOWN := hide (l1Own_any (some ad) l.length cl wr.heap.size l wr HLW.out (Nat.le_refl _) (by omega) (by omega))
        have HSETR := hide (fun (h : j ≤ l.getD i 0) => (show ∀ q, q < (l.set i (l.getD i 0 - j)).length → 0 ≤ (l.set i (l.getD i 0 - j)).getD q 0 ∧ (l.set i (l.getD i 0 - j)).getD q 0 ≤ 10000 from fun q hq => by
          rw [List.length_set] at hq
          have := HLR.out q hq
          by_cases e : i = q
          · subst e
            simp only [List.getD, List.getElem?_set_self hil]
            show 0 ≤ l.getD i 0 - j ∧ l.getD i 0 - j ≤ 10000
            omega
          · simp only [List.getD, List.getElem?_set_ne e]
            exact this))
        have HSL := hide (show (l.set i (l.getD i 0 - j)).length = l.length from List.length_set)
        have HGI := hide (show l.getD i 0 = l[i] from by simp [List.getD, hil])
        by_cases h1 : l.getD i 0 < j
        · have HNX := HSTEP.out (fun h => absurd h (by omega))
          have HNX := hide HNX
          clear HHAS HCI HOWN HSETR
          generalize l.getD i 0 = r at *
          go_wp2_with fail
          go_roundw
          case rel => exact ⟨i + 1, by omega, by go_num, HNX, HB⟩
          case measure => simp [intOf]; omega
        · by_cases h2 : l.getD i 0 ∈ l.take i
          · have HNX := hide (HSTEP.out (fun _ h => absurd h2 h))
            rw [inL_yes h2] at HHAS
            clear HCI HOWN HSETR h2
            generalize l.getD i 0 = r at *
            go_wp2_with fail
            refine HHAS.out.mono ?_; rintro e w' ⟨rfl, rfl⟩
            go_wp2_with fail
            go_roundw
            case rel => exact ⟨i + 1, by omega, by go_num, HNX, HB⟩
            case measure => simp [intOf]; omega
          · have HNX := hide (fun h => HSTEP.out (fun _ _ => h))
            have HYES := hide (HCI.out (by omega))
            have HSR := hide (HSETR.out (by omega))
            rw [inL_no h2] at HHAS
            clear HCI HSETR h2 HSTEP
            generalize hN : l.set i (l.getD i 0 - j) = N at *
            have HNN := hide hN
            clear hN
            generalize l.getD i 0 = r at *
            go_wp2_with fail
            refine HHAS.out.mono ?_; rintro e w' ⟨rfl, rfl⟩
            go_wp2_with fail
            refine HOWN.out.mono ?_
            rintro e w3 ⟨g, cg, rfl, hg1, hg2, hcg1, hcg2, hown, hb3⟩
            have hold := World.ownsRow.cellAt hown i (by omega)
            rw [List.getElem?_map, List.getElem?_eq_getElem hil, Option.map_some, ← HGI.out] at hold
            have hfz := World.ownsRow.frozenAt hown i
            have HJ3 := hide (HJW.out.next hb3)
            have cell3 := HJ3.out.headAt (by omega)
            rw [show (j :: J).getD 0 0 = j from rfl] at cell3
            have HO3 := hide hown
            have HB3 := hide hb3
            have hs3 := hb3.size
            clear hown hb3 cellj cellj2 celli
            go_wp2_with fail
            go_region
            have hb4 : Below wr.heap.size wr (w3.setCell ⟨g, i, none⟩ (.int .i64 (r - j))).drew := (HB3.out.setCell hg1 _).drew
            have HO4 := hide (show Own (w3.setCell ⟨g, i, none⟩ (.int .i64 (r - j))).drew wr.heap.size 3 (.slice (some ⟨g, 0, none⟩) l.length cg) N from by
              rw [← HNN.out]
              exact Own.stored HO3.out rfl i (r - j))
            have HD4 := hide (HDW.out.next hb4)
            have HB4 := hide hb4
            clear hb4 hold hfz cell3
            generalize (w3.setCell ⟨g, i, none⟩ (.int .i64 (r - j))).drew = w4 at *
            have hI4 := HO4.out.ints
            rw [HSL.out] at hI4
            have HIH := hide (ih N m l.length A1 (some ⟨g, 0, none⟩) (cj - 1) cg w4 HD4.out (by omega) (by unfold maxLen; omega) hI4 hcg1 hcg2 (by omega) hk9 HJR.out HSR.out)
            clear hI4
            have hmm : m + 1 - 1 = m := by omega
            rcases hcap with hcap | hcap
            · subst hcap
              rw [if_pos rfl] at hA1
              subst hA1
              go_wp2_with fail
              refine HIH.out.mono ?_
              rintro e w5 ⟨b, rfl, hbb, hb5⟩
              have HBB := hide hbb
              have HB5 := hide (HB.out.trans ((HB4.out.trans (hb5.mono HB4.out.size)).mono HB.out.size))
              clear hbb hb5
              cases b
              · have HNY := hide (HNX.out (fun h => by have := HBB.out.2 h; cases this))
                go_wp2_with fail
                go_roundw
                case rel => exact ⟨i + 1, by omega, by go_num, HNY, HB5⟩
                case measure => simp [intOf]; omega
              · go_wp2_with fail
                go_ret
                exact ⟨true, rfl, ⟨fun _ => HYES.out (HBB.out.1 (by trivial)), fun _ => by trivial⟩, HB5.out⟩
            · rw [if_neg hcap] at hA1
              subst hA1
              go_wp2_with fail
              refine HIH.out.mono ?_
              rintro e w5 ⟨b, rfl, hbb, hb5⟩
              have HBB := hide hbb
              have HB5 := hide (HB.out.trans ((HB4.out.trans (hb5.mono HB4.out.size)).mono HB.out.size))
              clear hbb hb5
              cases b
              · have HNY := hide (HNX.out (fun h => by have := HBB.out.2 h; cases this))
                go_wp2_with fail
                go_roundw
                case rel => exact ⟨i + 1, by omega, by go_num, HNY, HB5⟩
                case measure => simp [intOf]; omega
              · go_wp2_with fail
                go_ret
                exact ⟨true, rfl, ⟨fun _ => HYES.out (HBB.out.1 (by trivial)), fun _ => by trivial⟩, HB5.out⟩
      · have HNO := hide (fun (h : Can (j :: J) l) => by
          obtain ⟨q, h1, h2, h3, h4⟩ := HF.out h
          exact HN.out q (by omega) h1 h2 h3 h4)
        go_wp2_with fail
        go_ret
        exact ⟨false, rfl, by simp; exact fun h => HNO.out h, HB.out⟩
end Go.Proofs.Ytaplnbjljgeakaa
