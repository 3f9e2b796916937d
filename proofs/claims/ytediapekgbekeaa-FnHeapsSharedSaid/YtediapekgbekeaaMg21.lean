import Derived.Test.YtediapekgbekeaaMg20
import Derived.Test.YtediapekgbekeaaMg19
import Derived.Deep.QuietTactic
import Derived.BigQuiet

/-
  MOVES THAT MAKE HEAPS EQUAL, THE PROGRAM's WAY.
-/
namespace Go.Proofs.Ytediapekgbekeaa
open Go.RowKit Go.Deep
set_option linter.unusedVariables false

theorem implSharing_no (A : Option Addr) (n c B : Nat) (zs : List Int) (w : World) (hr : Ints w B A n zs) (hB : B ≤ w.heap.size) (hn : n ≤ 17592186044416) (hq : eqOk zs = false) :
    Calls Try.prog 6 #[.slice A n c] w (MadeRMo [] false w) := by
  have HP := hide (fun (W : World) (h1 : Ints W B A n zs) (h2 : B ≤ W.heap.size) => planFor_no A n c B zs W h1 h2 hn hq)
  clear hq
  go_enter Try.func6, Try.ntmps6
  go_wp2_with fail
  refine (HP.out _ hr hB).mono ?_
  rintro e w1 ⟨rfl, hb1⟩
  go_wp2_with fail
  go_ret2
  exact madeRMo_none (hb1.alloc hb1.size _)

def lenOf : Value → Nat
  | .slice _ n _ => n
  | _ => 0

theorem share_step {s : Int} {ys : List Int} (hs : 0 ≤ s) (hc : calm ys) (h0 : (exc s ys).sum = 0) (hp : hasPos (exc s ys) = true) :
    ∃ (i j : Nat) (c : Int), i < ys.length ∧ j < ys.length ∧ i ≠ j ∧ nextF s ys = (i : Int) ∧ nextT s ys = (j : Int) ∧ nextC s ys = c ∧ 1 ≤ c ∧ c ≤ 12000 ∧ calm (moved i j c ys) ∧ (exc s (moved i j c ys)).sum = 0 ∧
      moves (exc s ys) = ⟨(i : Int), (j : Int), c⟩ :: moves (exc s (moved i j c ys)) := by
  obtain ⟨hi, hj, h1, h2, hij⟩ := next_pair h0 hp
  obtain ⟨n1, n2, n3⟩ := next_yes h0 hp
  have hi' : fpos (exc s ys) < ys.length := by rw [← exc_length s]; exact hi
  have hj' : fneg (exc s ys) < ys.length := by rw [← exc_length s]; exact hj
  have ha := amount_pos h0 hp
  have hle : amount (exc s ys) ≤ ys[fpos (exc s ys)] := by
    rw [amount_eq hi hj, exc_get s ys _ hi']; omega
  have hz := calm_get hc _ hi'
  have hm := exc_moved (s := s) (amount (exc s ys)) hij hi' hj'
  refine ⟨fpos (exc s ys), fneg (exc s ys), amount (exc s ys), hi', hj', hij, n1, n2, n3, ha, by omega, calm_moved hc _ _ _ hij hi' hj' (by omega) hle, ?_, ?_⟩
  · rw [hm, movedE_sum hij hi hj]; exact h0
  · rw [hm]; exact moves_yes h0 hp

set_option maxRecDepth 1000000 in
theorem implSharing_yes (A : Option Addr) (n c B : Nat) (zs : List Int) (w : World) (hr : Ints w B A n zs) (hB : B ≤ w.heap.size) (hn : n ≤ 17592186044416) (hq : eqOk zs = true) :
    Calls Try.prog 6 #[.slice A n c] w (MadeRMo (moves (over zs)) true w) := by
  obtain rfl := hr.len
  have HP := hide (planFor_yes A zs.length c B zs w hr hB hn hq)
  have hg := eqOk_good hq
  have hle := (good_of hg).2.1
  have hle1 := (good_of hg).1
  have hcalm := calm_of_good hg
  have hs := shareEq_bd hq
  have h0 := over_sum hq
  rw [over_exc hq] at h0 ⊢
  clear hq hg
  unfold Planned at HP
  generalize hsv : shareEq zs = s at *
  clear hsv
  go_enter Try.func6, Try.ntmps6
  go_wp2_with fail
  refine HP.out.mono ?_
  rintro e w1 ⟨g, cg, rfl, hg1, hg2, hc1, hc2, hown1, hb1⟩
  clear HP
  have s1 := hb1.size
  go_wp2_with fail
  have hpl0 : PlanAt (w1.alloc (.cells #[.int .i64 (nextF s zs), .int .i64 (nextT s zs), .int .i64 (nextC s zs), .slice (some ⟨g, 0, none⟩) zs.length cg, .int .i64 s] 46)) w1.heap.size g zs.length cg (nextF s zs) (nextT s zs) (nextC s zs) s := ⟨by simp, by simp, by simp, by simp, by simp, by simp, by simp, by simp⟩
  have hz0 : w1.heap.size < (w1.alloc (.cells #[.int .i64 (nextF s zs), .int .i64 (nextT s zs), .int .i64 (nextC s zs), .slice (some ⟨g, 0, none⟩) zs.length cg, .int .i64 s] 46)).heap.size := by simp
  have own0 := hown1.alloc (.cells #[.int .i64 (nextF s zs), .int .i64 (nextT s zs), .int .i64 (nextC s zs), .slice (some ⟨g, 0, none⟩) zs.length cg, .int .i64 s] 46)
  have hb0 := hb1.alloc hb1.size (.cells #[.int .i64 (nextF s zs), .int .i64 (nextT s zs), .int .i64 (nextC s zs), .slice (some ⟨g, 0, none⟩) zs.length cg, .int .i64 s] 46)
  generalize (w1.alloc (.cells #[.int .i64 (nextF s zs), .int .i64 (nextT s zs), .int .i64 (nextC s zs), .slice (some ⟨g, 0, none⟩) zs.length cg, .int .i64 s] 46)) = W0 at *
  generalize hpb : w1.heap.size = p at *
  generalize hbO : W0.heap.size = bO at *
  have HBO := hide hbO
  clear hbO hpb hown1 hb1
  have HC0 := hide hcalm
  have HS0 := hide h0
  clear hcalm h0
  go_loopw [6] (fun v wr => ∃ (ys : List Int) (out : List Mo), Hid (ys.length = zs.length) ∧ Hid (calm ys) ∧ Hid ((exc s ys).sum = 0) ∧ Hid (out ++ moves (exc s ys) = moves (exc s zs)) ∧ Hid (PlanAt wr p g zs.length cg (nextF s ys) (nextT s ys) (nextC s ys) s) ∧
      Hid (OwnIMo wr bO v out.length (numsMo out)) ∧ Hid (Own wr w.heap.size 3 (.slice (some ⟨g, 0, none⟩) zs.length cg) ys) ∧ bO ≤ wr.heap.size ∧ Hid (Below w.heap.size w wr))
    (fun v _ => (moves (exc s zs)).length - lenOf v)
  case atStart => exact ⟨zs, [], hide rfl, HC0, HS0, hide rfl, hide hpl0, hide (OwnIMo.nil _ _), hide own0, by rw [HBO.out]; exact Nat.le_refl _, hide hb0⟩
  case round =>
    obtain ⟨ys, out, HL, HC, HS, HOut, HPl, Hmo, Hown, hbs, Hb⟩ := hrel
    cases hp : hasPos (exc s ys)
    · obtain ⟨n1, n2, n3⟩ := next_no hp
      have HE := hide (show out = moves (exc s zs) from by have h := HOut.out; rw [moves_no hp] at h; simpa using h)
      have hP := HPl.out
      rw [n1, n2, n3] at hP
      obtain ⟨a0, a1, a2, a3, a4, f0, f1, f2⟩ := hP
      have HD := hide (isDone_any 0 0 0 s (.slice (some ⟨g, 0, none⟩) zs.length cg) wr)
      clear n1 n2 n3 hp
      obtain ⟨A', c', hv⟩ := Hmo.out.shape
      subst hv
      go_wp2_with fail
      refine HD.out.mono ?_
      rintro e w5 ⟨rfl, hb5⟩
      go_wp2_with fail
      go_ret2
      exact ⟨A', c', by rw [← HE.out]; rfl, by rw [← HE.out]; exact (Hmo.out.below hb5).less (by omega), Hb.out.trans (hb5.mono Hb.out.size)⟩
    · obtain ⟨i, j, c0, hi, hj, hij, n1, n2, n3, hc3, hc4, hcm, hsm, hmv⟩ := share_step hs.1 HC.out HS.out hp
      obtain ⟨Av, cv, hv⟩ := Hmo.out.shape
      subst hv
      have hP := HPl.out
      rw [n1, n2, n3] at hP
      have hlen0 : out.length + 1 ≤ (moves (exc s zs)).length := by
        have h := congrArg List.length HOut.out
        rw [hmv, List.length_append, List.length_cons] at h
        omega
      have hlen1 := moves_len (exc s zs)
      rw [exc_length] at hlen1
      have hd : decide ((i : Int) = 0 ∧ (j : Int) = 0 ∧ c0 = 0) = false := by simp; omega
      have HD := hide (isDone_any i j c0 s (.slice (some ⟨g, 0, none⟩) zs.length cg) wr)
      rw [hd] at HD
      have HMv := hide (show (out ++ [(⟨(i : Int), (j : Int), c0⟩ : Mo)]) ++ moves (exc s (moved i j c0 ys)) = moves (exc s zs) from by rw [List.append_assoc, List.singleton_append, ← hmv]; exact HOut.out)
      have HML := hide (show (moved i j c0 ys).length = zs.length from by rw [moved_length]; exact HL.out)
      have HCm := hide hcm
      have HSm := hide hsm
      have hpwr : p < wr.heap.size := by omega
      have HA := hide (show ∀ w5 : World, Below wr.heap.size wr w5 → PlanAt w5 p g zs.length cg i j c0 s ∧ OwnIMo w5 bO (.slice Av out.length cv) out.length (numsMo out) ∧ ∀ w', Below bO w5 w' → bO ≤ w'.heap.size ∧ Below w.heap.size w w' ∧
          Calls Try.prog 36 #[.pointer (some ⟨p, 0, none⟩)] w' (Advanced w.heap.size p g zs.length cg (moved i j c0 ys) s w') from fun w5 h5 => by
        have p5 := hP.of_block (h5.block p hpwr)
        refine ⟨p5, Hmo.out.below h5, fun w' h => ?_⟩
        have z5 := h5.size
        have z6 := h.size
        refine ⟨by omega, (Hb.out.trans (h5.mono (by omega))).trans (h.mono (by omega)), ?_⟩
        have own' := Own.only (Own.below Hown.out h5) (h.block g (by omega))
        exact advance_any w.heap.size p g zs.length cg ys i j c0 s w' own' HL.out (by omega) (by rw [← HL.out]; exact hi) (by rw [← HL.out]; exact hj) hij HC.out (by omega) hc4 (by omega) (by omega) (p5.of_block (h.block p hz0))
          (fun k hk => ⟨(calm_get hcm k hk).1, by have := (calm_get hcm k hk).2; omega⟩) hs.1 (by omega) (by omega))
      obtain ⟨a0, a1, a2, a3, a4, f0, f1, f2⟩ := hP
      clear n1 n2 n3 hp hmv hcm hsm hd HPl HC HS HOut
      go_wp2_with fail
      refine HD.out.mono ?_
      rintro e w5 ⟨rfl, hb5⟩
      obtain ⟨hP5, hmo5, HX⟩ := HA.out w5 hb5
      obtain ⟨b0, b1, b2, b3, b4, f0', f1', f2'⟩ := hP5
      have HX := hide HX
      have hbs5 : bO ≤ w5.heap.size := Nat.le_trans hbs hb5.size
      clear a0 a1 a2 a3 a4 f0 f1 f2 HD
      have hlen6 : out.length < 1000000 := by omega
      go_wp2_with (at_builtin; refine wpList_app_Mo rfl _ _ 26 rfl Try.underlying26 bO _ out rfl hmo5 ⟨(i : Int), (j : Int), c0⟩ _ rfl hbs5 hlen6 ?_; intro v' w' hmo' hb'; obtain ⟨hb6, hbb6, HC6⟩ := HX.out _ hb')
      refine HC6.mono ?_
      rintro e w6 ⟨rfl, hpl6, own6, hb7, hoth6⟩
      obtain ⟨A', c', hv'⟩ := hmo'.shape
      subst hv'
      go_wp2_with fail
      refine ⟨⟨moved i j c0 ys, out ++ [⟨(i : Int), (j : Int), c0⟩], HML, HCm, HSm, HMv, hide hpl6, hide ?_, hide own6, Nat.le_trans hb6 hb7.size, hide (hbb6.trans hb7)⟩, ?_⟩
      · have h := hmo'.keep (w' := w6) fun h hh hl => hoth6 h hl (by omega) (by omega)
        simpa only [List.length_append, List.length_cons, List.length_nil, Nat.zero_add] using h
      · simp [lenOf]
        omega
end Go.Proofs.Ytediapekgbekeaa
