
/-
  FEWEST MACHINES, THE PROGRAM's WAY: the closure that goes from job to job.
-/
import Derived.Test.YtaplnbjljgeakaaMfP
import Derived.Test.YtaplnbjljgeakaaCopy
import Derived.Test.YtaplnbjljgeakaaMark
import Derived.Test.YtaplnbjljgeakaaApp
import Derived.Test.YtaplnbjljgeakaaRws
import Derived.Deep.RegionWith
import Derived.Deep.RegionLaw
import Derived.StillTailTactics
namespace Go.Proofs.Ytaplnbjljgeakaa
open Go.RowKit Go.Deep
set_option linter.unusedVariables false

/-- A list of the call's own, cut. -/
theorem Own.cut {w : World} {base n c : Nat} {e : TypeId} {A : Option Addr} {zs : List Int} (h : Own w base e (.slice A n c) zs) (h0 : 0 < zs.length) {k : Nat} (hk : k ≤ zs.length) : Own w base e (.slice A k c) (zs.take k) := by
  have hl : (zs.take k).length = k := by rw [List.length_take]; omega
  refine ⟨by simp, ?_⟩
  rcases h.2 with ⟨_, h2⟩ | ⟨g, cap, cur, hv, hb, hg, hn, hm, hs, ht⟩
  · omega
  · injection hv with e1 e2 e3
    subst e1; subst e3
    refine .inr ⟨g, c, cur, by rw [hl], hb, hg, by omega, hm, hs, ?_⟩
    rw [hl, List.map_take, ← ht, List.take_take]
    congr 1
    omega

section
variable {P : Program}
/-- 'append(out, x)' onto a list of the call's own, at a step of a region that draws its order. -/
theorem step_app_int {wr W1 : World} {ops : Array Oper} {o : Oper} {a : Act} {K : Act → World → Prop} {Q : Exit → Act → World → Prop} {F : Prop} (hgd : o.guard = none) (s x : Operand) (t e : TypeId)
    (ho : o.op = .call { callee := .builtin .append, args := #[s, x], argTypes := #[t, t] }) (ht : P.underlying t = some (.slice e))
    (hinfo : (P.info? e).map (fun i => (i.zero, i.size, i.bytes)) = some (some (.int .i64 0), 1, 8))
    (base : Nat) (v : Value) (zs : List Int) (hs : a.eval s = v) (hown : Own wr base e v zs) (n : Int) (c : Nat) (hx : a.eval x = .slice (some ⟨wr.heap.size, 0, none⟩) 1 c)
    (hbase : base ≤ wr.heap.size) (hlen : zs.length < 1000000)
    (hW : W1 = wr.alloc (.cells #[.int .i64 n] e))
    (h : ∀ v' w', Own w' base e v' (zs ++ [n]) → Below base wr w' → K (a.put o.dst v') w') :
    if Region.wanted o (yielded ops a.tmps) = true then Oper.wp P o a W1 K Q else F := by
  subst hW
  have hw : Region.wanted o (yielded ops a.tmps) = true := by simp [Region.wanted, hgd]
  rw [if_pos hw]
  obtain ⟨i0, hi, hz0, hz1, hz2⟩ := info_parts hinfo
  refine wp_append_own _ s x t ho base e i0 (.int .i64 0) 1 8 ht hi hz0 hz1 hz2 rfl (by decide) v zs.length (zs.map (Value.int .i64)) hs (World.ownsRow.alloc hown _)
    ⟨wr.heap.size, 0, none⟩ 1 c [.int .i64 n] hx rfl ?_ ?_ (by unfold maxLen; omega) (by omega) (by simp; omega) ?_
  · intro j u hj
    match j, hj with
    | 0, hj => simp at hj; subst hj; simp [Addr.add]
  · intro u hu; simp at hu; subst hu; rfl
  · intro v' w' h1 h2 _
    refine h v' w' (by simpa [Own] using h1) ?_
    refine (((Below.refl base wr).alloc hbase _).grown h2 (by simp; omega) ?_)
    intro k hk
    exact (World.ownsRow.lt hown k hk).1
end

def cloV (bj bf bl be bg : Nat) : Value := .func (.func 19) #[] #[.pointer (some ⟨bj, 0, none⟩), .pointer (some ⟨bf, 0, none⟩), .pointer (some ⟨bl, 0, none⟩), .pointer (some ⟨be, 0, none⟩), .pointer (some ⟨bg, 0, none⟩)]
/-- The variables. -/
structure Mv (W : World) (b0 bj bf bl be bg bb : Nat) (A : Option Addr) (c : Nat) (zs : List Int) (E : Int) (S : Nat) (l : List Int) : Prop where
  jb : One W bj 22 (.slice A zs.length c)
  eb : One W be 3 (.int .i64 E)
  fb : One W bf 3 (.int .i64 (S : Int))
  lb : ∃ A' c', One W bl 22 (.slice A' l.length c') ∧ Own W bb 3 (.slice A' l.length c') l ∧ l.length ≤ c' ∧ c' ≤ maxLen
  gb : One W bg 34 (cloV bj bf bl be bg)
  zr : Ints W b0 A zs.length zs
  hb : bb ≤ W.heap.size
/-- They are all different. -/
structure Dz (b0 bj bf bl be bg bb : Nat) : Prop where
  j : bj ≠ bf ∧ bj ≠ bl ∧ bj < bb
  e : be ≠ bf ∧ be ≠ bl ∧ be < bb
  g : bg ≠ bf ∧ bg ≠ bl ∧ bg < bb
  f : bf ≠ bl ∧ bf < bb ∧ bl < bb
  o : b0 ≤ bf ∧ b0 ≤ bl ∧ b0 ≤ bb
section
variable {W W' : World} {b0 bj bf bl be bg bb c : Nat} {A : Option Addr} {zs : List Int} {E : Int} {S : Nat} {l : List Int}
theorem Mv.drewN (h : Mv W b0 bj bf bl be bg bb A c zs E S l) (n : Nat) : Mv (W.drewN n) b0 bj bf bl be bg bb A c zs E S l := ⟨h.jb, h.eb, h.fb, h.lb, h.gb, h.zr, h.hb⟩
/-- A store in the loads. -/
theorem Mv.setL (h : Mv W b0 bj bf bl be bg bb A c zs E S l) (hd : Dz b0 bj bf bl be bg bb) {g c' : Nat} (hl : One W bl 22 (.slice (some ⟨g, 0, none⟩) l.length c')) (ho : Own W bb 3 (.slice (some ⟨g, 0, none⟩) l.length c') l) (h1 : l.length ≤ c') (h2 : c' ≤ maxLen) (hg : bb ≤ g) (m : Nat) (u : Int) :
    Mv (W.setCell ⟨g, m, none⟩ (.int .i64 u)) b0 bj bf bl be bg bb A c zs E S (l.set m u) :=
  ⟨h.jb.past (by have := hd.j; show bj ≠ g; omega) _, h.eb.past (by have := hd.e; show be ≠ g; omega) _, h.fb.past (by have := hd.f; show bf ≠ g; omega) _,
   ⟨some ⟨g, 0, none⟩, c', by rw [List.length_set]; exact hl.past (by have := hd.f; show bl ≠ g; omega) _, by rw [List.length_set]; exact Own.stored ho rfl m u, by rw [List.length_set]; exact h1, h2⟩,
   h.gb.past (by have := hd.g; show bg ≠ g; omega) _, h.zr.below ((Below.refl b0 W).setCell (by have := hd.o; show b0 ≤ g; omega) _) (Nat.le_refl _), by simpa using h.hb⟩
/-- A store in the fewest. -/
theorem Mv.setF (h : Mv W b0 bj bf bl be bg bb A c zs E S l) (hd : Dz b0 bj bf bl be bg bb) (S' : Nat) : Mv (W.setCell ⟨bf, 0, none⟩ (.int .i64 (S' : Int))) b0 bj bf bl be bg bb A c zs E S' l := by
  obtain ⟨A', c', hl, ho, h1, h2⟩ := h.lb
  exact ⟨h.jb.past hd.j.1 _, h.eb.past hd.e.1 _, h.fb.put _, ⟨A', c', hl.past hd.f.1.symm _, ho.keep fun g hg _ => Below.heap_setCell _ _ _ _ (by have := hd.f; show g ≠ bf; omega), h1, h2⟩, h.gb.past hd.g.1 _, h.zr.below ((Below.refl b0 W).setCell hd.o.1 _) (Nat.le_refl _), by simpa using h.hb⟩
/-- Other loads. -/
theorem Mv.other (h : Mv W b0 bj bf bl be bg bb A c zs E S l) (hd : Dz b0 bj bf bl be bg bb) (hb : Below bb W W') {l' : List Int} {A' : Option Addr} {c' : Nat} (ho : Own W' bb 3 (.slice A' l'.length c') l') (h1 : l'.length ≤ c') (h2 : c' ≤ maxLen) :
    Mv (W'.setCell ⟨bl, 0, none⟩ (.slice A' l'.length c')) b0 bj bf bl be bg bb A c zs E S l' := by
  obtain ⟨A0, c0, hl, _⟩ := h.lb
  exact ⟨(h.jb.below hb hd.j.2.2).past hd.j.2.1 _, (h.eb.below hb hd.e.2.2).past hd.e.2.1 _, (h.fb.below hb hd.f.2.1).past hd.f.1 _,
   ⟨A', c', (hl.below hb hd.f.2.2).put _, ho.keep fun g hg _ => Below.heap_setCell _ _ _ _ (by have := hd.f; show g ≠ bl; omega), h1, h2⟩, (h.gb.below hb hd.g.2.2).past hd.g.2.1 _,
   h.zr.below ((hb.mono hd.o.2.2).setCell (show b0 ≤ bl from hd.o.2.1) _) (Nat.le_refl _), by have := hb.size; have := h.hb; simp; omega⟩
end
theorem addTo_back {l : List Int} {j : Nat} (v : Int) (h : j < l.length) : (addTo l j v).set j (l.getD j 0) = l := by
  unfold addTo
  rw [List.set_set, getD_at h, List.set_getElem_self]
theorem addTo_at {l : List Int} {j : Nat} (v : Int) (h : j < l.length) : (addTo l j v).getD j 0 = l.getD j 0 + v := by
  unfold addTo
  rw [getD_at (by rw [List.length_set]; exact h), List.getElem_set_self]

set_option maxRecDepth 100000 in
set_option maxHeartbeats 4000000 in
theorem giveM_any (b0 bj bf bl be bg bb : Nat) (A : Option Addr) (c : Nat) (zs : List Int) (E : Int) (hn9 : zs.length ≤ 9) (hE : 1 ≤ E ∧ E ≤ 10000) (hz : ∀ k, k < zs.length → 0 ≤ zs.getD k 0 ∧ zs.getD k 0 ≤ E) (hd : Dz b0 bj bf bl be bg bb) :
    ∀ (d k : Nat) (l : List Int) (S : Nat) (W : World), k + d = zs.length → l.length ≤ k → (∀ i, i < l.length → 0 ≤ l.getD i 0 ∧ l.getD i 0 ≤ E) → Mv W b0 bj bf bl be bg bb A c zs E S l →
      Calls Try.prog 19 #[.int .i64 (k : Int), .pointer (some ⟨bj, 0, none⟩), .pointer (some ⟨bf, 0, none⟩), .pointer (some ⟨bl, 0, none⟩), .pointer (some ⟨be, 0, none⟩), .pointer (some ⟨bg, 0, none⟩)] W
        fun e w' => e = .returned (.tuple #[]) ∧ Mv w' b0 bj bf bl be bg bb A c zs E (giveF E (zs.drop k) l S) l ∧ Below b0 W w' := by
  intro d
  induction d with
  | zero =>
    intro k l S W hkd hlk hlr hmv
    obtain rfl : k = zs.length := by omega
    have HR := hide (show giveF E (zs.drop zs.length) l S = min S l.length from by rw [List.drop_length]; rfl)
    have c1 := hmv.jb.cell
    have c2 := hmv.fb.cell
    obtain ⟨A', c', hl, ho, _, _⟩ := hmv.lb
    have c3 := hl.cell
    have f2 := hmv.fb.free
    have HM := hide (hmv.setF hd (min S l.length))
    have HB := hide ((Below.refl b0 W).setCell (p := ⟨bf, 0, none⟩) hd.o.1 (.int .i64 ((min S l.length : Nat) : Int)))
    clear hl ho hmv
    go_enter Try.func19, Try.ntmps19
    go_wp2_with fail
    all_goals
      refine bodyPost_ret (results_none rfl _ _ _) rfl ?_
      first
      | (have e : min S l.length = S := by omega
         rw [e] at HM HB
         exact ⟨rfl, by (show Mv _ _ _ _ _ _ _ _ _ _ _ _ (min S l.length) _); rw [e]; exact HM.out, HB.out⟩)
      | (have e : min S l.length = l.length := by omega
         rw [e] at HM HB
         exact ⟨rfl, by (show Mv _ _ _ _ _ _ _ _ _ _ _ _ (min S l.length) _); rw [e]; exact HM.out, HB.out⟩)
  | succ d ih =>
    intro k l S W hkd hlk hlr hmv
    have hkn : k < zs.length := by omega
    have hkd1 : k + 1 + d = zs.length := by omega
    have hne : ((k : Int) == (zs.length : Int)) = false := by simp; omega
    have hv := hz k hkn
    have HGC := hide (show giveF E (zs.drop k) l S = giveF E (zs.drop (k + 1)) (l ++ [zs.getD k 0]) (mgvP E (zs.getD k 0) (zs.drop (k + 1)) l S l.length) from by
      rw [List.drop_eq_getElem_cons hkn, ← getD_at hkn, giveF_cons])
    have HST := hide (mgvP_succ E (zs.getD k 0) (zs.drop (k + 1)) l S)
    have HS0 := hide (mgvP_zero E (zs.getD k 0) (zs.drop (k + 1)) l S)
    generalize hvv : zs.getD k 0 = v at *
    have HVV := hide hvv
    have HLR := hide hlr
    have HM := hide hmv
    have c1 := hmv.jb.cell
    obtain ⟨A', c', hl, ho, _, _⟩ := hmv.lb
    have c3 := hl.cell
    clear hvv hmv hlr hl ho
    go_enter Try.func19, Try.ntmps19
    go_wp2_with fail
    go_loopw [18] (fun jv wr => ∃ m : Nat, m ≤ l.length ∧ jv = .int .i64 m ∧ Hid (Mv wr b0 bj bf bl be bg bb A c zs E (mgvP E v (zs.drop (k + 1)) l S m) l) ∧ Hid (Below b0 W wr))
      (fun jv _ => l.length - (intOf jv).toNat)
    case atStart => exact ⟨0, Nat.zero_le _, rfl, by rw [HS0.out]; exact HM, hide (Below.refl _ _)⟩
    case round =>
      obtain ⟨m, hm, rfl, HMW, HBW⟩ := hrel
      have hmv := HMW.out
      obtain ⟨A1, c1', hl, ho, hc1, hc2⟩ := hmv.lb
      have e1 := hl.cell
      have e2 := hmv.jb.cell
      have e3 := hmv.eb.cell
      obtain ⟨ad, hA0, hadl, e4⟩ := hmv.zr.at_ hkn
      rw [HVV.out] at e4
      have hbb := hmv.hb
      by_cases hml : m < l.length
      · obtain ⟨g, hg, hgb, hgl⟩ := ho.head (by omega)
        subst hg
        subst hA0
        have hu := HLR.out m hml
        have e5 := ho.ints.at_ hml
        obtain ⟨ag, hag, _, e5⟩ := e5
        injection hag with hag
        subst hag
        rw [add_head] at e5
        have HSM := hide (HST.out m)
        have HBACK := hide (addTo_back v hml)
        have HATJ := hide (addTo_at v hml)
        have HADD := hide (show addTo l m v = l.set m (l.getD m 0 + v) from rfl)
        have HNR := hide (fun (h : l.getD m 0 + v ≤ E) => (show ∀ i, i < (addTo l m v).length → 0 ≤ (addTo l m v).getD i 0 ∧ (addTo l m v).getD i 0 ≤ E from fun i hi => by
          rw [addTo_length] at hi
          by_cases e : m = i
          · subst e; rw [addTo_at v hi]; omega
          · have : (addTo l m v).getD i 0 = l.getD i 0 := by unfold addTo; simp only [List.getD, List.getElem?_set_ne e]
            rw [this]; exact HLR.out i hi))
        have HHO := hide ho
        have HHL := hide hl
        have HMV := hide hmv
        clear hmv ho hl HMW
        generalize hU : l.getD m 0 = u at *
        have HU := hide hU
        clear hU
        generalize hT : mgvP E v (zs.drop (k + 1)) l S m = T at *
        by_cases hcmp : E < u + v
        · have HN : mgvP E v (zs.drop (k + 1)) l S (m + 1) = T := by rw [HSM.out, if_pos hcmp]
          go_wp2_with fail
          go_quiet (fail)
          go_wp2_with fail
          go_roundw
          case rel => exact ⟨m + 1, by omega, by go_num, hide (by rw [HN]; exact HMV.out.drewN _), hide (below_drewN HBW.out _)⟩
          case measure => simp [intOf]; omega
        · have HN := hide (show mgvP E v (zs.drop (k + 1)) l S (m + 1) = giveF E (zs.drop (k + 1)) (addTo l m v) T from by rw [HSM.out, if_neg hcmp])
          go_wp2_with fail
          go_quiet (fail)
          have HMV0 := hide (HMV.out.drewN nq)
          have HBW0 := hide (below_drewN HBW.out nq)
          have HHO0 := hide (HHO.out.drewN nq)
          have HHL0 := hide (HHL.out.drewN nq)
          have hbb0 : bb ≤ (wr.drewN nq).heap.size := hbb
          clear HMV HHO HHL e1 e2 e3 e4 e5
          generalize wr.drewN nq = W0 at *
          have d1 := HHL0.out.cell
          have d2 := HMV0.out.jb.cell
          obtain ⟨adj, hAj, _, d4⟩ := HMV0.out.zr.at_ hkn
          injection hAj with hAj
          subst hAj
          rw [HVV.out] at d4
          obtain ⟨ag2, hag2, _, d5⟩ := HHO0.out.ints.at_ hml
          injection hag2 with hag2
          subst hag2
          rw [add_head, HU.out] at d5
          have d6 := World.ownsRow.frozenAt HHO0.out m
          have HM2 := hide (show Mv (W0.setCell ⟨g, m, none⟩ (.int .i64 (u + v))).drew b0 bj bf bl be bg bb (some ad) c zs E T (addTo l m v) from by
            rw [HADD.out]
            exact (HMV0.out.setL hd HHL0.out HHO0.out hc1 hc2 hgb m (u + v)).drewN 1)
          have HB2 := hide (show Below b0 W (W0.setCell ⟨g, m, none⟩ (.int .i64 (u + v))).drew from (HBW0.out.setCell (p := ⟨g, m, none⟩) (by have := hd.o; show b0 ≤ g; omega) (.int .i64 (u + v))).drew)
          go_wp2_with fail
          go_region
          clear d1 d2 d4 d5 d6 HMV0 HBW0 HHO0 HHL0
          generalize (W0.setCell ⟨g, m, none⟩ (.int .i64 (u + v))).drew = W2 at *
          have hall := addTo_length l m v
          have HIH := hide (ih (k + 1) (addTo l m v) T W2 hkd1 (by omega) (HNR.out (by omega)) HM2.out)
          rw [← HN.out, show ((k + 1 : Nat) : Int) = (k : Int) + 1 by omega] at HIH
          have g6 := HM2.out.gb.cell
          unfold cloV at g6
          have HALL := hide hall
          clear hall HN
          go_wp2_with fail
          refine HIH.out.mono ?_
          rintro e w3 ⟨rfl, hm3, hb3⟩
          have HB3 := hide (HB2.out.trans hb3)
          have HM3 := hide hm3
          obtain ⟨A3, c3', hl3, ho3, hc31, hc32⟩ := hm3.lb
          have hml3 : m < (addTo l m v).length := by have := HALL.out; omega
          obtain ⟨g3, hg3, hgb3, hgl3⟩ := ho3.head (by omega)
          subst hg3
          have q1 := hl3.cell
          have q2 := hm3.jb.cell
          obtain ⟨adj3, hAj3, _, q4⟩ := hm3.zr.at_ hkn
          injection hAj3 with hAj3
          subst hAj3
          rw [HVV.out] at q4
          obtain ⟨ag3, hag3, _, q5⟩ := ho3.ints.at_ hml3
          injection hag3 with hag3
          subst hag3
          rw [add_head, HATJ.out] at q5
          have q6 := World.ownsRow.frozenAt ho3 m
          rw [HALL.out] at q1
          have HM4 := hide (show Mv (w3.setCell ⟨g3, m, none⟩ (.int .i64 u)).drew b0 bj bf bl be bg bb (some ad) c zs E (mgvP E v (zs.drop (k + 1)) l S (m + 1)) l from by
            have := (hm3.setL hd hl3 ho3 hc31 hc32 hgb3 m u).drewN 1
            rw [HBACK.out] at this
            exact this)
          have HB4 := hide (show Below b0 W (w3.setCell ⟨g3, m, none⟩ (.int .i64 u)).drew from (HB3.out.setCell (p := ⟨g3, m, none⟩) (by have := hd.o; show b0 ≤ g3; omega) (.int .i64 u)).drew)
          clear hm3 hl3 ho3 hc31 hc32 hb3 HM3 HB3 g6 hml3
          go_wp2_with fail
          go_region
          go_wp2_with fail
          go_roundw
          case rel => exact ⟨m + 1, by omega, by go_num, HM4, HB4⟩
          case measure => simp [intOf]; omega
      · obtain rfl : m = l.length := by omega
        subst hA0
        have HHO := hide ho
        have HHL := hide hl
        have HLN := hide (show (l ++ [v]).length = l.length + 1 by simp)
        have hmv0 := hmv
        clear hmv ho hl
        generalize mgvP E v (zs.drop (k + 1)) l S l.length = T at *
        have hlt4 : l.length < 1000000 := by omega
        go_wp2_with fail
        have HMD := hide (hmv0.drewN 1)
        have HBD := hide (HBW.out.drew)
        have HOD := hide (HHO.out.drewN 1)
        change Hid (Mv wr.drew _ _ _ _ _ _ _ _ _ _ _ _ _) at HMD
        change Hid (Own wr.drew _ _ _ _) at HOD
        have hbbd : bb ≤ wr.drew.heap.size := hbb
        have d1 : wr.drew.cell? ⟨bl, 0, none⟩ = _ := e1
        have d2 : wr.drew.cell? ⟨bj, 0, none⟩ = _ := e2
        have d4 : wr.drew.cell? (ad.add k) = _ := e4
        have d5 : (wr.alloc (.cells #[.int .i64 v] 3)).drew.cell? ⟨bl, 0, none⟩ = some (.slice A1 l.length c1') := (World.cell?_alloc_lt _ _ ⟨bl, 0, none⟩ (by have := hd.f; show bl < wr.heap.size; omega)).trans e1
        clear HMW HHL HHO e3
        have hown1 := HOD.out
        go_region_law (refine step_app_int rfl _ _ 22 3 rfl Try.underlying22 infoInt bb _ _ rfl hown1 _ _ rfl hbbd hlt4 rfl ?_; intro v2 w2 hown2 hb2; obtain ⟨A2, c2, rfl, hc21, hc22⟩ := hown2.shape; have HO2 := hide hown2; have HB2 := hide hb2; obtain ⟨Ax, cx, hbx, _⟩ := HMD.out.lb; have b1 := (hbx.below hb2 hd.f.2.2).cell; have b2 := (hbx.below hb2 hd.f.2.2).free; have HM5 := hide (HMD.out.other hd hb2 hown2 hc21 hc22); rw [HLN.out] at HM5 hc21; have b3 := HM5.out.gb.cell; unfold cloV at b3; clear hown2 hb2 hbx)
        all_goals
          go_wp2_with fail
          have HIH := hide (ih (k + 1) (l ++ [v]) T _ hkd1 (by have := HLN.out; omega) (fun i hi => by
            have := HLN.out
            by_cases e : i < l.length
            · have e2 : (l ++ [v]).getD i 0 = l.getD i 0 := by simp [List.getD, List.getElem?_append_left e]
              rw [e2]; exact HLR.out i e
            · obtain rfl : i = l.length := by omega
              have e2 : (l ++ [v]).getD l.length 0 = v := by simp [List.getD]
              rw [e2]; exact hv) HM5.out)
          rw [show ((k + 1 : Nat) : Int) = (k : Int) + 1 by omega, ← HGC.out] at HIH
          have HB5 := hide ((HBD.out.trans (HB2.out.mono hd.o.2.2)).setCell (p := ⟨bl, 0, none⟩) hd.o.2.1 (.slice A2 (l.length + 1) c2))
          refine HIH.out.mono ?_
          rintro e w5 ⟨rfl, hm5, hb5⟩
          have HB6 := hide (HB5.out.trans hb5)
          obtain ⟨A6, c6, hl6, ho6, hc61, hc62⟩ := hm5.lb
          have h61 := hl6.cell
          have h62 := hl6.free
          have hcut := Own.cut ho6 (by have := HLN.out; omega) (k := l.length) (by have := HLN.out; omega)
          rw [List.take_left] at hcut
          rw [HLN.out] at h61 hc61
          have HM6 := hide (hm5.other hd (Below.refl bb w5) hcut (by omega) hc62)
          have HB7 := hide (HB6.out.setCell (p := ⟨bl, 0, none⟩) hd.o.2.1 (.slice A6 l.length c6))
          unfold maxLen at hc62
          clear hm5 hl6 ho6 hcut hb5 b1 b2 b3
          go_wp2_with fail
          refine bodyPost_end (results_none rfl _ _ _) rfl ?_
          exact ⟨rfl, HM6.out, HB7.out⟩
end Go.Proofs.Ytaplnbjljgeakaa
