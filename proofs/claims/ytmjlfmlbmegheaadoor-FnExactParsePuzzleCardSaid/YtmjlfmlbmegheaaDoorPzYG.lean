
/-
  THE MODEL's ParsePuzzle. (Printed by mkpy.py.)
-/
import Derived.Test.YtmjlfmlbmegheaaDoorPzYI
import Derived.Test.YtmjlfmlbmegheaaDoorPzXm
import Derived.Test.YtmjlfmlbmegheaaDoorPzW
import Derived.Deep.RegionLaw
import Derived.Deep.RegionHeld3
namespace Go.Proofs.YtmjlfmlbmegheaaDoor
open Go.RowKit Go.Deep
set_option linter.unusedVariables false
set_option linter.unnecessarySimpa false

theorem cboxOne {w : World} {g : Nat} {d : Cl} (h : CBox w g 44 d) : Cls w (g + 1) (some ⟨g, 0, none⟩) 1 [d] := by
  refine ⟨rfl, fun _ => ⟨_, 0, rfl, Nat.lt_succ_self _, fun i hi => ?_⟩⟩
  match i, hi with
  | 0, _ => exact h.c0
  | 1, _ => exact h.c1
  | 2, _ => exact h.c2
  | 3, _ => exact h.c3
set_option maxRecDepth 100000 in
theorem step_app_ClsO {wr : World} {ops : Array Oper} {o : Oper} {a : Act} {K : Act → World → Prop} {Q : Exit → Act → World → Prop} {E : Prop} (hgd : o.guard = none) (s x : Operand) (t : TypeId)
    (ho : o.op = .call { callee := .builtin .append, args := #[s, x], argTypes := #[t, t] }) (ht : Tryd.prog.underlying t = some (.slice 44))
    (base : Nat) (v : Value) (ms : List Cl) (hs : a.eval s = v) (hown : OwnICl wr base v ms.length (numsCl ms)) (A : Option Addr) (m c B : Nat) (ds : List Cl) (hx : a.eval x = .slice A m c) (hA : A ≠ none) (hr : Cls wr B A m ds)
    (hbase : base ≤ wr.heap.size) (hlen : ms.length + m < 1000000)
    (h : ∀ v' w', OwnICl w' base v' (ms ++ ds).length (numsCl (ms ++ ds)) → Below base wr w' → (∀ g, g < wr.heap.size → v.ownBlock ≠ some g → w'.heap[g]? = wr.heap[g]?) → K (a.put o.dst v') w') :
    if Region.wanted o (yielded ops a.tmps) = true then Oper.wp Tryd.prog o a wr K Q else E := by
  rw [if_pos (by simp [Region.wanted, hgd])]
  obtain rfl := hr.len
  obtain ⟨i0, hi, hz0, hz1, hz2⟩ := info_parts infoCl
  obtain ⟨ad, rfl⟩ : ∃ ad, A = some ad := by cases A with | none => exact absurd rfl hA | some ad => exact ⟨ad, rfl⟩
  refine wp_append_own _ s x t ho base 44 i0 _ 4 32 ht hi hz0 hz1 hz2 rfl (by decide) v ms.length ((numsCl ms).map (Value.int .i64)) hs hown.1
    ad ds.length c ((numsCl ds).map (Value.int .i64)) hx (by rw [List.length_map, numsCl_length]) ?_ ?_ (by unfold maxLen; omega) (by omega) hbase ?_
  · intro j u hj
    rw [List.getElem?_map, numsCl_get] at hj
    by_cases hlt : j < ds.length * 4
    · rw [if_pos hlt] at hj
      simp at hj
      subst hj
      obtain ⟨b, off, had, _, hc⟩ := hr.2 (by omega)
      injection had with had
      subst had
      have := hc j hlt
      unfold Addr.add
      split
      · rename_i h0
        subst h0
        simpa [cellCl] using this
      · simpa [cellCl] using this
    · rw [if_neg hlt] at hj
      cases hj
  · intro u hu
    rw [List.mem_map] at hu
    obtain ⟨z, _, rfl⟩ := hu
    rfl
  · intro v' w' h1 h2 _
    refine h v' w' ⟨?_, by rw [numsCl_length]⟩ ?_ (fun g hg hne => h2.block g hg (by first | exact hne | exact fun e => hne e.symm | (intro e; exact hne (by simp [e]))))
    · rw [numsCl_append, List.length_append, List.map_append]
      exact h1
    · refine ((Below.refl base wr).grown h2 hbase ?_)
      intro k hk
      exact (World.ownsRow.lt hown.1 k hk).1
def MadeZ (l : List UInt8) (w : World) (e : Ending) (w' : World) : Prop :=
  ∃ u cs A c, e = .returned (.tuple #[.agg #[.int .i64 u, .slice A cs.length c], .bool (pyOk l)]) ∧ OwnICl w' w.heap.size (.slice A cs.length c) cs.length (numsCl cs) ∧ Below w.heap.size w w' ∧ (pyOk l = true → u = pyU l ∧ cs = pyL l)
theorem madeZ_no {l : List UInt8} {w w' : World} (h : Below w.heap.size w w') (hp : pyP l = none) : MadeZ l w (.returned (.tuple #[.agg #[.int .i64 0, .slice none 0 0], .bool false])) w' := by
  have hn := py_none hp
  exact ⟨0, [], none, 0, by rw [hn.1]; rfl, OwnICl.nil _ _, h, fun h => by rw [hn.1] at h; cases h⟩
theorem py_end {l a b : List UInt8} (h : sp104 l = [a, b]) (hf : fourAll b = true) : (pzOk (rd a) (clsOf b) = false → pyOk l = false) ∧ (pzOk (rd a) (clsOf b) = true → pyOk l = true ∧ pyU l = rd a ∧ pyL l = clsOf b) ∧ (pzOk (rd a) (clsOf b) = true → pzTx (rd a) (clsOf b) = l) := by
  have h2 := py_two h
  rw [hf, Bool.true_and] at h2
  refine ⟨fun ho => ?_, fun ho => ?_, fun ho => ?_⟩
  · rw [ho] at h2
    exact (py_none h2).1
  · rw [ho] at h2
    exact py_some h2
  · rw [ho, if_pos rfl] at h2
    obtain ⟨_, a', b', e, _, _, _, _, ht⟩ := pyP_parts h2
    rw [h] at e
    injection e with e1 e2
    injection e2 with e2 _
    rw [e1, e2]; exact ht
theorem fourAll_not {b : List UInt8} (k : Nat) (hk : k < (sp44 b).length) (he : b ≠ []) (h : four46 ((sp44 b)[k]'hk) = false) : fourAll b = false := by
  unfold fourAll
  rw [show b.isEmpty = false from by cases b with
    | nil => exact absurd rfl he
    | cons => rfl, Bool.false_or, List.all_eq_false]
  exact ⟨_, List.getElem_mem hk, by rw [h]; simp⟩
theorem clsOf_ne {b : List UInt8} (he : b ≠ []) : clsOf b = (sp44 b).map clOf := by
  cases b with
  | nil => exact absurd rfl he
  | cons x xs => rfl
theorem fourAll_yes {b : List UInt8} (h : ∀ (k : Nat) (hk : k < (sp44 b).length), four46 ((sp44 b)[k]'hk) = true) : fourAll b = true := by
  unfold fourAll
  rw [Bool.or_eq_true]
  refine .inr ?_
  rw [List.all_eq_true]
  intro w hw
  obtain ⟨k, hk, rfl⟩ := List.getElem_of_mem hw
  exact h k hk

set_option maxRecDepth 1000000 in
set_option maxHeartbeats 4000000 in
theorem pzParse_any (l : List UInt8) (hl : l.length ≤ 1048576) (w : World) :
    Calls Tryd.prog 23 #[.string (bs l)] w (MadeZ l w) := by
  have hlen := str_len l
  have b0 : Below w.heap.size w (w.alloc (.cells #[.int .i64 0, .slice none 0 0] 30)) := (Below.refl _ _).alloc (Nat.le_refl _) _
  have X0 := hide (Bx.new w 30 (.int .i64 0) (.slice none 0 0))
  have HS1 := hide (fun W => l1Split_any104 l W (by omega))
  have HB0 := hide b0
  have HLS0 := hide (show (w.alloc (.cells #[.int .i64 0, .slice none 0 0] 30)).heap.size = w.heap.size + 1 from by simp)
  clear b0
  by_cases hbad : 120 < l.length ∨ (sp104 l).length ≠ 2
  · have HP : Hid (pyP l = none) := hide (by rcases hbad with h | h; exact py_long h; exact py_not2 h)
    have HBAD : Hid (120 < (l.length : Int) ∨ (¬ 120 < (l.length : Int)) ∧ ¬ ((sp104 l).length : Int) = 2) := hide (by omega)
    clear hbad
    generalize hs : bs l = s at *
    clear hs
    generalize (sp104 l).length = n at *
    go_enter Tryd.func23, Tryd.ntmps23
    go_wp2_with fail
    refine (HS1.out _).mono ?_; rintro e w1 ⟨A, c, rfl, _, _, hown, hb1⟩
    have X1 := hide (X0.out.next hb1)
    have q1 := hide (below_next HB0.out hb1)
    have x0 := X1.out.c0
    have x1 := X1.out.c1
    have k0 := X1.out.f 0
    have k1 := X1.out.f 1
    have V := (X1.out.set0 (.int .i64 0)).set1 (.slice none 0 0)
    have V0 := V.c0
    have V1 := V.c1
    clear V hown hb1
    rcases HBAD.out with h1 | ⟨h1, h2⟩
    · go_wp2_with fail
      exact bodyPost_ret (v := .tuple #[.agg #[.int .i64 0, .slice none 0 0], .bool false]) (by simp [results, Tryd.results23, go_sem, V0, V1]) rfl (madeZ_no ((q1.out.setCell (Nat.le_refl _) _).setCell (Nat.le_refl _) _) HP.out)
    · have h2b : ((n : Int) != 2) = true := by simpa using h2
      go_wp2_with fail
      exact bodyPost_ret (v := .tuple #[.agg #[.int .i64 0, .slice none 0 0], .bool false]) (by simp [results, Tryd.results23, go_sem, V0, V1]) rfl (madeZ_no ((q1.out.setCell (Nat.le_refl _) _).setCell (Nat.le_refl _) _) HP.out)
  · have h120 : ¬ 120 < (l.length : Int) := by omega
    obtain ⟨a, b, hsp⟩ : ∃ a b, sp104 l = [a, b] := by
      have h2 : (sp104 l).length = 2 := by omega
      match hq : sp104 l, h2 with
      | [a, b], _ => exact ⟨a, b, rfl⟩
    have hla : a.length ≤ l.length := sp_piece_len104 l a (by rw [hsp]; exact List.mem_cons_self)
    have hlb : b.length ≤ l.length := sp_piece_len104 l b (by rw [hsp]; exact List.mem_cons_of_mem _ List.mem_cons_self)
    have HE := hide (fun h => py_end hsp h)
    have HNF := hide (fun (h : fourAll b = false) => show pyP l = none from by rw [py_two hsp, h]; rfl)
    rw [hsp] at HS1
    have HRA := hide (fun W => l1Read_any a W (by omega))
    have HSB := hide (fun W => l1Split_any44 b W (by omega))
    have hblen := str_len b
    have Hbl := hide hlb
    have HRB : Hid (120 ≥ l.length) := hide (by omega)
    clear hsp hbad hla
    generalize hra : rd a = ra at *
    clear hra
    generalize hss : bs l = s at *
    have Hss := hide hss
    clear hss
    go_enter Tryd.func23, Tryd.ntmps23
    go_wp2_with fail
    refine (HS1.out _).mono ?_; rintro e w1 ⟨A1, c1, rfl, _, _, hown1, hb1⟩
    have hl2 : ([a, b] : List (List UInt8)).length = 2 := rfl
    rw [hl2] at hown1 ⊢
    obtain ⟨g1, e1, hg1⟩ : ∃ g1, A1 = some ⟨g1, 0, none⟩ ∧ g1 < w1.heap.size := by
      rcases hown1.form with ⟨_, h⟩ | ⟨g, c, h, _, h', _⟩
      · cases h
      · injection h with h; exact ⟨g, h, h'⟩
    subst e1
    have hc0 : w1.cell? ⟨g1, 0, none⟩ = some (.string (bs a)) := (World.ownsRow.cellAt hown1 0 (by simp)).trans rfl
    have hc1 : w1.cell? ⟨g1, 1, none⟩ = some (.string (bs b)) := (World.ownsRow.cellAt hown1 1 (by simp)).trans rfl
    have S1 := hide (show w.heap.size + 1 ≤ w1.heap.size from by rw [← HLS0.out]; exact hb1.size)
    have X1 := hide (X0.out.next hb1)
    have q1 := hide (below_next HB0.out hb1)
    clear hb1 hown1 hl2
    go_wp2_with fail
    refine (HRA.out _).mono ?_; rintro e w' ⟨rfl, rfl⟩
    have X2 := hide (X1.out.alloc (.cells #[.int .i64 ra, .slice none 0 0] 30))
    have P2 := hide (Bx.new w1 30 (.int .i64 ra) (.slice none 0 0))
    have q2 := hide (q1.out.alloc q1.out.size (.cells #[.int .i64 ra, .slice none 0 0] 30))
    have hb2 : Below w1.heap.size w1 (w1.alloc (.cells #[.int .i64 ra, .slice none 0 0] 30)) := (Below.refl _ _).alloc (Nat.le_refl _) _
    have hd1 := (hb2.cell (p := ⟨g1, 1, none⟩) hg1).trans hc1
    have S2 := hide (show (w1.alloc (.cells #[.int .i64 ra, .slice none 0 0] 30)).heap.size = w1.heap.size + 1 from by simp)
    clear hb2
    by_cases he : b = []
    · subst he
      have hz : ((([] : List UInt8).length : Nat) : Int) = 0 := rfl
      have hf : fourAll ([] : List UInt8) = true := rfl
      have HPY := hide (And.intro (HE.out hf).1 (HE.out hf).2.1)
      have HTX := hide (HE.out hf).2.2
      rw [show clsOf [] = [] from rfl] at HPY HTX
      have hn0 : ([] : List Cl).length ≤ 1000 := by simp
      have HO := hide (OwnICl.nil (w1.alloc (.cells #[.int .i64 ra, .slice none 0 0] 30)) (w.heap.size + 1))
      clear HE HNF HSB hf
      rw [show (([] : List UInt8).length : Nat) = 0 from rfl] at hblen
      generalize bs [] = zb at *
      go_wp2_with fail
      have HX := P2
      have HY := X2
      have HB := q2
      generalize hW2 : (w1.alloc (.cells #[.int .i64 ra, .slice none 0 0] 30)) = W2 at *
      have hpb : w.heap.size < w1.heap.size := by have := S1.out; omega
      generalize w1.heap.size = pb at *
      have HSK := hide (fun W' (h : Below W2.heap.size W2 W') => show W'.cell? ⟨pb, 0, none⟩ = some (.int .i64 ra) ∧ W'.cell? ⟨pb, 1, none⟩ = some (.slice none 0 0) from ⟨(HX.out.next h).c0, (HX.out.next h).c1⟩)
      have HGd := hide (fun W' (h : Below W2.heap.size W2 W') => pzGood_any none 0 0 W2.heap.size [] ra W' (HO.out.list.below h (Nat.le_refl _)) h.size (by omega))
      have HTx := hide (fun W' (h : Below W2.heap.size W2 W') (ho : pzOk ra [] = true) => pzText_any none 0 0 W2.heap.size [] ra W' (HO.out.list.below h (Nat.le_refl _)) h.size ho)
      cases hg : pzOk ra []
      · rw [hg] at HGd
        have HOK := hide (HPY.out.1 hg)
        clear hg HTx
        refine wp_region_held_drew (S := (fun W' => W'.cell? ⟨pb, 0, none⟩ = some (.int .i64 ra) ∧ W'.cell? ⟨pb, 1, none⟩ = some (.slice none 0 0))) (by kernel_rfl) ?_ (fun hHeld => ?_)
        · exact HSK.out _ (Below.refl _ _).drew
        refine wpAnyH_take (i := 0) (v := ?_) rfl (by kernel_rfl) (by kernel_rfl) (by kernel_rfl) (fun _ _ _ h => h) (Or.inl ⟨by rfl, ?_⟩) (by assumption) ?_
        rotate_left
        · (intro w hSw; (try dsimp only at hSw); go_simp; first | done | (with_reducible rfl))
        try go_simp
        refine wpAnyH_take (i := 1) (v := ?_) rfl (by kernel_rfl) (by kernel_rfl) (by kernel_rfl) (fun _ _ _ h => h) (Or.inl ⟨by rfl, ?_⟩) (by assumption) ?_
        rotate_left
        · (intro w hSw; (try dsimp only at hSw); go_simp; first | done | (with_reducible rfl))
        try go_simp
        refine wpAnyH_ready (rs := [2]) (by kernel_rfl) (by simp) ?_
        refine AllReadyH.cons rfl (fun K hK => ?_) AllReadyH.nil
        go_simp
        go_at_call 15; (with_reducible refine (HGd.out _ ?_).mono ?_); (exact (Below.refl _ _).drew); rintro e w5 ⟨rfl, hb5⟩; have F5 := hide (show Below W2.heap.size W2 w5 from (Below.refl _ _).drew.trans hb5)
        go_wp2_with fail
        refine hK.out _ _ ?_ (fun hHeld => ?_)
        · exact HSK.out _ F5.out
        clear hK K
        try go_simp
        refine wpAnyH_take (i := 3) (v := ?_) rfl (by kernel_rfl) (by kernel_rfl) (by kernel_rfl) (fun _ _ _ h => h) (Or.inl ⟨by rfl, ?_⟩) (by assumption) ?_
        rotate_left
        · (intro w hSw; (try dsimp only at hSw); go_simp; first | done | (with_reducible rfl))
        try go_simp
        refine wpAnyH_take (i := 4) (v := undef) rfl (by kernel_rfl) (by kernel_rfl) (by kernel_rfl) (fun _ _ _ h => h) (Or.inr ⟨by kernel_rfl, rfl⟩) (by assumption) ?_
        try go_simp
        refine wpAnyH_take (i := 5) (v := undef) rfl (by kernel_rfl) (by kernel_rfl) (by kernel_rfl) (fun _ _ _ h => h) (Or.inr ⟨by kernel_rfl, rfl⟩) (by assumption) ?_
        try go_simp
        refine wpAnyH_take (i := 6) (v := undef) rfl (by kernel_rfl) (by kernel_rfl) (by kernel_rfl) (fun _ _ _ h => h) (Or.inr ⟨by kernel_rfl, rfl⟩) (by assumption) ?_
        try go_simp
        refine wpAnyH_take (i := 7) (v := undef) rfl (by kernel_rfl) (by kernel_rfl) (by kernel_rfl) (fun _ _ _ h => h) (Or.inr ⟨by kernel_rfl, rfl⟩) (by assumption) ?_
        try go_simp
        refine wpAnyH_take (i := 8) (v := ?_) rfl (by kernel_rfl) (by kernel_rfl) (by kernel_rfl) (fun _ _ _ h => h) (Or.inl ⟨by rfl, ?_⟩) (by assumption) ?_
        rotate_left
        · (intro w hSw; (try dsimp only at hSw); go_simp; first | done | (with_reducible rfl))
        try go_simp
        have Q6 := HY.out.next F5.out
        have r0 := Q6.c0
        have f0 := Q6.f 0
        have R1 := Q6.set0 (.int .i64 ra)
        have r1 := R1.c1
        have f1 := R1.f 1
        have R2 := R1.set1 (.slice none 0 0)
        have i0 := R2.c0
        have i1 := R2.c1
        clear R1 R2 Q6
        refine wpAnyH_ready (rs := [9]) (by kernel_rfl) (by simp) ?_
        refine AllReadyH.cons rfl (fun K hK => ?_) AllReadyH.nil
        go_simp
        refine hK.out _ _ ?_ (fun hHeld => ?_)
        · obtain ⟨h0, h1⟩ := HSK.out _ F5.out
          refine ⟨?_, ?_⟩ <;> go_simp
        clear hK K
        try go_simp
        refine wpAnyH_take (i := 10) (v := ?_) rfl (by kernel_rfl) (by kernel_rfl) (by kernel_rfl) (fun _ _ _ h => h) (Or.inl ⟨by rfl, ?_⟩) (by assumption) ?_
        rotate_left
        · (intro w hSw; (try dsimp only at hSw); go_simp; first | done | (with_reducible rfl))
        try go_simp
        refine wpAnyH_done (by kernel_rfl) ?_ _
        go_wp2_with fail
        exact bodyPost_ret (v := .tuple #[.agg #[.int .i64 ra, .slice none 0 0], .bool false]) (by simp [results, Tryd.results23, go_sem, i0, i1]) rfl ⟨ra, [], none, 0, by first | (rw [HOK.out]; done) | (rw [HOK.out]; rfl) | (rw [HOK.out.1]; done) | (rw [HOK.out.1]; rfl), ((HO.out.below F5.out).keep (fun g hg _ => (Below.heap_setCell _ _ _ _ (by simp; omega)).trans (Below.heap_setCell _ _ _ _ (by simp; omega)))).less (by omega), ((HB.out.trans (F5.out.mono HB.out.size)).setCell (Nat.le_refl _) _).setCell (Nat.le_refl _) _, fun h => by rw [HOK.out] at h; cases h⟩
      · rw [hg] at HGd
        have HOK := hide (HPY.out.2 hg)
        have HTy := hide (fun W' h => HTx.out W' h hg)
        rw [HTX.out hg, Hss.out] at HTy
        have e0 : (s.toList == s.toList) = true := by simp
        clear hg HTx
        refine wp_region_held_drew (S := (fun W' => W'.cell? ⟨pb, 0, none⟩ = some (.int .i64 ra) ∧ W'.cell? ⟨pb, 1, none⟩ = some (.slice none 0 0))) (by kernel_rfl) ?_ (fun hHeld => ?_)
        · exact HSK.out _ (Below.refl _ _).drew
        refine wpAnyH_take (i := 0) (v := ?_) rfl (by kernel_rfl) (by kernel_rfl) (by kernel_rfl) (fun _ _ _ h => h) (Or.inl ⟨by rfl, ?_⟩) (by assumption) ?_
        rotate_left
        · (intro w hSw; (try dsimp only at hSw); go_simp; first | done | (with_reducible rfl))
        try go_simp
        refine wpAnyH_take (i := 1) (v := ?_) rfl (by kernel_rfl) (by kernel_rfl) (by kernel_rfl) (fun _ _ _ h => h) (Or.inl ⟨by rfl, ?_⟩) (by assumption) ?_
        rotate_left
        · (intro w hSw; (try dsimp only at hSw); go_simp; first | done | (with_reducible rfl))
        try go_simp
        refine wpAnyH_ready (rs := [2]) (by kernel_rfl) (by simp) ?_
        refine AllReadyH.cons rfl (fun K hK => ?_) AllReadyH.nil
        go_simp
        go_at_call 15; (with_reducible refine (HGd.out _ ?_).mono ?_); (exact (Below.refl _ _).drew); rintro e w5 ⟨rfl, hb5⟩; have F5 := hide (show Below W2.heap.size W2 w5 from (Below.refl _ _).drew.trans hb5)
        go_wp2_with fail
        refine hK.out _ _ ?_ (fun hHeld => ?_)
        · exact HSK.out _ F5.out
        clear hK K
        try go_simp
        refine wpAnyH_take (i := 3) (v := ?_) rfl (by kernel_rfl) (by kernel_rfl) (by kernel_rfl) (fun _ _ _ h => h) (Or.inl ⟨by rfl, ?_⟩) (by assumption) ?_
        rotate_left
        · (intro w hSw; (try dsimp only at hSw); go_simp; first | done | (with_reducible rfl))
        try go_simp
        refine wpAnyH_take (i := 4) (v := ?_) rfl (by kernel_rfl) (by kernel_rfl) (by kernel_rfl) (fun _ _ _ h => h) (Or.inl ⟨by rfl, ?_⟩) (by assumption) ?_
        rotate_left
        · (intro w hSw; (try dsimp only at hSw); go_simp; first | done | (with_reducible rfl))
        try go_simp
        refine wpAnyH_take (i := 6) (v := ?_) rfl (by kernel_rfl) (by kernel_rfl) (by kernel_rfl) (fun _ _ _ h => h) (Or.inl ⟨by rfl, ?_⟩) (by assumption) ?_
        rotate_left
        · (intro w hSw; (try dsimp only at hSw); go_simp; first | done | (with_reducible rfl))
        try go_simp
        refine wpAnyH_ready (rs := [5]) (by kernel_rfl) (by simp) ?_
        refine AllReadyH.cons rfl (fun K hK => ?_) AllReadyH.nil
        go_simp
        go_at_call 16; (with_reducible refine (HTy.out _ F5.out).mono ?_); rintro e w6 ⟨rfl, hb6⟩; have F6 := hide (below_next F5.out hb6)
        go_wp2_with fail
        refine hK.out _ _ ?_ (fun hHeld => ?_)
        · exact HSK.out _ F6.out
        clear hK K
        try go_simp
        refine wpAnyH_take (i := 7) (v := ?_) rfl (by kernel_rfl) (by kernel_rfl) (by kernel_rfl) (fun _ _ _ h => h) (Or.inl ⟨by rfl, ?_⟩) (by assumption) ?_
        rotate_left
        · (intro w hSw; (try dsimp only at hSw); go_simp; first | done | (with_reducible rfl))
        try go_simp
        refine wpAnyH_take (i := 8) (v := ?_) rfl (by kernel_rfl) (by kernel_rfl) (by kernel_rfl) (fun _ _ _ h => h) (Or.inl ⟨by rfl, ?_⟩) (by assumption) ?_
        rotate_left
        · (intro w hSw; (try dsimp only at hSw); go_simp; first | done | (with_reducible rfl))
        try go_simp
        have Q6 := HY.out.next F6.out
        have r0 := Q6.c0
        have f0 := Q6.f 0
        have R1 := Q6.set0 (.int .i64 ra)
        have r1 := R1.c1
        have f1 := R1.f 1
        have R2 := R1.set1 (.slice none 0 0)
        have i0 := R2.c0
        have i1 := R2.c1
        clear R1 R2 Q6
        refine wpAnyH_ready (rs := [9]) (by kernel_rfl) (by simp) ?_
        refine AllReadyH.cons rfl (fun K hK => ?_) AllReadyH.nil
        go_simp
        refine hK.out _ _ ?_ (fun hHeld => ?_)
        · obtain ⟨h0, h1⟩ := HSK.out _ F6.out
          refine ⟨?_, ?_⟩ <;> go_simp
        clear hK K
        try go_simp
        refine wpAnyH_take (i := 10) (v := ?_) rfl (by kernel_rfl) (by kernel_rfl) (by kernel_rfl) (fun _ _ _ h => h) (Or.inl ⟨by rfl, ?_⟩) (by assumption) ?_
        rotate_left
        · (intro w hSw; (try dsimp only at hSw); go_simp; first | done | (with_reducible rfl))
        try go_simp
        refine wpAnyH_done (by kernel_rfl) ?_ _
        go_wp2_with fail
        exact bodyPost_ret (v := .tuple #[.agg #[.int .i64 ra, .slice none 0 0], .bool true]) (by simp [results, Tryd.results23, go_sem, i0, i1]) rfl ⟨ra, [], none, 0, by first | (rw [HOK.out]; done) | (rw [HOK.out]; rfl) | (rw [HOK.out.1]; done) | (rw [HOK.out.1]; rfl), ((HO.out.below F6.out).keep (fun g hg _ => (Below.heap_setCell _ _ _ _ (by simp; omega)).trans (Below.heap_setCell _ _ _ _ (by simp; omega)))).less (by omega), ((HB.out.trans (F6.out.mono HB.out.size)).setCell (Nat.le_refl _) _).setCell (Nat.le_refl _) _, fun _ => ⟨HOK.out.2.1.symm, HOK.out.2.2.symm⟩⟩
    · have hb0 : 0 < (b.length : Int) := by
        cases b with
        | nil => exact absurd rfl he
        | cons => simp
      have hpl := sp_length44 b
      have hcl : b.count 44 ≤ b.length := List.count_le_length
      have hwn : (sp44 b).length ≤ 121 := by have := HRB.out; omega
      have Hpc := hide (fun (x : List UInt8) (hx : x ∈ sp44 b) => show x.length < 1000000 from by have := sp_piece_len44 b x hx; omega)
      have HCO := hide (clsOf_ne he)
      have HFN := hide (fun k hk h => fourAll_not (b := b) k hk he h)
      have HFY := hide (fun h => fourAll_yes (b := b) h)
      rw [HCO.out] at HE
      clear hpl hcl HCO
      generalize bs b = zb at *
      generalize sp44 b = ws at *
      go_wp2_with fail
      have HX0 := P2
      have HY0 := X2
      have HBB := q2
      generalize hW2 : (w1.alloc (.cells #[.int .i64 ra, .slice none 0 0] 30)) = W2 at *
      have hpb : w.heap.size < w1.heap.size := by have := S1.out; omega
      generalize w1.heap.size = pb at *
      refine (HSB.out _).mono ?_; rintro e w3 ⟨A3, c3, rfl, _, _, hown3, hb3⟩
      have HSt := hide hown3.strs
      have HA3 : Hid (∀ ad, A3 = some ad → pb < ad.block) := hide fun ad e => by
        rcases hown3.form with ⟨e1, _⟩ | ⟨g, c, e1, hb, _⟩
        · injection e1 with e1; rw [e1] at e; cases e
        · injection e1 with e1; rw [e1] at e; injection e with e; rw [← e]; have := S2.out; show pb < g; omega
      have S3 := hide hb3.size
      have hw3 : w.heap.size < w3.heap.size := by have := S2.out; have := S3.out; omega
      have hp3 : pb < w3.heap.size := by have := S2.out; have := S3.out; omega
      have HX3 := hide (HX0.out.next hb3)
      have HY3 := hide (HY0.out.next hb3)
      have HB3 := hide (below_next HBB.out hb3)
      clear hown3 hb3
      go_wp2_with fail
      go_loopw [35] (fun i wr => ∃ k : Nat, k ≤ ws.length ∧ i = .int .i64 k ∧ (∃ Av cv, Hid (Bx wr pb 30 (.int .i64 ra) (.slice Av ((ws.map clOf).take k).length cv)) ∧ Hid (OwnICl wr w3.heap.size (.slice Av ((ws.map clOf).take k).length cv) ((ws.map clOf).take k).length (numsCl ((ws.map clOf).take k)))) ∧
          Hid (Bx wr w.heap.size 30 (.int .i64 0) (.slice none 0 0)) ∧ Hid (Below w.heap.size w wr) ∧ Hid (Strs wr w3.heap.size A3 ws.length ws) ∧ Hid (w3.heap.size ≤ wr.heap.size) ∧ Hid (∀ (j : Nat) (hj : j < ws.length), j < k → four46 (ws[j]'hj) = true))
        (fun i _ => ws.length - (intOf i).toNat)
      case atStart => exact ⟨0, Nat.zero_le _, rfl, ⟨none, 0, HX3, hide (OwnICl.nil _ _)⟩, HY3, HB3, HSt, hide (Nat.le_refl _), hide (fun j _ hj => by omega)⟩
      case round =>
        obtain ⟨k, hk, rfl, ⟨Av, cv, HX, HO⟩, HY, HB, HST, HSZ, HW⟩ := hrel
        by_cases hlt : k < ws.length
        · obtain ⟨ad, hada, hab, hcell⟩ := HST.out.at_ hlt
          have HG := hide (show ws.getD k [] = ws[k] from by simp [List.getD, List.getElem?_eq_getElem hlt])
          rw [HG.out] at hcell
          have HT := hide (HFN.out k hlt)
          have HNx := hide (show four46 (ws[k]'hlt) = true → ∀ (j : Nat) (hj : j < ws.length), j < k + 1 → four46 (ws[j]'hj) = true from fun h j hj hjk => by
            by_cases e : j = k
            · subst e; exact h
            · exact HW.out j hj (by omega))
          have HM := hide (show (ws.map clOf).take (k + 1) = (ws.map clOf).take k ++ [clOf (ws[k]'hlt)] from by
            rw [List.take_add_one, List.getElem?_map, List.getElem?_eq_getElem hlt]; rfl)
          have hll : ((ws.map clOf).take k).length ≤ 121 := by rw [List.length_take, List.length_map]; omega
          have HPc := hide (Hpc.out (ws[k]'hlt) (List.getElem_mem hlt))
          generalize (ws.map clOf).take k = ms at *
          generalize ws[k] = pc at *
          subst hada
          have HSq := hide (fun W => l1Split_any46 pc W HPc.out)
          cases h4 : four46 pc
          · have HP := hide (HNF.out (HT.out h4))
            have h4i : ¬ ((sp46 pc).length : Int) = 4 := by
              have : ¬ (sp46 pc).length = 4 := of_decide_eq_false h4
              omega
            generalize bs pc = pz at *
            clear h4
            go_wp2_with fail
            refine (HSq.out _).mono ?_; rintro e w4 ⟨A4, c4, rfl, _, _, hown4, hb4⟩
            have Y4 := HY.out.next hb4
            have q4 := hide (below_next HB.out hb4)
            have y0 := Y4.c0
            have y1 := Y4.c1
            have k0 := Y4.f 0
            have k1 := Y4.f 1
            have V := (Y4.set0 (.int .i64 0)).set1 (.slice none 0 0)
            have V0 := V.c0
            have V1 := V.c1
            clear V Y4 hown4 hb4
            go_wp2_with fail
            exact bodyPost_ret (v := .tuple #[.agg #[.int .i64 0, .slice none 0 0], .bool false]) (by simp [results, Tryd.results23, go_sem, V0, V1]) rfl (madeZ_no ((q4.out.setCell (Nat.le_refl _) _).setCell (Nat.le_refl _) _) HP.out)
          · obtain ⟨qa, qb, qc, qd, hq⟩ := four_lists h4
            have Hd := hide (clOf_four hq)
            have HN2 := hide (HNx.out h4)
            rw [hq] at HSq
            have hqa : qa.length ≤ pc.length := sp_piece_len46 pc qa (by rw [hq]; simp)
            have hqb : qb.length ≤ pc.length := sp_piece_len46 pc qb (by rw [hq]; simp)
            have hqc : qc.length ≤ pc.length := sp_piece_len46 pc qc (by rw [hq]; simp)
            have hqd : qd.length ≤ pc.length := sp_piece_len46 pc qd (by rw [hq]; simp)
            have hpl := HPc.out
            have HRa := hide (fun W => l1Read_any qa W (by omega))
            have HRb := hide (fun W => l1Read_any qb W (by omega))
            have HRc := hide (fun W => l1Read_any qc W (by omega))
            have HRd := hide (fun W => l1Read_any qd W (by omega))
            rw [Hd.out] at HM
            generalize hms : (ws.map clOf).take (k + 1) = ms' at HM
            have Hms := hide hms
            clear hms
            clear h4 hq hqa hqb hqc hqd hpl
            generalize rd qa = x0 at *
            generalize rd qb = x1 at *
            generalize rd qc = x2 at *
            generalize rd qd = x3 at *
            generalize bs pc = pz at *
            go_wp2_with fail
            refine (HSq.out _).mono ?_; rintro e w4 ⟨A4, c4, rfl, _, _, hown4, hb4⟩
            have hl4 : ([qa, qb, qc, qd] : List (List UInt8)).length = 4 := rfl
            rw [hl4] at hown4 ⊢
            obtain ⟨g4, e4, hgb, hg4⟩ : ∃ g4, A4 = some ⟨g4, 0, none⟩ ∧ wr.heap.size ≤ g4 ∧ g4 < w4.heap.size := by
              rcases hown4.form with ⟨_, h⟩ | ⟨g, c, h, hb, h', _⟩
              · cases h
              · injection h with h; exact ⟨g, h, hb, h'⟩
            subst e4
            have hs0 : w4.cell? ⟨g4, 0, none⟩ = some (.string (bs qa)) := (World.ownsRow.cellAt hown4 0 (by simp)).trans rfl
            have hs1 : w4.cell? ⟨g4, 1, none⟩ = some (.string (bs qb)) := (World.ownsRow.cellAt hown4 1 (by simp)).trans rfl
            have hs2 : w4.cell? ⟨g4, 2, none⟩ = some (.string (bs qc)) := (World.ownsRow.cellAt hown4 2 (by simp)).trans rfl
            have hs3 : w4.cell? ⟨g4, 3, none⟩ = some (.string (bs qd)) := (World.ownsRow.cellAt hown4 3 (by simp)).trans rfl
            generalize bs qa = za at *
            generalize bs qb = zbb at *
            generalize bs qc = zc at *
            generalize bs qd = zd at *
            have X4 := hide (HX.out.next hb4)
            have Y4 := hide (HY.out.next hb4)
            have B4 := hide (below_next HB.out hb4)
            have O4 := hide (HO.out.below hb4)
            have ST4 := hide (HST.out.below hb4 HSZ.out)
            have S4 := hide (show w3.heap.size ≤ w4.heap.size from Nat.le_trans HSZ.out hb4.size)
            have z0 := X4.out.lt
            have HSK : Hid (∀ W', Below w4.heap.size w4 W' → (W'.cell? ⟨g4, 0, none⟩ = some (.string za) ∧ W'.cell? ⟨g4, 1, none⟩ = some (.string zbb) ∧ W'.cell? ⟨g4, 2, none⟩ = some (.string zc) ∧ W'.cell? ⟨g4, 3, none⟩ = some (.string zd))) := hide fun W' h => ⟨(h.cell (p := ⟨g4, 0, none⟩) hg4).trans hs0, (h.cell (p := ⟨g4, 1, none⟩) hg4).trans hs1, (h.cell (p := ⟨g4, 2, none⟩) hg4).trans hs2, (h.cell (p := ⟨g4, 3, none⟩) hg4).trans hs3⟩
            have HAv : Hid (∀ g, (Value.slice Av ms.length cv).ownBlock = some g → g < wr.heap.size) := hide fun g hg => by
              rcases HO.out.form with ⟨e, _⟩ | ⟨g', c', e, _, h'⟩
              · rw [e] at hg; cases hg
              · rw [e] at hg; injection hg with hg; rw [← hg]; exact h'
            have hpg : pb < g4 := by have := HX.out.lt; omega
            have p1 := X4.out.c1
            clear hown4 hb4 hs0 hs1 hs2 hs3 hl4
            go_wp2_with fail
            refine wp_region_held_drew (S := (fun W' => (W'.cell? ⟨g4, 0, none⟩ = some (.string za) ∧ W'.cell? ⟨g4, 1, none⟩ = some (.string zbb) ∧ W'.cell? ⟨g4, 2, none⟩ = some (.string zc) ∧ W'.cell? ⟨g4, 3, none⟩ = some (.string zd)))) (by kernel_rfl) ?_ (fun hHeld => ?_)
            · exact HSK.out _ (Below.refl _ _).drew
            refine wpAnyH_take (i := 0) (v := ?_) rfl (by kernel_rfl) (by kernel_rfl) (by kernel_rfl) (fun _ _ _ h => h) (Or.inl ⟨by rfl, ?_⟩) (by assumption) ?_
            rotate_left
            · (intro w hSw; (try dsimp only at hSw); go_simp; first | done | (with_reducible rfl))
            try go_simp
            refine wpAnyH_take (i := 2) (v := ?_) rfl (by kernel_rfl) (by kernel_rfl) (by kernel_rfl) (fun _ _ _ h => h) (Or.inl ⟨by rfl, ?_⟩) (by assumption) ?_
            rotate_left
            · (intro w hSw; (try dsimp only at hSw); go_simp; first | done | (with_reducible rfl))
            try go_simp
            refine wpAnyH_take (i := 3) (v := ?_) rfl (by kernel_rfl) (by kernel_rfl) (by kernel_rfl) (fun _ _ _ h => h) (Or.inl ⟨by rfl, ?_⟩) (by assumption) ?_
            rotate_left
            · (intro w hSw; (try dsimp only at hSw); go_simp; first | done | (with_reducible rfl))
            try go_simp
            refine wpAnyH_take (i := 4) (v := ?_) rfl (by kernel_rfl) (by kernel_rfl) (by kernel_rfl) (fun _ _ _ h => h) (Or.inl ⟨by rfl, ?_⟩) (by assumption) ?_
            rotate_left
            · (intro w hSw; (try dsimp only at hSw); go_simp; first | done | (with_reducible rfl))
            try go_simp
            refine wpAnyH_take (i := 6) (v := ?_) rfl (by kernel_rfl) (by kernel_rfl) (by kernel_rfl) (fun _ _ _ h => h) (Or.inl ⟨by rfl, ?_⟩) (by assumption) ?_
            rotate_left
            · (intro w hSw; (try dsimp only at hSw); go_simp; first | done | (with_reducible rfl))
            try go_simp
            refine wpAnyH_take (i := 7) (v := ?_) rfl (by kernel_rfl) (by kernel_rfl) (by kernel_rfl) (fun _ _ _ h => h) (Or.inl ⟨by rfl, ?_⟩) (by assumption) ?_
            rotate_left
            · (intro w hSw; (try dsimp only at hSw); go_simp; first | done | (with_reducible rfl))
            try go_simp
            refine wpAnyH_take (i := 8) (v := ?_) rfl (by kernel_rfl) (by kernel_rfl) (by kernel_rfl) (fun _ _ _ h => h) (Or.inl ⟨by rfl, ?_⟩) (by assumption) ?_
            rotate_left
            · (intro w hSw; (try dsimp only at hSw); go_simp; first | done | (with_reducible rfl))
            try go_simp
            refine wpAnyH_take (i := 10) (v := ?_) rfl (by kernel_rfl) (by kernel_rfl) (by kernel_rfl) (fun _ _ _ h => h) (Or.inl ⟨by rfl, ?_⟩) (by assumption) ?_
            rotate_left
            · (intro w hSw; (try dsimp only at hSw); go_simp; first | done | (with_reducible rfl))
            try go_simp
            refine wpAnyH_take (i := 11) (v := ?_) rfl (by kernel_rfl) (by kernel_rfl) (by kernel_rfl) (fun _ _ _ h => h) (Or.inl ⟨by rfl, ?_⟩) (by assumption) ?_
            rotate_left
            · (intro w hSw; (try dsimp only at hSw); go_simp; first | done | (with_reducible rfl))
            try go_simp
            refine wpAnyH_take (i := 12) (v := ?_) rfl (by kernel_rfl) (by kernel_rfl) (by kernel_rfl) (fun _ _ _ h => h) (Or.inl ⟨by rfl, ?_⟩) (by assumption) ?_
            rotate_left
            · (intro w hSw; (try dsimp only at hSw); go_simp; first | done | (with_reducible rfl))
            try go_simp
            refine wpAnyH_take (i := 14) (v := ?_) rfl (by kernel_rfl) (by kernel_rfl) (by kernel_rfl) (fun _ _ _ h => h) (Or.inl ⟨by rfl, ?_⟩) (by assumption) ?_
            rotate_left
            · (intro w hSw; (try dsimp only at hSw); go_simp; first | done | (with_reducible rfl))
            try go_simp
            refine wpAnyH_take (i := 15) (v := ?_) rfl (by kernel_rfl) (by kernel_rfl) (by kernel_rfl) (fun _ _ _ h => h) (Or.inl ⟨by rfl, ?_⟩) (by assumption) ?_
            rotate_left
            · (intro w hSw; (try dsimp only at hSw); go_simp; first | done | (with_reducible rfl))
            try go_simp
            refine wpAnyH_take (i := 16) (v := ?_) rfl (by kernel_rfl) (by kernel_rfl) (by kernel_rfl) (fun _ _ _ h => h) (Or.inl ⟨by rfl, ?_⟩) (by assumption) ?_
            rotate_left
            · (intro w hSw; (try dsimp only at hSw); go_simp; first | done | (with_reducible rfl))
            try go_simp
            refine wpAnyH_ready (rs := [1, 5]) (by kernel_rfl) (by simp) ?_
            refine AllReadyH.cons rfl (fun K hK => ?_) (AllReadyH.cons rfl (fun K hK => ?_) AllReadyH.nil)
            · go_simp
              refine hK.out _ _ (HSK.out _ (Below.refl _ _).drew) (fun hHeld => ?_)
              clear hK K
              try go_simp
              refine wpAnyH_ready (rs := [5]) (by kernel_rfl) (by simp) ?_
              refine AllReadyH.cons rfl (fun K hK => ?_) AllReadyH.nil
              go_simp
              go_at_call 41; (with_reducible refine (HRa.out _).mono ?_); rintro e w' ⟨rfl, rfl⟩
              go_wp2_with fail
              refine hK.out _ _ ?_ (fun hHeld => ?_)
              · exact HSK.out _ (Below.refl _ _).drew
              clear hK K
              try go_simp
              refine wpAnyH_ready (rs := [9]) (by kernel_rfl) (by simp) ?_
              refine AllReadyH.cons rfl (fun K hK => ?_) AllReadyH.nil
              go_simp
              go_at_call 41; (with_reducible refine (HRb.out _).mono ?_); rintro e w' ⟨rfl, rfl⟩
              go_wp2_with fail
              refine hK.out _ _ ?_ (fun hHeld => ?_)
              · exact HSK.out _ (Below.refl _ _).drew
              clear hK K
              try go_simp
              refine wpAnyH_ready (rs := [13]) (by kernel_rfl) (by simp) ?_
              refine AllReadyH.cons rfl (fun K hK => ?_) AllReadyH.nil
              go_simp
              go_at_call 41; (with_reducible refine (HRc.out _).mono ?_); rintro e w' ⟨rfl, rfl⟩
              go_wp2_with fail
              refine hK.out _ _ ?_ (fun hHeld => ?_)
              · exact HSK.out _ (Below.refl _ _).drew
              clear hK K
              try go_simp
              refine wpAnyH_ready (rs := [17]) (by kernel_rfl) (by simp) ?_
              refine AllReadyH.cons rfl (fun K hK => ?_) AllReadyH.nil
              go_simp
              go_at_call 41; (with_reducible refine (HRd.out _).mono ?_); rintro e w' ⟨rfl, rfl⟩
              go_wp2_with fail
              refine hK.out _ _ ?_ (fun hHeld => ?_)
              · exact HSK.out _ (Below.refl _ _).drew
              clear hK K
              try go_simp
              refine wpAnyH_take (i := 18) (v := ?_) rfl (by kernel_rfl) (by kernel_rfl) (by kernel_rfl) (fun _ _ _ h => h) (Or.inl ⟨by rfl, ?_⟩) (by assumption) ?_
              rotate_left
              · (intro w hSw; (try dsimp only at hSw); go_simp; first | done | (with_reducible rfl))
              try go_simp
              refine wpAnyH_ready (rs := [19]) (by kernel_rfl) (by simp) ?_
              refine AllReadyH.cons rfl (fun K hK => ?_) AllReadyH.nil
              go_simp
              have FBn := hide (show Below w4.heap.size w4 (w4.alloc (.cells #[.int .i64 x0, .int .i64 x1, .int .i64 x2, .int .i64 x3] 44)).drew from ((Below.refl _ _).alloc (Nat.le_refl _) _).drew)
              refine hK.out _ _ (HSK.out _ FBn.out) (fun hHeld => ?_)
              clear hK K p1
              have p1 := (X4.out.next FBn.out).c1
              try go_simp
              refine wpAnyH_ready (rs := [20]) (by kernel_rfl) (by simp) ?_
              refine AllReadyH.cons rfl (fun K hK => ?_) AllReadyH.nil
              refine step_app_ClsO rfl (.tmp 46) (.tmp 64) 28 rfl Tryd.underlying28 w3.heap.size _ ms rfl (O4.out.below FBn.out) (some ⟨w4.heap.size, 0, none⟩) 1 1 (w4.heap.size + 1) [⟨x0, x1, x2, x3⟩] rfl (by simp) (cboxOne (CBox.drew (CBox.new w4 44 ⟨x0, x1, x2, x3⟩))) (Nat.le_trans S4.out FBn.out.size) (by omega) ?_
              intro v6 w6 hown6 hb6 ho6
              rw [← HM.out] at hown6
              obtain ⟨A6, c6, rfl⟩ := hown6.shape
              have F6 := hide (show Below w3.heap.size w4 w6 from (FBn.out.mono S4.out).trans hb6)
              have HS6 := hide (show w6.cell? ⟨g4, 0, none⟩ = some (.string za) ∧ w6.cell? ⟨g4, 1, none⟩ = some (.string zbb) ∧ w6.cell? ⟨g4, 2, none⟩ = some (.string zc) ∧ w6.cell? ⟨g4, 3, none⟩ = some (.string zd) from by
                have h := ho6 g4 (Nat.lt_of_lt_of_le hg4 FBn.out.size) (fun e => by have := HAv.out g4 e; omega)
                have h2 := h.trans (FBn.out.block g4 hg4)
                obtain ⟨h3, h4, h5, h6⟩ := HSK.out w4 (Below.refl _ _)
                have hc : ∀ i, w6.cell? ⟨g4, i, none⟩ = w4.cell? ⟨g4, i, none⟩ := fun i => by simp [World.cell?, h2]
                exact ⟨(hc 0).trans h3, (hc 1).trans h4, (hc 2).trans h5, (hc 3).trans h6⟩)
              have X6 := hide (X4.out.below F6.out hp3)
              have Y6 := hide (Y4.out.below F6.out hw3)
              have B6 := hide (B4.out.trans (F6.out.mono (by omega)))
              have ST6 := hide (ST4.out.below F6.out (Nat.le_refl _))
              have S6 := hide (Nat.le_trans S4.out F6.out.size)
              have O6 := hide hown6
              clear hown6 hb6 ho6 p1
              have p1 := X6.out.c1
              have pf := X6.out.f 1
              refine hK.out _ _ HS6.out (fun hHeld => ?_)
              clear hK K
              try go_simp
              refine wpAnyH_take (i := 21) (v := ?_) rfl (by kernel_rfl) (by kernel_rfl) (by kernel_rfl) (fun _ _ _ h => h) (Or.inl ⟨by rfl, ?_⟩) (by assumption) ?_
              rotate_left
              · (intro w hSw; (try dsimp only at hSw); go_simp; first | done | (with_reducible rfl))
              try go_simp
              refine wpAnyH_ready (rs := [22]) (by kernel_rfl) (by simp) ?_
              refine AllReadyH.cons rfl (fun K hK => ?_) AllReadyH.nil
              go_simp
              refine hK.out _ _ ?_ (fun hHeld => ?_)
              · obtain ⟨h0, h1, h2, h3⟩ := HS6.out
                refine ⟨?_, ?_, ?_, ?_⟩ <;> go_simp
              clear hK K
              try go_simp
              refine wpAnyH_done (by kernel_rfl) ?_ _
              have X7 := hide (X6.out.set1 (.slice A6 ms'.length c6))
              have Y7 := hide (Y6.out.setOther (a := ⟨pb, 1, none⟩) (by simp; omega) (.slice A6 ms'.length c6))
              have O7 := hide (O6.out.keep (w' := w6.setCell ⟨pb, 1, none⟩ (.slice A6 ms'.length c6)) fun g hg _ => Below.heap_setCell _ _ _ _ (by simp; omega))
              have B7 := hide (B6.out.setCell (p := ⟨pb, 1, none⟩) (by simp; omega) (.slice A6 ms'.length c6))
              have ST7 : Hid (Strs (w6.setCell ⟨pb, 1, none⟩ (.slice A6 ms'.length c6)) w3.heap.size (some ad) ws.length ws) := hide ⟨ST6.out.1, fun hn => by
                obtain ⟨ad', e, hb, hc⟩ := ST6.out.2 hn
                have h : (w6.setCell ⟨pb, 1, none⟩ (.slice A6 ms'.length c6)).heap[ad'.block]? = w6.heap[ad'.block]? := Below.heap_setCell _ _ _ _ (by have := HA3.out ad' e; simp; omega)
                exact ⟨ad', e, hb, fun j hj => (show (w6.setCell ⟨pb, 1, none⟩ (.slice A6 ms'.length c6)).cell? (ad'.add j) = w6.cell? (ad'.add j) from by simp only [World.cell?, block_of_add, h]).trans (hc j hj)⟩⟩
              have S7 := hide (show w3.heap.size ≤ (w6.setCell ⟨pb, 1, none⟩ (.slice A6 ms'.length c6)).heap.size from by have := S6.out; simp; omega)
              clear p1 pf X6 Y6 O6 B6 ST6 S6 F6 HS6 FBn
              generalize (w6.setCell ⟨pb, 1, none⟩ (.slice A6 ms'.length c6)) = W7 at *
              go_wp2_with fail
              go_roundw
              case rel => exact ⟨k + 1, by omega, by go_num, by rw [Hms.out]; exact ⟨A6, c6, X7, O7⟩, Y7, B7, ST7, S7, HN2⟩
              case measure => simp [intOf]; omega
            · go_simp
              go_at_call 41; (with_reducible refine (HRa.out _).mono ?_); rintro e w' ⟨rfl, rfl⟩
              go_wp2_with fail
              refine hK.out _ _ ?_ (fun hHeld => ?_)
              · exact HSK.out _ (Below.refl _ _).drew
              clear hK K
              try go_simp
              refine wpAnyH_ready (rs := [1, 9]) (by kernel_rfl) (by simp) ?_
              refine AllReadyH.cons rfl (fun K hK => ?_) (AllReadyH.cons rfl (fun K hK => ?_) AllReadyH.nil)
              · go_simp
                refine hK.out _ _ (HSK.out _ (Below.refl _ _).drew) (fun hHeld => ?_)
                clear hK K
                try go_simp
                refine wpAnyH_ready (rs := [9]) (by kernel_rfl) (by simp) ?_
                refine AllReadyH.cons rfl (fun K hK => ?_) AllReadyH.nil
                go_simp
                go_at_call 41; (with_reducible refine (HRb.out _).mono ?_); rintro e w' ⟨rfl, rfl⟩
                go_wp2_with fail
                refine hK.out _ _ ?_ (fun hHeld => ?_)
                · exact HSK.out _ (Below.refl _ _).drew
                clear hK K
                try go_simp
                refine wpAnyH_ready (rs := [13]) (by kernel_rfl) (by simp) ?_
                refine AllReadyH.cons rfl (fun K hK => ?_) AllReadyH.nil
                go_simp
                go_at_call 41; (with_reducible refine (HRc.out _).mono ?_); rintro e w' ⟨rfl, rfl⟩
                go_wp2_with fail
                refine hK.out _ _ ?_ (fun hHeld => ?_)
                · exact HSK.out _ (Below.refl _ _).drew
                clear hK K
                try go_simp
                refine wpAnyH_ready (rs := [17]) (by kernel_rfl) (by simp) ?_
                refine AllReadyH.cons rfl (fun K hK => ?_) AllReadyH.nil
                go_simp
                go_at_call 41; (with_reducible refine (HRd.out _).mono ?_); rintro e w' ⟨rfl, rfl⟩
                go_wp2_with fail
                refine hK.out _ _ ?_ (fun hHeld => ?_)
                · exact HSK.out _ (Below.refl _ _).drew
                clear hK K
                try go_simp
                refine wpAnyH_take (i := 18) (v := ?_) rfl (by kernel_rfl) (by kernel_rfl) (by kernel_rfl) (fun _ _ _ h => h) (Or.inl ⟨by rfl, ?_⟩) (by assumption) ?_
                rotate_left
                · (intro w hSw; (try dsimp only at hSw); go_simp; first | done | (with_reducible rfl))
                try go_simp
                refine wpAnyH_ready (rs := [19]) (by kernel_rfl) (by simp) ?_
                refine AllReadyH.cons rfl (fun K hK => ?_) AllReadyH.nil
                go_simp
                have FBn := hide (show Below w4.heap.size w4 (w4.alloc (.cells #[.int .i64 x0, .int .i64 x1, .int .i64 x2, .int .i64 x3] 44)).drew from ((Below.refl _ _).alloc (Nat.le_refl _) _).drew)
                refine hK.out _ _ (HSK.out _ FBn.out) (fun hHeld => ?_)
                clear hK K p1
                have p1 := (X4.out.next FBn.out).c1
                try go_simp
                refine wpAnyH_ready (rs := [20]) (by kernel_rfl) (by simp) ?_
                refine AllReadyH.cons rfl (fun K hK => ?_) AllReadyH.nil
                refine step_app_ClsO rfl (.tmp 46) (.tmp 64) 28 rfl Tryd.underlying28 w3.heap.size _ ms rfl (O4.out.below FBn.out) (some ⟨w4.heap.size, 0, none⟩) 1 1 (w4.heap.size + 1) [⟨x0, x1, x2, x3⟩] rfl (by simp) (cboxOne (CBox.drew (CBox.new w4 44 ⟨x0, x1, x2, x3⟩))) (Nat.le_trans S4.out FBn.out.size) (by omega) ?_
                intro v6 w6 hown6 hb6 ho6
                rw [← HM.out] at hown6
                obtain ⟨A6, c6, rfl⟩ := hown6.shape
                have F6 := hide (show Below w3.heap.size w4 w6 from (FBn.out.mono S4.out).trans hb6)
                have HS6 := hide (show w6.cell? ⟨g4, 0, none⟩ = some (.string za) ∧ w6.cell? ⟨g4, 1, none⟩ = some (.string zbb) ∧ w6.cell? ⟨g4, 2, none⟩ = some (.string zc) ∧ w6.cell? ⟨g4, 3, none⟩ = some (.string zd) from by
                  have h := ho6 g4 (Nat.lt_of_lt_of_le hg4 FBn.out.size) (fun e => by have := HAv.out g4 e; omega)
                  have h2 := h.trans (FBn.out.block g4 hg4)
                  obtain ⟨h3, h4, h5, h6⟩ := HSK.out w4 (Below.refl _ _)
                  have hc : ∀ i, w6.cell? ⟨g4, i, none⟩ = w4.cell? ⟨g4, i, none⟩ := fun i => by simp [World.cell?, h2]
                  exact ⟨(hc 0).trans h3, (hc 1).trans h4, (hc 2).trans h5, (hc 3).trans h6⟩)
                have X6 := hide (X4.out.below F6.out hp3)
                have Y6 := hide (Y4.out.below F6.out hw3)
                have B6 := hide (B4.out.trans (F6.out.mono (by omega)))
                have ST6 := hide (ST4.out.below F6.out (Nat.le_refl _))
                have S6 := hide (Nat.le_trans S4.out F6.out.size)
                have O6 := hide hown6
                clear hown6 hb6 ho6 p1
                have p1 := X6.out.c1
                have pf := X6.out.f 1
                refine hK.out _ _ HS6.out (fun hHeld => ?_)
                clear hK K
                try go_simp
                refine wpAnyH_take (i := 21) (v := ?_) rfl (by kernel_rfl) (by kernel_rfl) (by kernel_rfl) (fun _ _ _ h => h) (Or.inl ⟨by rfl, ?_⟩) (by assumption) ?_
                rotate_left
                · (intro w hSw; (try dsimp only at hSw); go_simp; first | done | (with_reducible rfl))
                try go_simp
                refine wpAnyH_ready (rs := [22]) (by kernel_rfl) (by simp) ?_
                refine AllReadyH.cons rfl (fun K hK => ?_) AllReadyH.nil
                go_simp
                refine hK.out _ _ ?_ (fun hHeld => ?_)
                · obtain ⟨h0, h1, h2, h3⟩ := HS6.out
                  refine ⟨?_, ?_, ?_, ?_⟩ <;> go_simp
                clear hK K
                try go_simp
                refine wpAnyH_done (by kernel_rfl) ?_ _
                have X7 := hide (X6.out.set1 (.slice A6 ms'.length c6))
                have Y7 := hide (Y6.out.setOther (a := ⟨pb, 1, none⟩) (by simp; omega) (.slice A6 ms'.length c6))
                have O7 := hide (O6.out.keep (w' := w6.setCell ⟨pb, 1, none⟩ (.slice A6 ms'.length c6)) fun g hg _ => Below.heap_setCell _ _ _ _ (by simp; omega))
                have B7 := hide (B6.out.setCell (p := ⟨pb, 1, none⟩) (by simp; omega) (.slice A6 ms'.length c6))
                have ST7 : Hid (Strs (w6.setCell ⟨pb, 1, none⟩ (.slice A6 ms'.length c6)) w3.heap.size (some ad) ws.length ws) := hide ⟨ST6.out.1, fun hn => by
                  obtain ⟨ad', e, hb, hc⟩ := ST6.out.2 hn
                  have h : (w6.setCell ⟨pb, 1, none⟩ (.slice A6 ms'.length c6)).heap[ad'.block]? = w6.heap[ad'.block]? := Below.heap_setCell _ _ _ _ (by have := HA3.out ad' e; simp; omega)
                  exact ⟨ad', e, hb, fun j hj => (show (w6.setCell ⟨pb, 1, none⟩ (.slice A6 ms'.length c6)).cell? (ad'.add j) = w6.cell? (ad'.add j) from by simp only [World.cell?, block_of_add, h]).trans (hc j hj)⟩⟩
                have S7 := hide (show w3.heap.size ≤ (w6.setCell ⟨pb, 1, none⟩ (.slice A6 ms'.length c6)).heap.size from by have := S6.out; simp; omega)
                clear p1 pf X6 Y6 O6 B6 ST6 S6 F6 HS6 FBn
                generalize (w6.setCell ⟨pb, 1, none⟩ (.slice A6 ms'.length c6)) = W7 at *
                go_wp2_with fail
                go_roundw
                case rel => exact ⟨k + 1, by omega, by go_num, by rw [Hms.out]; exact ⟨A6, c6, X7, O7⟩, Y7, B7, ST7, S7, HN2⟩
                case measure => simp [intOf]; omega
              · go_simp
                go_at_call 41; (with_reducible refine (HRb.out _).mono ?_); rintro e w' ⟨rfl, rfl⟩
                go_wp2_with fail
                refine hK.out _ _ ?_ (fun hHeld => ?_)
                · exact HSK.out _ (Below.refl _ _).drew
                clear hK K
                try go_simp
                refine wpAnyH_ready (rs := [1, 13]) (by kernel_rfl) (by simp) ?_
                refine AllReadyH.cons rfl (fun K hK => ?_) (AllReadyH.cons rfl (fun K hK => ?_) AllReadyH.nil)
                · go_simp
                  refine hK.out _ _ (HSK.out _ (Below.refl _ _).drew) (fun hHeld => ?_)
                  clear hK K
                  try go_simp
                  refine wpAnyH_ready (rs := [13]) (by kernel_rfl) (by simp) ?_
                  refine AllReadyH.cons rfl (fun K hK => ?_) AllReadyH.nil
                  go_simp
                  go_at_call 41; (with_reducible refine (HRc.out _).mono ?_); rintro e w' ⟨rfl, rfl⟩
                  go_wp2_with fail
                  refine hK.out _ _ ?_ (fun hHeld => ?_)
                  · exact HSK.out _ (Below.refl _ _).drew
                  clear hK K
                  try go_simp
                  refine wpAnyH_ready (rs := [17]) (by kernel_rfl) (by simp) ?_
                  refine AllReadyH.cons rfl (fun K hK => ?_) AllReadyH.nil
                  go_simp
                  go_at_call 41; (with_reducible refine (HRd.out _).mono ?_); rintro e w' ⟨rfl, rfl⟩
                  go_wp2_with fail
                  refine hK.out _ _ ?_ (fun hHeld => ?_)
                  · exact HSK.out _ (Below.refl _ _).drew
                  clear hK K
                  try go_simp
                  refine wpAnyH_take (i := 18) (v := ?_) rfl (by kernel_rfl) (by kernel_rfl) (by kernel_rfl) (fun _ _ _ h => h) (Or.inl ⟨by rfl, ?_⟩) (by assumption) ?_
                  rotate_left
                  · (intro w hSw; (try dsimp only at hSw); go_simp; first | done | (with_reducible rfl))
                  try go_simp
                  refine wpAnyH_ready (rs := [19]) (by kernel_rfl) (by simp) ?_
                  refine AllReadyH.cons rfl (fun K hK => ?_) AllReadyH.nil
                  go_simp
                  have FBn := hide (show Below w4.heap.size w4 (w4.alloc (.cells #[.int .i64 x0, .int .i64 x1, .int .i64 x2, .int .i64 x3] 44)).drew from ((Below.refl _ _).alloc (Nat.le_refl _) _).drew)
                  refine hK.out _ _ (HSK.out _ FBn.out) (fun hHeld => ?_)
                  clear hK K p1
                  have p1 := (X4.out.next FBn.out).c1
                  try go_simp
                  refine wpAnyH_ready (rs := [20]) (by kernel_rfl) (by simp) ?_
                  refine AllReadyH.cons rfl (fun K hK => ?_) AllReadyH.nil
                  refine step_app_ClsO rfl (.tmp 46) (.tmp 64) 28 rfl Tryd.underlying28 w3.heap.size _ ms rfl (O4.out.below FBn.out) (some ⟨w4.heap.size, 0, none⟩) 1 1 (w4.heap.size + 1) [⟨x0, x1, x2, x3⟩] rfl (by simp) (cboxOne (CBox.drew (CBox.new w4 44 ⟨x0, x1, x2, x3⟩))) (Nat.le_trans S4.out FBn.out.size) (by omega) ?_
                  intro v6 w6 hown6 hb6 ho6
                  rw [← HM.out] at hown6
                  obtain ⟨A6, c6, rfl⟩ := hown6.shape
                  have F6 := hide (show Below w3.heap.size w4 w6 from (FBn.out.mono S4.out).trans hb6)
                  have HS6 := hide (show w6.cell? ⟨g4, 0, none⟩ = some (.string za) ∧ w6.cell? ⟨g4, 1, none⟩ = some (.string zbb) ∧ w6.cell? ⟨g4, 2, none⟩ = some (.string zc) ∧ w6.cell? ⟨g4, 3, none⟩ = some (.string zd) from by
                    have h := ho6 g4 (Nat.lt_of_lt_of_le hg4 FBn.out.size) (fun e => by have := HAv.out g4 e; omega)
                    have h2 := h.trans (FBn.out.block g4 hg4)
                    obtain ⟨h3, h4, h5, h6⟩ := HSK.out w4 (Below.refl _ _)
                    have hc : ∀ i, w6.cell? ⟨g4, i, none⟩ = w4.cell? ⟨g4, i, none⟩ := fun i => by simp [World.cell?, h2]
                    exact ⟨(hc 0).trans h3, (hc 1).trans h4, (hc 2).trans h5, (hc 3).trans h6⟩)
                  have X6 := hide (X4.out.below F6.out hp3)
                  have Y6 := hide (Y4.out.below F6.out hw3)
                  have B6 := hide (B4.out.trans (F6.out.mono (by omega)))
                  have ST6 := hide (ST4.out.below F6.out (Nat.le_refl _))
                  have S6 := hide (Nat.le_trans S4.out F6.out.size)
                  have O6 := hide hown6
                  clear hown6 hb6 ho6 p1
                  have p1 := X6.out.c1
                  have pf := X6.out.f 1
                  refine hK.out _ _ HS6.out (fun hHeld => ?_)
                  clear hK K
                  try go_simp
                  refine wpAnyH_take (i := 21) (v := ?_) rfl (by kernel_rfl) (by kernel_rfl) (by kernel_rfl) (fun _ _ _ h => h) (Or.inl ⟨by rfl, ?_⟩) (by assumption) ?_
                  rotate_left
                  · (intro w hSw; (try dsimp only at hSw); go_simp; first | done | (with_reducible rfl))
                  try go_simp
                  refine wpAnyH_ready (rs := [22]) (by kernel_rfl) (by simp) ?_
                  refine AllReadyH.cons rfl (fun K hK => ?_) AllReadyH.nil
                  go_simp
                  refine hK.out _ _ ?_ (fun hHeld => ?_)
                  · obtain ⟨h0, h1, h2, h3⟩ := HS6.out
                    refine ⟨?_, ?_, ?_, ?_⟩ <;> go_simp
                  clear hK K
                  try go_simp
                  refine wpAnyH_done (by kernel_rfl) ?_ _
                  have X7 := hide (X6.out.set1 (.slice A6 ms'.length c6))
                  have Y7 := hide (Y6.out.setOther (a := ⟨pb, 1, none⟩) (by simp; omega) (.slice A6 ms'.length c6))
                  have O7 := hide (O6.out.keep (w' := w6.setCell ⟨pb, 1, none⟩ (.slice A6 ms'.length c6)) fun g hg _ => Below.heap_setCell _ _ _ _ (by simp; omega))
                  have B7 := hide (B6.out.setCell (p := ⟨pb, 1, none⟩) (by simp; omega) (.slice A6 ms'.length c6))
                  have ST7 : Hid (Strs (w6.setCell ⟨pb, 1, none⟩ (.slice A6 ms'.length c6)) w3.heap.size (some ad) ws.length ws) := hide ⟨ST6.out.1, fun hn => by
                    obtain ⟨ad', e, hb, hc⟩ := ST6.out.2 hn
                    have h : (w6.setCell ⟨pb, 1, none⟩ (.slice A6 ms'.length c6)).heap[ad'.block]? = w6.heap[ad'.block]? := Below.heap_setCell _ _ _ _ (by have := HA3.out ad' e; simp; omega)
                    exact ⟨ad', e, hb, fun j hj => (show (w6.setCell ⟨pb, 1, none⟩ (.slice A6 ms'.length c6)).cell? (ad'.add j) = w6.cell? (ad'.add j) from by simp only [World.cell?, block_of_add, h]).trans (hc j hj)⟩⟩
                  have S7 := hide (show w3.heap.size ≤ (w6.setCell ⟨pb, 1, none⟩ (.slice A6 ms'.length c6)).heap.size from by have := S6.out; simp; omega)
                  clear p1 pf X6 Y6 O6 B6 ST6 S6 F6 HS6 FBn
                  generalize (w6.setCell ⟨pb, 1, none⟩ (.slice A6 ms'.length c6)) = W7 at *
                  go_wp2_with fail
                  go_roundw
                  case rel => exact ⟨k + 1, by omega, by go_num, by rw [Hms.out]; exact ⟨A6, c6, X7, O7⟩, Y7, B7, ST7, S7, HN2⟩
                  case measure => simp [intOf]; omega
                · go_simp
                  go_at_call 41; (with_reducible refine (HRc.out _).mono ?_); rintro e w' ⟨rfl, rfl⟩
                  go_wp2_with fail
                  refine hK.out _ _ ?_ (fun hHeld => ?_)
                  · exact HSK.out _ (Below.refl _ _).drew
                  clear hK K
                  try go_simp
                  refine wpAnyH_ready (rs := [1, 17]) (by kernel_rfl) (by simp) ?_
                  refine AllReadyH.cons rfl (fun K hK => ?_) (AllReadyH.cons rfl (fun K hK => ?_) AllReadyH.nil)
                  · go_simp
                    refine hK.out _ _ (HSK.out _ (Below.refl _ _).drew) (fun hHeld => ?_)
                    clear hK K
                    try go_simp
                    refine wpAnyH_ready (rs := [17]) (by kernel_rfl) (by simp) ?_
                    refine AllReadyH.cons rfl (fun K hK => ?_) AllReadyH.nil
                    go_simp
                    go_at_call 41; (with_reducible refine (HRd.out _).mono ?_); rintro e w' ⟨rfl, rfl⟩
                    go_wp2_with fail
                    refine hK.out _ _ ?_ (fun hHeld => ?_)
                    · exact HSK.out _ (Below.refl _ _).drew
                    clear hK K
                    try go_simp
                    refine wpAnyH_take (i := 18) (v := ?_) rfl (by kernel_rfl) (by kernel_rfl) (by kernel_rfl) (fun _ _ _ h => h) (Or.inl ⟨by rfl, ?_⟩) (by assumption) ?_
                    rotate_left
                    · (intro w hSw; (try dsimp only at hSw); go_simp; first | done | (with_reducible rfl))
                    try go_simp
                    refine wpAnyH_ready (rs := [19]) (by kernel_rfl) (by simp) ?_
                    refine AllReadyH.cons rfl (fun K hK => ?_) AllReadyH.nil
                    go_simp
                    have FBn := hide (show Below w4.heap.size w4 (w4.alloc (.cells #[.int .i64 x0, .int .i64 x1, .int .i64 x2, .int .i64 x3] 44)).drew from ((Below.refl _ _).alloc (Nat.le_refl _) _).drew)
                    refine hK.out _ _ (HSK.out _ FBn.out) (fun hHeld => ?_)
                    clear hK K p1
                    have p1 := (X4.out.next FBn.out).c1
                    try go_simp
                    refine wpAnyH_ready (rs := [20]) (by kernel_rfl) (by simp) ?_
                    refine AllReadyH.cons rfl (fun K hK => ?_) AllReadyH.nil
                    refine step_app_ClsO rfl (.tmp 46) (.tmp 64) 28 rfl Tryd.underlying28 w3.heap.size _ ms rfl (O4.out.below FBn.out) (some ⟨w4.heap.size, 0, none⟩) 1 1 (w4.heap.size + 1) [⟨x0, x1, x2, x3⟩] rfl (by simp) (cboxOne (CBox.drew (CBox.new w4 44 ⟨x0, x1, x2, x3⟩))) (Nat.le_trans S4.out FBn.out.size) (by omega) ?_
                    intro v6 w6 hown6 hb6 ho6
                    rw [← HM.out] at hown6
                    obtain ⟨A6, c6, rfl⟩ := hown6.shape
                    have F6 := hide (show Below w3.heap.size w4 w6 from (FBn.out.mono S4.out).trans hb6)
                    have HS6 := hide (show w6.cell? ⟨g4, 0, none⟩ = some (.string za) ∧ w6.cell? ⟨g4, 1, none⟩ = some (.string zbb) ∧ w6.cell? ⟨g4, 2, none⟩ = some (.string zc) ∧ w6.cell? ⟨g4, 3, none⟩ = some (.string zd) from by
                      have h := ho6 g4 (Nat.lt_of_lt_of_le hg4 FBn.out.size) (fun e => by have := HAv.out g4 e; omega)
                      have h2 := h.trans (FBn.out.block g4 hg4)
                      obtain ⟨h3, h4, h5, h6⟩ := HSK.out w4 (Below.refl _ _)
                      have hc : ∀ i, w6.cell? ⟨g4, i, none⟩ = w4.cell? ⟨g4, i, none⟩ := fun i => by simp [World.cell?, h2]
                      exact ⟨(hc 0).trans h3, (hc 1).trans h4, (hc 2).trans h5, (hc 3).trans h6⟩)
                    have X6 := hide (X4.out.below F6.out hp3)
                    have Y6 := hide (Y4.out.below F6.out hw3)
                    have B6 := hide (B4.out.trans (F6.out.mono (by omega)))
                    have ST6 := hide (ST4.out.below F6.out (Nat.le_refl _))
                    have S6 := hide (Nat.le_trans S4.out F6.out.size)
                    have O6 := hide hown6
                    clear hown6 hb6 ho6 p1
                    have p1 := X6.out.c1
                    have pf := X6.out.f 1
                    refine hK.out _ _ HS6.out (fun hHeld => ?_)
                    clear hK K
                    try go_simp
                    refine wpAnyH_take (i := 21) (v := ?_) rfl (by kernel_rfl) (by kernel_rfl) (by kernel_rfl) (fun _ _ _ h => h) (Or.inl ⟨by rfl, ?_⟩) (by assumption) ?_
                    rotate_left
                    · (intro w hSw; (try dsimp only at hSw); go_simp; first | done | (with_reducible rfl))
                    try go_simp
                    refine wpAnyH_ready (rs := [22]) (by kernel_rfl) (by simp) ?_
                    refine AllReadyH.cons rfl (fun K hK => ?_) AllReadyH.nil
                    go_simp
                    refine hK.out _ _ ?_ (fun hHeld => ?_)
                    · obtain ⟨h0, h1, h2, h3⟩ := HS6.out
                      refine ⟨?_, ?_, ?_, ?_⟩ <;> go_simp
                    clear hK K
                    try go_simp
                    refine wpAnyH_done (by kernel_rfl) ?_ _
                    have X7 := hide (X6.out.set1 (.slice A6 ms'.length c6))
                    have Y7 := hide (Y6.out.setOther (a := ⟨pb, 1, none⟩) (by simp; omega) (.slice A6 ms'.length c6))
                    have O7 := hide (O6.out.keep (w' := w6.setCell ⟨pb, 1, none⟩ (.slice A6 ms'.length c6)) fun g hg _ => Below.heap_setCell _ _ _ _ (by simp; omega))
                    have B7 := hide (B6.out.setCell (p := ⟨pb, 1, none⟩) (by simp; omega) (.slice A6 ms'.length c6))
                    have ST7 : Hid (Strs (w6.setCell ⟨pb, 1, none⟩ (.slice A6 ms'.length c6)) w3.heap.size (some ad) ws.length ws) := hide ⟨ST6.out.1, fun hn => by
                      obtain ⟨ad', e, hb, hc⟩ := ST6.out.2 hn
                      have h : (w6.setCell ⟨pb, 1, none⟩ (.slice A6 ms'.length c6)).heap[ad'.block]? = w6.heap[ad'.block]? := Below.heap_setCell _ _ _ _ (by have := HA3.out ad' e; simp; omega)
                      exact ⟨ad', e, hb, fun j hj => (show (w6.setCell ⟨pb, 1, none⟩ (.slice A6 ms'.length c6)).cell? (ad'.add j) = w6.cell? (ad'.add j) from by simp only [World.cell?, block_of_add, h]).trans (hc j hj)⟩⟩
                    have S7 := hide (show w3.heap.size ≤ (w6.setCell ⟨pb, 1, none⟩ (.slice A6 ms'.length c6)).heap.size from by have := S6.out; simp; omega)
                    clear p1 pf X6 Y6 O6 B6 ST6 S6 F6 HS6 FBn
                    generalize (w6.setCell ⟨pb, 1, none⟩ (.slice A6 ms'.length c6)) = W7 at *
                    go_wp2_with fail
                    go_roundw
                    case rel => exact ⟨k + 1, by omega, by go_num, by rw [Hms.out]; exact ⟨A6, c6, X7, O7⟩, Y7, B7, ST7, S7, HN2⟩
                    case measure => simp [intOf]; omega
                  · go_simp
                    go_at_call 41; (with_reducible refine (HRd.out _).mono ?_); rintro e w' ⟨rfl, rfl⟩
                    go_wp2_with fail
                    refine hK.out _ _ ?_ (fun hHeld => ?_)
                    · exact HSK.out _ (Below.refl _ _).drew
                    clear hK K
                    try go_simp
                    refine wpAnyH_take (i := 18) (v := ?_) rfl (by kernel_rfl) (by kernel_rfl) (by kernel_rfl) (fun _ _ _ h => h) (Or.inl ⟨by rfl, ?_⟩) (by assumption) ?_
                    rotate_left
                    · (intro w hSw; (try dsimp only at hSw); go_simp; first | done | (with_reducible rfl))
                    try go_simp
                    refine wpAnyH_ready (rs := [1, 19]) (by kernel_rfl) (by simp) ?_
                    refine AllReadyH.cons rfl (fun K hK => ?_) (AllReadyH.cons rfl (fun K hK => ?_) AllReadyH.nil)
                    · go_simp
                      refine hK.out _ _ (HSK.out _ (Below.refl _ _).drew) (fun hHeld => ?_)
                      clear hK K
                      try go_simp
                      refine wpAnyH_ready (rs := [19]) (by kernel_rfl) (by simp) ?_
                      refine AllReadyH.cons rfl (fun K hK => ?_) AllReadyH.nil
                      go_simp
                      have FBn := hide (show Below w4.heap.size w4 (w4.alloc (.cells #[.int .i64 x0, .int .i64 x1, .int .i64 x2, .int .i64 x3] 44)).drew from ((Below.refl _ _).alloc (Nat.le_refl _) _).drew)
                      refine hK.out _ _ (HSK.out _ FBn.out) (fun hHeld => ?_)
                      clear hK K p1
                      have p1 := (X4.out.next FBn.out).c1
                      try go_simp
                      refine wpAnyH_ready (rs := [20]) (by kernel_rfl) (by simp) ?_
                      refine AllReadyH.cons rfl (fun K hK => ?_) AllReadyH.nil
                      refine step_app_ClsO rfl (.tmp 46) (.tmp 64) 28 rfl Tryd.underlying28 w3.heap.size _ ms rfl (O4.out.below FBn.out) (some ⟨w4.heap.size, 0, none⟩) 1 1 (w4.heap.size + 1) [⟨x0, x1, x2, x3⟩] rfl (by simp) (cboxOne (CBox.drew (CBox.new w4 44 ⟨x0, x1, x2, x3⟩))) (Nat.le_trans S4.out FBn.out.size) (by omega) ?_
                      intro v6 w6 hown6 hb6 ho6
                      rw [← HM.out] at hown6
                      obtain ⟨A6, c6, rfl⟩ := hown6.shape
                      have F6 := hide (show Below w3.heap.size w4 w6 from (FBn.out.mono S4.out).trans hb6)
                      have HS6 := hide (show w6.cell? ⟨g4, 0, none⟩ = some (.string za) ∧ w6.cell? ⟨g4, 1, none⟩ = some (.string zbb) ∧ w6.cell? ⟨g4, 2, none⟩ = some (.string zc) ∧ w6.cell? ⟨g4, 3, none⟩ = some (.string zd) from by
                        have h := ho6 g4 (Nat.lt_of_lt_of_le hg4 FBn.out.size) (fun e => by have := HAv.out g4 e; omega)
                        have h2 := h.trans (FBn.out.block g4 hg4)
                        obtain ⟨h3, h4, h5, h6⟩ := HSK.out w4 (Below.refl _ _)
                        have hc : ∀ i, w6.cell? ⟨g4, i, none⟩ = w4.cell? ⟨g4, i, none⟩ := fun i => by simp [World.cell?, h2]
                        exact ⟨(hc 0).trans h3, (hc 1).trans h4, (hc 2).trans h5, (hc 3).trans h6⟩)
                      have X6 := hide (X4.out.below F6.out hp3)
                      have Y6 := hide (Y4.out.below F6.out hw3)
                      have B6 := hide (B4.out.trans (F6.out.mono (by omega)))
                      have ST6 := hide (ST4.out.below F6.out (Nat.le_refl _))
                      have S6 := hide (Nat.le_trans S4.out F6.out.size)
                      have O6 := hide hown6
                      clear hown6 hb6 ho6 p1
                      have p1 := X6.out.c1
                      have pf := X6.out.f 1
                      refine hK.out _ _ HS6.out (fun hHeld => ?_)
                      clear hK K
                      try go_simp
                      refine wpAnyH_take (i := 21) (v := ?_) rfl (by kernel_rfl) (by kernel_rfl) (by kernel_rfl) (fun _ _ _ h => h) (Or.inl ⟨by rfl, ?_⟩) (by assumption) ?_
                      rotate_left
                      · (intro w hSw; (try dsimp only at hSw); go_simp; first | done | (with_reducible rfl))
                      try go_simp
                      refine wpAnyH_ready (rs := [22]) (by kernel_rfl) (by simp) ?_
                      refine AllReadyH.cons rfl (fun K hK => ?_) AllReadyH.nil
                      go_simp
                      refine hK.out _ _ ?_ (fun hHeld => ?_)
                      · obtain ⟨h0, h1, h2, h3⟩ := HS6.out
                        refine ⟨?_, ?_, ?_, ?_⟩ <;> go_simp
                      clear hK K
                      try go_simp
                      refine wpAnyH_done (by kernel_rfl) ?_ _
                      have X7 := hide (X6.out.set1 (.slice A6 ms'.length c6))
                      have Y7 := hide (Y6.out.setOther (a := ⟨pb, 1, none⟩) (by simp; omega) (.slice A6 ms'.length c6))
                      have O7 := hide (O6.out.keep (w' := w6.setCell ⟨pb, 1, none⟩ (.slice A6 ms'.length c6)) fun g hg _ => Below.heap_setCell _ _ _ _ (by simp; omega))
                      have B7 := hide (B6.out.setCell (p := ⟨pb, 1, none⟩) (by simp; omega) (.slice A6 ms'.length c6))
                      have ST7 : Hid (Strs (w6.setCell ⟨pb, 1, none⟩ (.slice A6 ms'.length c6)) w3.heap.size (some ad) ws.length ws) := hide ⟨ST6.out.1, fun hn => by
                        obtain ⟨ad', e, hb, hc⟩ := ST6.out.2 hn
                        have h : (w6.setCell ⟨pb, 1, none⟩ (.slice A6 ms'.length c6)).heap[ad'.block]? = w6.heap[ad'.block]? := Below.heap_setCell _ _ _ _ (by have := HA3.out ad' e; simp; omega)
                        exact ⟨ad', e, hb, fun j hj => (show (w6.setCell ⟨pb, 1, none⟩ (.slice A6 ms'.length c6)).cell? (ad'.add j) = w6.cell? (ad'.add j) from by simp only [World.cell?, block_of_add, h]).trans (hc j hj)⟩⟩
                      have S7 := hide (show w3.heap.size ≤ (w6.setCell ⟨pb, 1, none⟩ (.slice A6 ms'.length c6)).heap.size from by have := S6.out; simp; omega)
                      clear p1 pf X6 Y6 O6 B6 ST6 S6 F6 HS6 FBn
                      generalize (w6.setCell ⟨pb, 1, none⟩ (.slice A6 ms'.length c6)) = W7 at *
                      go_wp2_with fail
                      go_roundw
                      case rel => exact ⟨k + 1, by omega, by go_num, by rw [Hms.out]; exact ⟨A6, c6, X7, O7⟩, Y7, B7, ST7, S7, HN2⟩
                      case measure => simp [intOf]; omega
                    · go_simp
                      have FBn := hide (show Below w4.heap.size w4 (w4.alloc (.cells #[.int .i64 x0, .int .i64 x1, .int .i64 x2, .int .i64 x3] 44)).drew from ((Below.refl _ _).alloc (Nat.le_refl _) _).drew)
                      refine hK.out _ _ (HSK.out _ FBn.out) (fun hHeld => ?_)
                      clear hK K p1
                      have p1 := (X4.out.next FBn.out).c1
                      try go_simp
                      refine wpAnyH_ready (rs := [1]) (by kernel_rfl) (by simp) ?_
                      refine AllReadyH.cons rfl (fun K hK => ?_) AllReadyH.nil
                      go_simp
                      refine hK.out _ _ (HSK.out _ FBn.out) (fun hHeld => ?_)
                      clear hK K
                      try go_simp
                      refine wpAnyH_ready (rs := [20]) (by kernel_rfl) (by simp) ?_
                      refine AllReadyH.cons rfl (fun K hK => ?_) AllReadyH.nil
                      refine step_app_ClsO rfl (.tmp 46) (.tmp 64) 28 rfl Tryd.underlying28 w3.heap.size _ ms rfl (O4.out.below FBn.out) (some ⟨w4.heap.size, 0, none⟩) 1 1 (w4.heap.size + 1) [⟨x0, x1, x2, x3⟩] rfl (by simp) (cboxOne (CBox.drew (CBox.new w4 44 ⟨x0, x1, x2, x3⟩))) (Nat.le_trans S4.out FBn.out.size) (by omega) ?_
                      intro v6 w6 hown6 hb6 ho6
                      rw [← HM.out] at hown6
                      obtain ⟨A6, c6, rfl⟩ := hown6.shape
                      have F6 := hide (show Below w3.heap.size w4 w6 from (FBn.out.mono S4.out).trans hb6)
                      have HS6 := hide (show w6.cell? ⟨g4, 0, none⟩ = some (.string za) ∧ w6.cell? ⟨g4, 1, none⟩ = some (.string zbb) ∧ w6.cell? ⟨g4, 2, none⟩ = some (.string zc) ∧ w6.cell? ⟨g4, 3, none⟩ = some (.string zd) from by
                        have h := ho6 g4 (Nat.lt_of_lt_of_le hg4 FBn.out.size) (fun e => by have := HAv.out g4 e; omega)
                        have h2 := h.trans (FBn.out.block g4 hg4)
                        obtain ⟨h3, h4, h5, h6⟩ := HSK.out w4 (Below.refl _ _)
                        have hc : ∀ i, w6.cell? ⟨g4, i, none⟩ = w4.cell? ⟨g4, i, none⟩ := fun i => by simp [World.cell?, h2]
                        exact ⟨(hc 0).trans h3, (hc 1).trans h4, (hc 2).trans h5, (hc 3).trans h6⟩)
                      have X6 := hide (X4.out.below F6.out hp3)
                      have Y6 := hide (Y4.out.below F6.out hw3)
                      have B6 := hide (B4.out.trans (F6.out.mono (by omega)))
                      have ST6 := hide (ST4.out.below F6.out (Nat.le_refl _))
                      have S6 := hide (Nat.le_trans S4.out F6.out.size)
                      have O6 := hide hown6
                      clear hown6 hb6 ho6 p1
                      have p1 := X6.out.c1
                      have pf := X6.out.f 1
                      refine hK.out _ _ HS6.out (fun hHeld => ?_)
                      clear hK K
                      try go_simp
                      refine wpAnyH_take (i := 21) (v := ?_) rfl (by kernel_rfl) (by kernel_rfl) (by kernel_rfl) (fun _ _ _ h => h) (Or.inl ⟨by rfl, ?_⟩) (by assumption) ?_
                      rotate_left
                      · (intro w hSw; (try dsimp only at hSw); go_simp; first | done | (with_reducible rfl))
                      try go_simp
                      refine wpAnyH_ready (rs := [22]) (by kernel_rfl) (by simp) ?_
                      refine AllReadyH.cons rfl (fun K hK => ?_) AllReadyH.nil
                      go_simp
                      refine hK.out _ _ ?_ (fun hHeld => ?_)
                      · obtain ⟨h0, h1, h2, h3⟩ := HS6.out
                        refine ⟨?_, ?_, ?_, ?_⟩ <;> go_simp
                      clear hK K
                      try go_simp
                      refine wpAnyH_done (by kernel_rfl) ?_ _
                      have X7 := hide (X6.out.set1 (.slice A6 ms'.length c6))
                      have Y7 := hide (Y6.out.setOther (a := ⟨pb, 1, none⟩) (by simp; omega) (.slice A6 ms'.length c6))
                      have O7 := hide (O6.out.keep (w' := w6.setCell ⟨pb, 1, none⟩ (.slice A6 ms'.length c6)) fun g hg _ => Below.heap_setCell _ _ _ _ (by simp; omega))
                      have B7 := hide (B6.out.setCell (p := ⟨pb, 1, none⟩) (by simp; omega) (.slice A6 ms'.length c6))
                      have ST7 : Hid (Strs (w6.setCell ⟨pb, 1, none⟩ (.slice A6 ms'.length c6)) w3.heap.size (some ad) ws.length ws) := hide ⟨ST6.out.1, fun hn => by
                        obtain ⟨ad', e, hb, hc⟩ := ST6.out.2 hn
                        have h : (w6.setCell ⟨pb, 1, none⟩ (.slice A6 ms'.length c6)).heap[ad'.block]? = w6.heap[ad'.block]? := Below.heap_setCell _ _ _ _ (by have := HA3.out ad' e; simp; omega)
                        exact ⟨ad', e, hb, fun j hj => (show (w6.setCell ⟨pb, 1, none⟩ (.slice A6 ms'.length c6)).cell? (ad'.add j) = w6.cell? (ad'.add j) from by simp only [World.cell?, block_of_add, h]).trans (hc j hj)⟩⟩
                      have S7 := hide (show w3.heap.size ≤ (w6.setCell ⟨pb, 1, none⟩ (.slice A6 ms'.length c6)).heap.size from by have := S6.out; simp; omega)
                      clear p1 pf X6 Y6 O6 B6 ST6 S6 F6 HS6 FBn
                      generalize (w6.setCell ⟨pb, 1, none⟩ (.slice A6 ms'.length c6)) = W7 at *
                      go_wp2_with fail
                      go_roundw
                      case rel => exact ⟨k + 1, by omega, by go_num, by rw [Hms.out]; exact ⟨A6, c6, X7, O7⟩, Y7, B7, ST7, S7, HN2⟩
                      case measure => simp [intOf]; omega
        · have HFY2 := hide (HFY.out (fun j hj => HW.out j hj (by omega)))
          have hkl : (ws.map clOf).take k = ws.map clOf := List.take_of_length_le (by rw [List.length_map]; omega)
          rw [hkl] at HX HO
          have hn0 : (ws.map clOf).length ≤ 1000 := by rw [List.length_map]; omega
          have HPY := hide (And.intro (HE.out HFY2.out).1 (HE.out HFY2.out).2.1)
          have HTX := hide (HE.out HFY2.out).2.2
          clear hkl HE HNF HFN HFY HFY2 HW HST Hpc
          generalize ws.map clOf = cs at *
          go_wp2_with fail
          have HSK := hide (fun W' (h : Below wr.heap.size wr W') => show W'.cell? ⟨pb, 0, none⟩ = some (.int .i64 ra) ∧ W'.cell? ⟨pb, 1, none⟩ = some (.slice Av cs.length cv) from ⟨(HX.out.next h).c0, (HX.out.next h).c1⟩)
          have HGd := hide (fun W' (h : Below wr.heap.size wr W') => pzGood_any Av cs.length cv wr.heap.size cs ra W' (HO.out.list.below h (Nat.le_refl _)) h.size (by omega))
          have HTx := hide (fun W' (h : Below wr.heap.size wr W') (ho : pzOk ra cs = true) => pzText_any Av cs.length cv wr.heap.size cs ra W' (HO.out.list.below h (Nat.le_refl _)) h.size ho)
          cases hg : pzOk ra cs
          · rw [hg] at HGd
            have HOK := hide (HPY.out.1 hg)
            clear hg HTx
            refine wp_region_held_drew (S := (fun W' => W'.cell? ⟨pb, 0, none⟩ = some (.int .i64 ra) ∧ W'.cell? ⟨pb, 1, none⟩ = some (.slice Av cs.length cv))) (by kernel_rfl) ?_ (fun hHeld => ?_)
            · exact HSK.out _ (Below.refl _ _).drew
            refine wpAnyH_take (i := 0) (v := ?_) rfl (by kernel_rfl) (by kernel_rfl) (by kernel_rfl) (fun _ _ _ h => h) (Or.inl ⟨by rfl, ?_⟩) (by assumption) ?_
            rotate_left
            · (intro w hSw; (try dsimp only at hSw); go_simp; first | done | (with_reducible rfl))
            try go_simp
            refine wpAnyH_take (i := 1) (v := ?_) rfl (by kernel_rfl) (by kernel_rfl) (by kernel_rfl) (fun _ _ _ h => h) (Or.inl ⟨by rfl, ?_⟩) (by assumption) ?_
            rotate_left
            · (intro w hSw; (try dsimp only at hSw); go_simp; first | done | (with_reducible rfl))
            try go_simp
            refine wpAnyH_ready (rs := [2]) (by kernel_rfl) (by simp) ?_
            refine AllReadyH.cons rfl (fun K hK => ?_) AllReadyH.nil
            go_simp
            go_at_call 15; (with_reducible refine (HGd.out _ ?_).mono ?_); (exact (Below.refl _ _).drew); rintro e w5 ⟨rfl, hb5⟩; have F5 := hide (show Below wr.heap.size wr w5 from (Below.refl _ _).drew.trans hb5)
            go_wp2_with fail
            refine hK.out _ _ ?_ (fun hHeld => ?_)
            · exact HSK.out _ F5.out
            clear hK K
            try go_simp
            refine wpAnyH_take (i := 3) (v := ?_) rfl (by kernel_rfl) (by kernel_rfl) (by kernel_rfl) (fun _ _ _ h => h) (Or.inl ⟨by rfl, ?_⟩) (by assumption) ?_
            rotate_left
            · (intro w hSw; (try dsimp only at hSw); go_simp; first | done | (with_reducible rfl))
            try go_simp
            refine wpAnyH_take (i := 4) (v := undef) rfl (by kernel_rfl) (by kernel_rfl) (by kernel_rfl) (fun _ _ _ h => h) (Or.inr ⟨by kernel_rfl, rfl⟩) (by assumption) ?_
            try go_simp
            refine wpAnyH_take (i := 5) (v := undef) rfl (by kernel_rfl) (by kernel_rfl) (by kernel_rfl) (fun _ _ _ h => h) (Or.inr ⟨by kernel_rfl, rfl⟩) (by assumption) ?_
            try go_simp
            refine wpAnyH_take (i := 6) (v := undef) rfl (by kernel_rfl) (by kernel_rfl) (by kernel_rfl) (fun _ _ _ h => h) (Or.inr ⟨by kernel_rfl, rfl⟩) (by assumption) ?_
            try go_simp
            refine wpAnyH_take (i := 7) (v := undef) rfl (by kernel_rfl) (by kernel_rfl) (by kernel_rfl) (fun _ _ _ h => h) (Or.inr ⟨by kernel_rfl, rfl⟩) (by assumption) ?_
            try go_simp
            refine wpAnyH_take (i := 8) (v := ?_) rfl (by kernel_rfl) (by kernel_rfl) (by kernel_rfl) (fun _ _ _ h => h) (Or.inl ⟨by rfl, ?_⟩) (by assumption) ?_
            rotate_left
            · (intro w hSw; (try dsimp only at hSw); go_simp; first | done | (with_reducible rfl))
            try go_simp
            have Q6 := HY.out.next F5.out
            have r0 := Q6.c0
            have f0 := Q6.f 0
            have R1 := Q6.set0 (.int .i64 ra)
            have r1 := R1.c1
            have f1 := R1.f 1
            have R2 := R1.set1 (.slice Av cs.length cv)
            have i0 := R2.c0
            have i1 := R2.c1
            clear R1 R2 Q6
            refine wpAnyH_ready (rs := [9]) (by kernel_rfl) (by simp) ?_
            refine AllReadyH.cons rfl (fun K hK => ?_) AllReadyH.nil
            go_simp
            refine hK.out _ _ ?_ (fun hHeld => ?_)
            · obtain ⟨h0, h1⟩ := HSK.out _ F5.out
              refine ⟨?_, ?_⟩ <;> go_simp
            clear hK K
            try go_simp
            refine wpAnyH_take (i := 10) (v := ?_) rfl (by kernel_rfl) (by kernel_rfl) (by kernel_rfl) (fun _ _ _ h => h) (Or.inl ⟨by rfl, ?_⟩) (by assumption) ?_
            rotate_left
            · (intro w hSw; (try dsimp only at hSw); go_simp; first | done | (with_reducible rfl))
            try go_simp
            refine wpAnyH_done (by kernel_rfl) ?_ _
            go_wp2_with fail
            exact bodyPost_ret (v := .tuple #[.agg #[.int .i64 ra, .slice Av cs.length cv], .bool false]) (by simp [results, Tryd.results23, go_sem, i0, i1]) rfl ⟨ra, cs, Av, cv, by first | (rw [HOK.out]; done) | (rw [HOK.out]; rfl) | (rw [HOK.out.1]; done) | (rw [HOK.out.1]; rfl), ((HO.out.below F5.out).keep (fun g hg _ => (Below.heap_setCell _ _ _ _ (by simp; omega)).trans (Below.heap_setCell _ _ _ _ (by simp; omega)))).less (by omega), ((HB.out.trans (F5.out.mono HB.out.size)).setCell (Nat.le_refl _) _).setCell (Nat.le_refl _) _, fun h => by rw [HOK.out] at h; cases h⟩
          · rw [hg] at HGd
            have HOK := hide (HPY.out.2 hg)
            have HTy := hide (fun W' h => HTx.out W' h hg)
            rw [HTX.out hg, Hss.out] at HTy
            have e0 : (s.toList == s.toList) = true := by simp
            clear hg HTx
            refine wp_region_held_drew (S := (fun W' => W'.cell? ⟨pb, 0, none⟩ = some (.int .i64 ra) ∧ W'.cell? ⟨pb, 1, none⟩ = some (.slice Av cs.length cv))) (by kernel_rfl) ?_ (fun hHeld => ?_)
            · exact HSK.out _ (Below.refl _ _).drew
            refine wpAnyH_take (i := 0) (v := ?_) rfl (by kernel_rfl) (by kernel_rfl) (by kernel_rfl) (fun _ _ _ h => h) (Or.inl ⟨by rfl, ?_⟩) (by assumption) ?_
            rotate_left
            · (intro w hSw; (try dsimp only at hSw); go_simp; first | done | (with_reducible rfl))
            try go_simp
            refine wpAnyH_take (i := 1) (v := ?_) rfl (by kernel_rfl) (by kernel_rfl) (by kernel_rfl) (fun _ _ _ h => h) (Or.inl ⟨by rfl, ?_⟩) (by assumption) ?_
            rotate_left
            · (intro w hSw; (try dsimp only at hSw); go_simp; first | done | (with_reducible rfl))
            try go_simp
            refine wpAnyH_ready (rs := [2]) (by kernel_rfl) (by simp) ?_
            refine AllReadyH.cons rfl (fun K hK => ?_) AllReadyH.nil
            go_simp
            go_at_call 15; (with_reducible refine (HGd.out _ ?_).mono ?_); (exact (Below.refl _ _).drew); rintro e w5 ⟨rfl, hb5⟩; have F5 := hide (show Below wr.heap.size wr w5 from (Below.refl _ _).drew.trans hb5)
            go_wp2_with fail
            refine hK.out _ _ ?_ (fun hHeld => ?_)
            · exact HSK.out _ F5.out
            clear hK K
            try go_simp
            refine wpAnyH_take (i := 3) (v := ?_) rfl (by kernel_rfl) (by kernel_rfl) (by kernel_rfl) (fun _ _ _ h => h) (Or.inl ⟨by rfl, ?_⟩) (by assumption) ?_
            rotate_left
            · (intro w hSw; (try dsimp only at hSw); go_simp; first | done | (with_reducible rfl))
            try go_simp
            refine wpAnyH_take (i := 4) (v := ?_) rfl (by kernel_rfl) (by kernel_rfl) (by kernel_rfl) (fun _ _ _ h => h) (Or.inl ⟨by rfl, ?_⟩) (by assumption) ?_
            rotate_left
            · (intro w hSw; (try dsimp only at hSw); go_simp; first | done | (with_reducible rfl))
            try go_simp
            refine wpAnyH_take (i := 6) (v := ?_) rfl (by kernel_rfl) (by kernel_rfl) (by kernel_rfl) (fun _ _ _ h => h) (Or.inl ⟨by rfl, ?_⟩) (by assumption) ?_
            rotate_left
            · (intro w hSw; (try dsimp only at hSw); go_simp; first | done | (with_reducible rfl))
            try go_simp
            refine wpAnyH_ready (rs := [5]) (by kernel_rfl) (by simp) ?_
            refine AllReadyH.cons rfl (fun K hK => ?_) AllReadyH.nil
            go_simp
            go_at_call 16; (with_reducible refine (HTy.out _ F5.out).mono ?_); rintro e w6 ⟨rfl, hb6⟩; have F6 := hide (below_next F5.out hb6)
            go_wp2_with fail
            refine hK.out _ _ ?_ (fun hHeld => ?_)
            · exact HSK.out _ F6.out
            clear hK K
            try go_simp
            refine wpAnyH_take (i := 7) (v := ?_) rfl (by kernel_rfl) (by kernel_rfl) (by kernel_rfl) (fun _ _ _ h => h) (Or.inl ⟨by rfl, ?_⟩) (by assumption) ?_
            rotate_left
            · (intro w hSw; (try dsimp only at hSw); go_simp; first | done | (with_reducible rfl))
            try go_simp
            refine wpAnyH_take (i := 8) (v := ?_) rfl (by kernel_rfl) (by kernel_rfl) (by kernel_rfl) (fun _ _ _ h => h) (Or.inl ⟨by rfl, ?_⟩) (by assumption) ?_
            rotate_left
            · (intro w hSw; (try dsimp only at hSw); go_simp; first | done | (with_reducible rfl))
            try go_simp
            have Q6 := HY.out.next F6.out
            have r0 := Q6.c0
            have f0 := Q6.f 0
            have R1 := Q6.set0 (.int .i64 ra)
            have r1 := R1.c1
            have f1 := R1.f 1
            have R2 := R1.set1 (.slice Av cs.length cv)
            have i0 := R2.c0
            have i1 := R2.c1
            clear R1 R2 Q6
            refine wpAnyH_ready (rs := [9]) (by kernel_rfl) (by simp) ?_
            refine AllReadyH.cons rfl (fun K hK => ?_) AllReadyH.nil
            go_simp
            refine hK.out _ _ ?_ (fun hHeld => ?_)
            · obtain ⟨h0, h1⟩ := HSK.out _ F6.out
              refine ⟨?_, ?_⟩ <;> go_simp
            clear hK K
            try go_simp
            refine wpAnyH_take (i := 10) (v := ?_) rfl (by kernel_rfl) (by kernel_rfl) (by kernel_rfl) (fun _ _ _ h => h) (Or.inl ⟨by rfl, ?_⟩) (by assumption) ?_
            rotate_left
            · (intro w hSw; (try dsimp only at hSw); go_simp; first | done | (with_reducible rfl))
            try go_simp
            refine wpAnyH_done (by kernel_rfl) ?_ _
            go_wp2_with fail
            exact bodyPost_ret (v := .tuple #[.agg #[.int .i64 ra, .slice Av cs.length cv], .bool true]) (by simp [results, Tryd.results23, go_sem, i0, i1]) rfl ⟨ra, cs, Av, cv, by first | (rw [HOK.out]; done) | (rw [HOK.out]; rfl) | (rw [HOK.out.1]; done) | (rw [HOK.out.1]; rfl), ((HO.out.below F6.out).keep (fun g hg _ => (Below.heap_setCell _ _ _ _ (by simp; omega)).trans (Below.heap_setCell _ _ _ _ (by simp; omega)))).less (by omega), ((HB.out.trans (F6.out.mono HB.out.size)).setCell (Nat.le_refl _) _).setCell (Nat.le_refl _) _, fun _ => ⟨HOK.out.2.1.symm, HOK.out.2.2.symm⟩⟩

set_option maxRecDepth 1000000 in
set_option maxHeartbeats 1000000 in
theorem specParsePuzzle_any (l : List UInt8) (hl : l.length ≤ 1048576) (w : World) :
    Calls Tryd.prog 10 #[.string (bs l)] w (MadeY (pyL l) (pyU l) (pyOk l) w) := by
  have b0 : Below w.heap.size w (w.alloc (.cells #[.int .i64 0, .slice none 0 0] 30)) := (Below.refl _ _).alloc (Nat.le_refl _) _
  have X0 := hide (Bx.new w 30 (.int .i64 0) (.slice none 0 0))
  have HP := hide (pzParse_any l hl (w.alloc (.cells #[.int .i64 0, .slice none 0 0] 30)))
  have HB0 := hide b0
  have S0 := hide (show (w.alloc (.cells #[.int .i64 0, .slice none 0 0] 30)).heap.size = w.heap.size + 1 from by simp)
  have HN : Hid (pyOk l = false → pyU l = 0 ∧ pyL l = []) := hide fun h => by
    cases hp : pyP l with
    | none => exact (py_none hp).2
    | some x => obtain ⟨u, cs⟩ := x; rw [(py_some hp).1] at h; cases h
  clear b0
  unfold MadeZ at HP
  generalize bs l = s at *
  generalize pyL l = yl at *
  generalize pyU l = yu at *
  generalize pyOk l = yo at *
  go_enter Tryd.func10, Tryd.ntmps10
  go_wp2_with fail
  generalize (w.alloc (.cells #[.int .i64 0, .slice none 0 0] 30)) = W0 at *
  refine HP.out.mono ?_; rintro e w1 ⟨u, cs, A, c, rfl, hown, hb1, hyes⟩
  have q1 := hide (below_next HB0.out hb1)
  have S1 := hide hb1.size
  have X1 := hide (X0.out.next hb1)
  have X2 := hide (X1.out.alloc (.cells #[.int .i64 u, .slice A cs.length c] 30))
  have P2 := hide (Bx.new w1 30 (.int .i64 u) (.slice A cs.length c))
  have q2 := hide (q1.out.alloc q1.out.size (.cells #[.int .i64 u, .slice A cs.length c] 30))
  have O2 := hide (hown.below ((Below.refl w1.heap.size w1).alloc (Nat.le_refl _) (.cells #[.int .i64 u, .slice A cs.length c] 30)))
  have HY := hide hyes
  clear hown hb1 hyes
  have p0 := P2.out.c0
  have p1 := P2.out.c1
  have x0 := X2.out.c0
  have x1 := X2.out.c1
  have k0 := X2.out.f 0
  have k1 := X2.out.f 1
  cases yo
  · obtain ⟨rfl, rfl⟩ := HN.out rfl
    have V := (X2.out.set0 (.int .i64 0)).set1 (.slice none 0 0)
    have V0 := V.c0
    have V1 := V.c1
    clear V
    go_wp2_with fail
    exact bodyPost_ret (v := .tuple #[.agg #[.int .i64 0, .slice none 0 0], .bool false]) (by simp [results, Tryd.results10, go_sem, V0, V1]) rfl (madeY_no ((q2.out.setCell (Nat.le_refl _) _).setCell (Nat.le_refl _) _))
  · obtain ⟨hu, hc⟩ := HY.out rfl
    subst hu hc
    have V := (X2.out.set0 (.int .i64 u)).set1 (.slice A cs.length c)
    have V0 := V.c0
    have V1 := V.c1
    clear V
    go_wp2_with fail
    refine bodyPost_ret (v := .tuple #[.agg #[.int .i64 u, .slice A cs.length c], .bool true]) (by simp [results, Tryd.results10, go_sem, V0, V1]) rfl ⟨A, c, rfl, ?_, (q2.out.setCell (Nat.le_refl _) _).setCell (Nat.le_refl _) _⟩
    refine (O2.out.keep (fun g hg hl => ?_)).less (by have := S0.out; omega)
    have h1 : g ≠ w.heap.size := by have := S0.out; omega
    exact (Below.heap_setCell _ _ _ _ h1).trans (Below.heap_setCell _ _ _ _ h1)
end Go.Proofs.YtmjlfmlbmegheaaDoor
