import Derived.Test.YtcbcgapnoompbaaMg43

/-
  RINGS BEFORE, THE MODEL's: riBefore.
-/
namespace Go.Proofs.Ytcbcgapnoompbaa
open Go.RowKit Go.Deep
set_option linter.unusedVariables false

theorem own_one (w : World) (a : Int) (t : TypeId) : Own (w.alloc (.cells #[.int .i64 a] t)) w.heap.size t (.slice (some ⟨w.heap.size, 0, none⟩) 1 1) [a] := by
  have e : (w.alloc (.cells #[.int .i64 a] t)).heap[w.heap.size]? = some (.cells #[.int .i64 a] t (0, 0)) := by
    show (w.heap.push _)[w.heap.size]? = _
    simp
  exact ⟨by simp, .inr ⟨w.heap.size, 1, _, rfl, Nat.le_refl _, e, Nat.le_refl _, by unfold maxLen; omega, by simp, by simp⟩⟩
theorem befM_step (zs : List Int) (n s : Nat) : befM zs n (s + 1) = if wayEnd zs s n = 0 then insU (befM zs n s) (lowM n (wayL zs s n)) else befM zs n s := rfl
theorem lowM_take (n : Nat) (l : List Int) (k : Nat) (h : k < n) (hl : l.length = n + 1) : (lowM n l).take (k + 1) = (lowM n l).take k ++ [l.getD k 0 - l.foldl min 0] := by
  have hlen : (lowM n l).length = n := by unfold lowM; rw [List.length_map, List.length_take]; omega
  rw [List.take_succ_eq_append_getElem (by omega)]
  congr 2
  simp [lowM, List.getD, show k < l.length by omega]
theorem fold_min_take (l : List Int) (k : Nat) (hk : k < l.length) : (l.take (k + 1)).foldl min 0 = min ((l.take k).foldl min 0) (l.getD k 0) := by
  rw [List.take_succ_eq_append_getElem hk, List.foldl_append]
  simp [List.getD, hk]
theorem fold_min_bd (l : List Int) (b : Int) (h : ∀ z ∈ l, -b ≤ z) (hb : 0 ≤ b) : -b ≤ l.foldl min 0 ∧ l.foldl min 0 ≤ 0 := by
  obtain ⟨h1, _, h3⟩ := foldl_min_le l 0
  refine ⟨?_, h1⟩
  rcases h3 with h3 | h3
  · omega
  · exact h _ h3

/-- 'append(v, l...)' onto a row of lists of the call's own, l whatever row of lists. -/
theorem wpList_app_vals {wr : World} {ops : Array Oper} {rest : List Oper} {o : Oper} {a : Act} {Q : Exit → Act → World → Prop} (hgd : o.guard = none) (s x : Operand)
    (ho : o.op = .call { callee := .builtin .append, args := #[s, x], argTypes := #[26, 26] })
    (K : Nat) (v : Value) (n : Nat) (xs : List Value) (hs : a.eval s = v) (hown : wr.ownsRow K 24 1 v n xs) (ad : Addr) (m c : Nat) (news : List Value) (hx : a.eval x = .slice (some ad) m c) (hl : news.length = m)
    (hv : ∀ j u, news[j]? = some u → wr.cell? (ad.add j) = some u) (h1 : ∀ u ∈ news, u.oneCell' = true) (hK : K ≤ wr.heap.size) (hlen : n + m < 1000000)
    (h : ∀ v' w', w'.ownsRow K 24 1 v' (n + m) (xs ++ news) → Below K wr w' → wpList Try.prog ops Q rest (a.put o.dst v') w') :
    wpList Try.prog ops Q (o :: rest) a wr := by
  obtain ⟨i0, hi, hz0, hz1, hz2⟩ := info_parts3 infoRowT
  refine wpList_append_own _ hgd s x 26 ho K 24 i0 (.slice none 0 0) 1 24 Try.underlying26 hi hz0 hz1 hz2 rfl (by decide) v n xs hs hown ad m c news hx (by rw [hl, Nat.mul_one]) hv h1 (by unfold maxLen; omega) (by omega) hK ?_
  intro v' w' h2 h3 _
  refine h v' w' h2 ((Below.refl K wr).grown h3 hK ?_)
  intro k hk
  exact (World.ownsRow.lt hown k hk).1
theorem wpList_app_oneG {W : World} {ops : Array Oper} {rest : List Oper} {o : Oper} {a : Act} {Q : Exit → Act → World → Prop} (hgd : o.guard = none) (s x : Operand)
    (ho : o.op = .call { callee := .builtin .append, args := #[s, x], argTypes := #[26, 26] })
    (K : Nat) (v : Value) (n : Nat) (xs : List Value) (hs : a.eval s = v) (hown : W.ownsRow K 24 1 v n xs) (r : Value) (hr : r.oneCell' = true) (g c : Nat) (hg : g = W.heap.size) (hx : a.eval x = .slice (some ⟨g, 0, none⟩) 1 c) (hK : K ≤ W.heap.size) (hlen : n + 1 < 1000000)
    (h : ∀ v' w', w'.ownsRow K 24 1 v' (n + 1) (xs ++ [r]) → Below K W w' → wpList Try.prog ops Q rest (a.put o.dst v') w') :
    wpList Try.prog ops Q (o :: rest) a (W.alloc (.cells #[r] 24)) := by
  subst hg
  refine wpList_app_vals hgd s x ho K v n xs hs (World.ownsRow.alloc hown _) ⟨W.heap.size, 0, none⟩ 1 c [r] hx rfl (cell_one_new W r _) (by intro u hu; rw [List.mem_singleton] at hu; subst hu; exact hr) (by simp; omega) hlen fun v' w' h1 h2 => h v' w' h1 (((Below.refl K W).alloc hK _).trans h2)
theorem empty_row (w : World) : (w.alloc (.cells #[] 24)).ownsRow w.heap.size 24 1 (.slice (some ⟨w.heap.size, 0, none⟩) 0 0) 0 [] := by
  have e : (w.alloc (.cells #[] 24)).heap[w.heap.size]? = some (.cells #[] 24 (0, 0)) := by
    show (w.heap.push _)[w.heap.size]? = _
    simp
  exact ⟨rfl, .inr ⟨_, 0, _, rfl, Nat.le_refl _, e, Nat.le_refl _, Nat.zero_le _, rfl, rfl⟩⟩
theorem OwnPs.insert {W W' : World} {base P : Nat} {v v3 o : Value} {F : List (Value × List Int)} {ol : List Int} (h : OwnPs W base v F) (ho : Own W base 3 o ol) (hap : ∀ y ∈ F, apart y (o, ol)) (hK : Below W.heap.size W W')
    (hrow : W'.ownsRow W.heap.size 24 1 v3 (F.length + 1) ((F.take P ++ (o, ol) :: F.drop P).map Prod.fst)) (hb : base ≤ W.heap.size) (hP : P ≤ F.length) : OwnPs W' base v3 (F.take P ++ (o, ol) :: F.drop P) := by
  have hlen : (F.take P ++ (o, ol) :: F.drop P).length = F.length + 1 := by
    rw [List.length_append, List.length_take, List.length_cons, List.length_drop]; omega
  have hmem : ∀ y ∈ F.take P ++ (o, ol) :: F.drop P, y ∈ F ∨ y = (o, ol) := fun y hy => by
    rcases List.mem_append.1 hy with h1 | h1
    · exact .inl (List.mem_of_mem_take h1)
    · rcases List.mem_cons.1 h1 with h1 | h1
      · exact .inr h1
      · exact .inl (List.mem_of_mem_drop h1)
  refine ⟨?_, fun y hy => ?_, ?_⟩
  · rw [hlen]
    refine ⟨hrow.1, ?_⟩
    rcases hrow.2 with h2 | ⟨g, cap, cur, hv, hb', r⟩
    · exact .inl h2
    · exact .inr ⟨g, cap, cur, hv, by omega, r⟩
  · have hy2 : Own W base 3 y.1 y.2 := by
      rcases hmem y hy with h1 | rfl
      · exact (h.2.1 y h1).1
      · exact ho
    refine ⟨hy2.below hK, fun b hb1 hb2 => ?_⟩
    have h1 := (hy2.blk hb1).2
    rcases hrow.2 with ⟨h2, _⟩ | ⟨g, cap, cur, hv, hb', r⟩
    · rw [h2] at hb2; cases hb2
    · rw [hv] at hb2
      have : g = b := by simpa [Value.ownBlock] using hb2
      omega
  · have hp := h.2.2
    rw [← List.take_append_drop P F] at hp
    obtain ⟨p1, p2, p3⟩ := List.pairwise_append.1 hp
    refine List.pairwise_append.2 ⟨p1, List.pairwise_cons.2 ⟨fun y hy => apart_symm (hap y (List.mem_of_mem_drop hy)), p2⟩, fun y hy z hz => ?_⟩
    rcases List.mem_cons.1 hz with rfl | hz
    · exact hap y (List.mem_of_mem_take hy)
    · exact p3 y hy z hz
theorem OwnPs.take_cells {w : World} {base : Nat} {g n c P : Nat} {L : List (Value × List Int)} (h : OwnPs w base (.slice (some ⟨g, 0, none⟩) n c) L) (hP : P ≤ L.length) :
    ((L.take P).map Prod.fst).length = P ∧ (∀ j u, ((L.take P).map Prod.fst)[j]? = some u → w.cell? ((⟨g, 0, none⟩ : Addr).add j) = some u) ∧ ∀ u ∈ (L.take P).map Prod.fst, u.oneCell' = true := by
  refine ⟨by rw [List.length_map, List.length_take]; omega, fun j u hj => ?_, fun u hu => ?_⟩
  · rw [List.getElem?_map] at hj
    obtain ⟨y, hy, rfl⟩ := Option.map_eq_some_iff.1 hj
    rw [List.getElem?_take] at hy
    split at hy
    · obtain ⟨hlt, rfl⟩ := List.getElem?_eq_some_iff.1 hy
      obtain ⟨ad', e, hc, _⟩ := h.at_ hlt
      injection e with e
      subst e
      exact hc
    · cases hy
  · obtain ⟨y, hy, rfl⟩ := List.mem_map.1 hu
    exact (h.2.1 y (List.mem_of_mem_take hy)).1.cell1
theorem OwnPs.drop_cells {w : World} {base : Nat} {g n c P : Nat} {L : List (Value × List Int)} (h : OwnPs w base (.slice (some ⟨g, 0, none⟩) n c) L) (hP : P ≤ L.length) :
    ((L.drop P).map Prod.fst).length = L.length - P ∧ (∀ j u, ((L.drop P).map Prod.fst)[j]? = some u → w.cell? ((⟨g, P, none⟩ : Addr).add j) = some u) ∧ ∀ u ∈ (L.drop P).map Prod.fst, u.oneCell' = true := by
  refine ⟨by rw [List.length_map, List.length_drop], fun j u hj => ?_, fun u hu => ?_⟩
  · rw [List.getElem?_map] at hj
    obtain ⟨y, hy, rfl⟩ := Option.map_eq_some_iff.1 hj
    rw [List.getElem?_drop] at hy
    obtain ⟨hlt, rfl⟩ := List.getElem?_eq_some_iff.1 hy
    obtain ⟨ad', e, hc, _⟩ := h.at_ hlt
    injection e with e
    subst e
    rw [add_head] at hc
    rw [show (⟨g, P, none⟩ : Addr).add j = ⟨g, P + j, none⟩ from by simp [Addr.add]]
    exact hc
  · obtain ⟨y, hy, rfl⟩ := List.mem_map.1 hu
    exact (h.2.1 y (List.mem_of_mem_drop hy)).1.cell1

set_option maxRecDepth 100000 in
set_option maxHeartbeats 8000000 in
theorem riBefore_any (A : Option Addr) (n c B : Nat) (zs : List Int) (w : World) (hr : Ints w B A n zs) (hB : B ≤ w.heap.size) (hn1 : 2 ≤ n) (hn : n ≤ 10) (hz : ∀ k, 0 ≤ zs.getD k 0 ∧ zs.getD k 0 ≤ 1000) :
    Calls Try.prog 42 #[.slice A n c] w fun e w' => ∃ v L, e = .returned v ∧ OwnPs w' w.heap.size v L ∧ L.map Prod.snd = befM zs n (2 ^ n) ∧ Below w.heap.size w w' := by
  obtain rfl := hr.len
  have HR := hide (fun W (h : Below w.heap.size w W) => hr.below h hB)
  have HST := hide (fun s => befM_step zs zs.length s)
  have HCN := hide (fun t => befM_count zs (fun k => (hz k).1) zs.length (by omega) t)
  have HLN := hide (fun t => befM_len zs zs.length t)
  have HWL := hide (fun s k => wayL_length zs s k)
  have HWS := hide (fun s k => wayL_succ zs s k)
  have HBD := hide (fun s k => wayEnd_bd zs s hz k)
  have HZ := hide hz
  obtain ⟨N, hN⟩ : ∃ N, N = 2 ^ zs.length := ⟨_, rfl⟩
  have hN1 : N ≤ 1024 := by rw [hN]; exact Nat.le_trans (Nat.pow_le_pow_right (by omega) hn) (by decide)
  have HP := hide (show wrap64 (2 ^ zs.length) = ((N : Nat) : Int) from by rw [hN]; exact k_pow ⟨zs.length, by omega⟩)
  have HN := hide hN
  rw [← hN]
  clear hr hz hN
  go_enter Try.func42, Try.ntmps42
  go_wp2_with fail
  go_loopw [3, 4] (fun v i wr => ∃ s : Nat, s ≤ N ∧ i = .int .i64 s ∧ (∃ F, Hid (OwnPs wr w.heap.size v F) ∧ Hid (F.map Prod.snd = befM zs zs.length s) ∧ Hid (F = [] → v = .slice none 0 0)) ∧ Hid (Below w.heap.size w wr))
    (fun _ i _ => N - (intOf i).toNat)
  case atStart => exact ⟨0, Nat.zero_le _, rfl, ⟨[], hide (OwnPs.nil _ _), hide rfl, hide (fun _ => rfl)⟩, hide (Below.refl _ _)⟩
  case round =>
    obtain ⟨s, hs, rfl, ⟨F, HF, HFM, HNil⟩, HBs⟩ := hrel
    by_cases hlt : s < N
    · have hcmp : (s : Int) < wrap64 (2 ^ zs.length) := by rw [HP.out]; omega
      have HO1 := hide (own_one wr 0 3)
      have HB1 := hide (show Below wr.heap.size wr (wr.alloc (.cells #[.int .i64 0] 3)) from (Below.refl _ _).alloc (Nat.le_refl _) _)
      have hsz := hide HBs.out.size
      go_wp2_with fail
      go_loopw [5, 26] (fun v i W => ∃ k : Nat, k ≤ zs.length ∧ i = .int .i64 k ∧ Hid (Own W wr.heap.size 3 v (wayL zs s k)) ∧ Hid (Below wr.heap.size wr W))
        (fun _ i _ => zs.length - (intOf i).toNat)
      case atStart => exact ⟨0, Nat.zero_le _, rfl, HO1, HB1⟩
      case round =>
        obtain ⟨k, hk, rfl, HO, HBk⟩ := hrel
        by_cases hlt2 : k < zs.length
        · obtain ⟨ad, rfl, _, hcell⟩ := (HR.out wr (HBs.out.trans (HBk.out.mono hsz.out))).at_ hlt2
          obtain ⟨Al, cl, rfl, _, _⟩ := HO.out.shape
          have hl := HWL.out s k
          have hIl := HO.out.ints
          rw [hl] at hIl
          have HO := hide HO.out
          rw [hl] at HO ⊢
          obtain ⟨adl, rfl, _, hcl⟩ := hIl.at_ (show k < k + 1 by omega)
          rw [wayL_last] at hcl
          have hbx := HBD.out s k
          have hbz := HZ.out k
          have hll : (wayL zs s k).length < 1000000 := by omega
          have hk1 : (k : Int) < ((k + 1 : Nat) : Int) := by omega
          have HE := hide (show wayEnd zs s (k + 1) = if s / 2 ^ k % 2 = 1 then wayEnd zs s k - zs.getD k 0 else wayEnd zs s k + zs.getD k 0 from rfl)
          generalize wayEnd zs s k = x at *
          generalize zs.getD k 0 = z at *
          clear hIl hl
          by_cases hbit : s / 2 ^ k % 2 = 1
          · have hneg : x + -z = x - z := by omega
            have e0 : (bits BinOp.and IntKind.i64 ((s : Int) / 2 ^ k) 1 == 1) = true := by rw [bit_is s k (by omega) (by omega)]; simpa using hbit
            have HNG := hide hneg
            clear hneg
            have HV := hide (show wayL zs s (k + 1) = wayL zs s k ++ [x + -z] from by rw [HWS.out, HE.out, if_pos hbit, HNG.out])
            go_wp2_with (at_builtin; refine wpList_app_int rfl _ _ 24 3 rfl Try.underlying24 infoInt _ _ (wayL zs s k) rfl HO.out _ _ rfl HBk.out.size hll ?_; intro v' w' hown' hb'; have HO2 := hide hown'; have HB2 := hide (HBk.out.trans hb'); clear hown' hb')
            go_roundw
            case rel => exact ⟨k + 1, by omega, by go_num, hide (by rw [HV.out]; exact HO2.out), HB2⟩
            case measure => simp [intOf]; omega
          · have e0 : (bits BinOp.and IntKind.i64 ((s : Int) / 2 ^ k) 1 == 1) = false := by rw [bit_is s k (by omega) (by omega)]; simpa using hbit
            have HV := hide (show wayL zs s (k + 1) = wayL zs s k ++ [x + z] from by rw [HWS.out, HE.out, if_neg hbit])
            go_wp2_with (at_builtin; refine wpList_app_int rfl _ _ 24 3 rfl Try.underlying24 infoInt _ _ (wayL zs s k) rfl HO.out _ _ rfl HBk.out.size hll ?_; intro v' w' hown' hb'; have HO2 := hide hown'; have HB2 := hide (HBk.out.trans hb'); clear hown' hb')
            go_roundw
            case rel => exact ⟨k + 1, by omega, by go_num, hide (by rw [HV.out]; exact HO2.out), HB2⟩
            case measure => simp [intOf]; omega
        · obtain rfl : k = zs.length := by omega
          obtain ⟨Al, cl, rfl, hcl2, _⟩ := HO.out.shape
          have hl := HWL.out s zs.length
          have hIl := HO.out.ints
          rw [hl] at hIl hcl2
          rw [hl]
          have HO := hide HO.out
          rw [hl] at HO
          obtain ⟨adl, rfl, _, hcl⟩ := hIl.at_ (show zs.length < zs.length + 1 by omega)
          rw [wayL_last] at hcl
          have hk1 : (zs.length : Int) < ((zs.length + 1 : Nat) : Int) := by omega
          have HSs := hide (HST.out s)
          have hzb : Hid (∀ z ∈ wayL zs s zs.length, -10000 ≤ z ∧ z ≤ 10000) := hide (fun z hz => by
            unfold wayL at hz
            obtain ⟨j, hj, rfl⟩ := List.mem_map.1 hz
            have := List.mem_range.1 hj
            have := HBD.out s j
            omega)
          have HFk := hide (HF.out.below HBk.out)
          have HBw := hide (HBs.out.trans (HBk.out.mono hsz.out))
          have HCs := hide (HCN.out s)
          generalize wayEnd zs s zs.length = x at *
          by_cases hx : x = 0
          · have HE := hide (show befM zs zs.length (s + 1) = insU (befM zs zs.length s) (lowM zs.length (wayL zs s zs.length)) from by rw [HSs.out, if_pos hx])
            subst hx
            have HTM := hide (fun k hk => lowM_take zs.length (wayL zs s zs.length) k hk hl)
            have HFT := hide (fun k (hk : k < (wayL zs s zs.length).length) => fold_min_take (wayL zs s zs.length) k hk)
            have hmb := fold_min_bd (wayL zs s zs.length) 10000 (fun z hz => (hzb.out z hz).1) (by omega)
            have HMP := hide (fun k => fold_min_bd ((wayL zs s zs.length).take k) 10000 (fun z hz => (hzb.out z (List.mem_of_mem_take hz)).1) (by omega))
            have HGB := hide (fun k (hk : k < zs.length + 1) => hzb.out ((wayL zs s zs.length).getD k 0) (by rw [rget (by omega)]; exact List.getElem_mem _))
            have HLM : Hid ((lowM zs.length (wayL zs s zs.length)).length = zs.length) := hide (by unfold lowM; rw [List.length_map, List.length_take, hl]; omega)
            have HT0 : Hid ((wayL zs s zs.length).take (zs.length + 1) = wayL zs s zs.length) := hide (List.take_of_length_le (by omega))
            generalize wayL zs s zs.length = W at *
            have HIl := hide hIl
            clear hIl
            go_wp2_with fail
            go_loop [8, 56] (fun m i => ∃ k : Nat, k ≤ zs.length + 1 ∧ i = .int .i64 k ∧ m = .int .i64 ((W.take k).foldl min 0))
              (fun _ i => zs.length + 1 - (intOf i).toNat)
            case atStart => exact ⟨0, Nat.zero_le _, rfl, rfl⟩
            case round =>
              obtain ⟨k, hk, rfl, rfl⟩ := hrel
              by_cases hlt3 : k < zs.length + 1
              · have HFk := hide (HFT.out k (by omega))
                have hck := HIl.out.cellAt hlt3
                generalize (W.take k).foldl min 0 = m at *
                generalize W.getD k 0 = y at *
                have hlt4 : (k : Int) < (zs.length : Int) + 1 := by omega
                go_wp2_with fail
                refine (l1Least_any _ _ _).mono ?_; rintro e w' ⟨rfl, rfl⟩; rw [← HFk.out]
                go_wp2_with fail
                go_round
                case rel => exact ⟨k + 1, by omega, by go_num, rfl⟩
                case measure => simp [intOf]; omega
              · obtain rfl : k = zs.length + 1 := by omega
                rw [HT0.out]
                generalize W.foldl min 0 = m at *
                have hle := hide hcl2
                have hle2 : zs.length ≤ cl := by omega
                go_wp2_with fail
                go_loopw [11, 69] (fun v i W4 => ∃ k : Nat, k ≤ zs.length ∧ i = .int .i64 k ∧ Hid (Own W4 wr.heap.size 3 v ((lowM zs.length W).take k)) ∧ Hid (Below wr.heap.size wr W4))
                  (fun _ i _ => zs.length - (intOf i).toNat)
                case atStart => exact ⟨0, Nat.zero_le _, rfl, hide (Own.nil _ _ _), hide (Below.refl _ _)⟩
                case round =>
                  obtain ⟨k, hk, rfl, HO4, HB4⟩ := hrel
                  by_cases hlt5 : k < zs.length
                  · have hck := (HIl.out.below HB4.out (Nat.le_refl _)).cellAt (show k < zs.length + 1 by omega)
                    have hyb := HGB.out k (by omega)
                    have HT := hide (HTM.out k hlt5)
                    generalize W.getD k 0 = y at *
                    have hll : ((lowM zs.length W).take k).length < 1000000 := by rw [List.length_take]; omega
                    go_wp2_with (at_builtin; refine wpList_app_int rfl _ _ 24 3 rfl Try.underlying24 infoInt _ _ ((lowM zs.length W).take k) rfl HO4.out _ _ rfl HB4.out.size hll ?_; intro v' w' hown' hb'; have HO2 := hide hown'; have HB2 := hide (HB4.out.trans hb'); clear hown' hb')
                    go_roundw
                    case rel => exact ⟨k + 1, by omega, by go_num, hide (by rw [HT.out]; exact HO2.out), HB2⟩
                    case measure => simp [intOf]; omega
                  · obtain rfl : k = zs.length := by omega
                    have hO := HO4.out
                    rw [List.take_of_length_le (by rw [HLM.out]; exact Nat.le_refl _)] at hO
                    have HLM2 := HLM
                    generalize lowM zs.length W = ol at *
                    obtain ⟨Ao, co, rfl, hco, _⟩ := hO.shape
                    rw [HLM.out] at hO hco ⊢
                    have hIo := hO.ints
                    rw [HLM.out] at hIo
                    have HO := hide hO
                    have HIo := hide hIo
                    have HBk0 := hide HBk.out.size
                    have HF4 := hide (HF.out.below (HBk.out.trans (HB4.out.mono HBk.out.size)))
                    clear hO hIo
                    have HRL := hide (fun y (hy : y ∈ F) => HLN.out s y.2 (by rw [← HFM.out]; exact List.mem_map_of_mem hy))
                    have HEE : Hid (befM zs zs.length (s + 1) = insU (F.map Prod.snd) ol) := hide (by rw [HE.out, HFM.out])
                    have HAP := hide (fun y (hy : y ∈ F) => apart_old (p := (.slice Ao zs.length co, ol)) (HF.out.2.1 y hy).1 ((HO.out.less HBk0.out)))
                    have hFl : F.length ≤ 1024 := by have h1 := HCs.out; rw [← HFM.out, List.length_map] at h1; omega
                    have hPl := insPos_le (F.map Prod.snd) ol
                    have HPk := hide (insPos_lt (F.map Prod.snd) ol)
                    have HPa := hide (insPos_at (F.map Prod.snd) ol)
                    have HPu := hide (insU_pos (F.map Prod.snd) ol)
                    rw [List.length_map] at hPl HPa HPu
                    generalize insPos (F.map Prod.snd) ol = P at *
                    obtain ⟨Av, cv, rfl, hcv, _⟩ := HF4.out.shape
                    have hP2 : P ≤ 1024 := by omega
                    go_wp2_with fail
                    go_loopw [14] (fun i W5 => ∃ k : Nat, k ≤ P ∧ i = .int .i64 k ∧ ∃ m, W5 = wr.drewN m)
                      (fun i _ => P - (intOf i).toNat)
                    case atStart => exact ⟨0, Nat.zero_le _, rfl, 0, rfl⟩
                    case round =>
                      obtain ⟨k, hk, rfl, dm, rfl⟩ := hrel
                      by_cases hlt6 : k < P
                      · have hkF : k < F.length := by omega
                        obtain ⟨ad0, rfl, hcell, g, c', hrow, hc', hI⟩ := HF4.out.at_ hkF
                        have hrl := HRL.out _ (List.getElem_mem hkF)
                        have hlx := HPk.out k hlt6
                        rw [getD_map _ _ _ _ hkF] at hlx
                        generalize F[k] = row at *
                        obtain ⟨rv, rl⟩ := row
                        simp only at hrow hrl hlx hI hcell hc'
                        rw [hrl] at hrow hI hc'
                        subst hrow
                        have HLS := hide (riLess_any g Ao zs.length c' co wr.heap.size wr.heap.size rl ol (wr.drewN dm) hI HIo.out (Nat.le_refl _) (Nat.le_refl _) (by omega))
                        rw [hlx] at HLS
                        clear hI hrl hlx
                        go_wp2_with fail
                        refine HLS.out.mono ?_; rintro e w' ⟨rfl, dm2, rfl⟩
                        go_wp2_with fail
                        go_roundw
                        case rel => exact ⟨k + 1, by omega, by go_num, _, rfl⟩
                        case measure => simp [intOf]; omega
                      · obtain rfl : k = P := by omega
                        have HBw4 := hide (HBw.out.trans (HB4.out.mono HBw.out.size))
                        by_cases hPF : k < F.length
                        · rcases HF4.out.1.2 with ⟨_, h0⟩ | ⟨g, cap, cur, e, _⟩
                          · omega
                          · injection e with e1 e2 e3
                            subst e1; subst e3
                            clear e2
                            obtain ⟨ad0, e5, hcell, gr, c', hrow, hc', hI⟩ := HF4.out.at_ hPF
                            injection e5 with e5
                            subst e5
                            have hrl := HRL.out _ (List.getElem_mem hPF)
                            have hlx := HPa.out hPF
                            rw [getD_map _ _ _ _ hPF] at hlx HPu
                            generalize F[k] = row at *
                            obtain ⟨rv, rl⟩ := row
                            simp only at hrow hrl hlx hI hcell hc' HPu
                            rw [hrl] at hrow hI hc'
                            subst hrow
                            rw [add_head] at hcell
                            have HLS := hide (riLess_any gr Ao zs.length c' co wr.heap.size wr.heap.size rl ol (wr.drewN dm) hI HIo.out (Nat.le_refl _) (Nat.le_refl _) (by omega))
                            rw [hlx] at HLS
                            have HSM := hide (fun m => l1Same_any gr Ao zs.length zs.length c' co wr.heap.size wr.heap.size rl ol (wr.drewN m) hI HIo.out (Nat.le_refl _) (Nat.le_refl _) (by omega) (by omega))
                            clear hI hrl hlx
                            by_cases heq : rl = ol
                            · have heb : (rl == ol) = true := by simpa using heq
                              have HM9 : Hid (F.map Prod.snd = befM zs zs.length (s + 1)) := hide (by rw [HEE.out, HPu.out, if_pos ⟨hPF, heq⟩])
                              clear heq
                              go_wp2_with fail
                              refine HLS.out.mono ?_; rintro e w' ⟨rfl, dm2, rfl⟩
                              go_wp2_with fail
                              refine (HSM.out _).mono ?_; rintro e w6 ⟨rfl, hb6⟩; rw [heb]
                              have HB6 := hide (show Below wr.heap.size wr w6 from (below_drewN (Below.refl wr.heap.size wr) (dm + dm2)).trans hb6)
                              clear hb6
                              go_wp2_with fail
                              have HG := hide (HF4.out.below HB6.out)
                              have HB9 := hide (HBw4.out.trans (HB6.out.mono HBw4.out.size))
                              go_roundw
                              case rel => exact ⟨s + 1, by omega, by go_num, ⟨_, HG, HM9, HNil⟩, HB9⟩
                              case measure => simp [intOf]; omega
                            · have heb : (rl == ol) = false := by simpa using heq
                              have HNOT := hide (show ¬ (k < F.length ∧ rl = ol) from fun h => heq h.2)
                              clear heq
                              go_wp2_with fail
                              refine HLS.out.mono ?_; rintro e w' ⟨rfl, dm2, rfl⟩
                              go_wp2_with fail
                              refine (HSM.out _).mono ?_; rintro e w6 ⟨rfl, hb6⟩; rw [heb]
                              have HB6 := hide (show Below wr.heap.size wr w6 from (below_drewN (Below.refl wr.heap.size wr) (dm + dm2)).trans hb6)
                              clear hb6
                              have hkc : ¬ cv = k := by omega
                              have hc0 : ¬ cv = 0 := by omega
                              have HE0 := hide (empty_row (w6))
                              have HBe := hide (show Below (w6).heap.size (w6) ((w6).alloc (.cells #[] 24)) from (Below.refl _ _).alloc (Nat.le_refl _) _)
                              have HO6 := hide (HO.out.below HB6.out)
                              have HF6 := hide (HF4.out.below HB6.out)
                              have T1 := hide ((HF6.out.below HBe.out).take_cells (P := k) (by omega))
                              go_wp2_with (first
                                | (at_builtin; refine wpList_app_vals rfl _ _ rfl (w6).heap.size (.slice (some ⟨(w6).heap.size, 0, none⟩) 0 0) 0 [] rfl HE0.out ⟨g, 0, none⟩ k cv ((F.take k).map Prod.fst) rfl T1.out.1 T1.out.2.1 T1.out.2.2 HBe.out.size (by omega) ?_; intro v1 w1 hr1 hb1; have B1 := hide (HBe.out.trans hb1); have L2 := hide (World.ownsRow.alloc hr1 (.cells #[(Value.slice Ao zs.length co)] 24)); have BB1 := hide (B1.out.alloc B1.out.size (.cells #[(Value.slice Ao zs.length co)] 24)); clear hr1 hb1)
                                | (at_builtin; refine wpList_app_vals rfl _ _ rfl (w6).heap.size v1 (0 + k) ([] ++ (F.take k).map Prod.fst) rfl L2.out ⟨w1.heap.size, 0, none⟩ 1 1 [(Value.slice Ao zs.length co)] rfl rfl (cell_one_new w1 (Value.slice Ao zs.length co) 24) (by intro u hu; rw [List.mem_singleton] at hu; subst hu; rfl) BB1.out.size (by omega) ?_; intro v2 w2 hr2 hb2; have R2 := hide hr2; have B2 := hide (BB1.out.trans hb2); have T3 := hide ((HF6.out.below B2.out).drop_cells (P := k) (by omega)); clear hr2 hb2)
                                | (at_builtin; refine wpList_app_vals rfl _ _ rfl (w6).heap.size v2 (0 + k + 1) (([] ++ (F.take k).map Prod.fst) ++ [(Value.slice Ao zs.length co)]) rfl R2.out ⟨g, k, none⟩ (F.length - k) (cv - k) ((F.drop k).map Prod.fst) rfl T3.out.1 T3.out.2.1 T3.out.2.2 B2.out.size (by omega) ?_; intro v3 w3 hr3 hb3; have R3 := hide hr3; have B3 := hide (B2.out.trans hb3); clear hr3 hb3))
                              have HG := hide (OwnPs.insert (P := k) HF6.out (HO6.out.less HBw.out.size) HAP.out B3.out (by
                                  have hr3 := R3.out
                                  rw [show 0 + k + 1 + (F.length - k) = F.length + 1 from by omega] at hr3
                                  rw [List.map_append, List.map_cons]; simpa using hr3
                                  ) (Nat.le_trans HBw4.out.size HB6.out.size) (by omega))
                              have HM9 : Hid ((F.take k ++ ((Value.slice Ao zs.length co), ol) :: F.drop k).map Prod.snd = befM zs zs.length (s + 1)) := hide (by
                                  rw [HEE.out, HPu.out, if_neg HNOT.out, List.map_append, List.map_cons, List.map_take, List.map_drop])
                              have HB9 := hide (HBw4.out.trans (HB6.out.trans (B3.out.mono HB6.out.size) |>.mono HBw4.out.size))
                              go_roundw
                              case rel => exact ⟨s + 1, by omega, by go_num, ⟨_, HG, HM9, hide (fun h => by simp at h)⟩, HB9⟩
                              case measure => simp [intOf]; omega
                        · have hkl := hide (show k = F.length from by omega)
                          have HNOT := hide (show ¬ (k < F.length ∧ (F.map Prod.snd).getD k [] = ol) from fun h => hPF h.1)
                          have HB6 := hide (show Below wr.heap.size wr (wr.drewN dm) from below_drewN (Below.refl wr.heap.size wr) dm)
                          rcases HF4.out.1.2 with ⟨e, h0⟩ | ⟨g, cap, cur, e, _⟩
                          · have hF0 : F = [] := List.eq_nil_of_length_eq_zero h0
                            injection e with e1 e2 e3
                            subst e1; subst e3
                            have hk0 : k = 0 := by omega
                            subst hF0; subst hk0
                            have HE0 := hide (empty_row (wr.drewN dm))
                            have HBe := hide (show Below (wr.drewN dm).heap.size (wr.drewN dm) ((wr.drewN dm).alloc (.cells #[] 24)) from (Below.refl _ _).alloc (Nat.le_refl _) _)
                            have HO6 := hide (HO.out.below HB6.out)
                            have HF6 := hide (HF4.out.below HB6.out)
                            obtain ⟨i0, hi, _, hz1, _⟩ := info_parts3 infoRowT
                            have L2 := hide (World.ownsRow.alloc HE0.out (.cells #[(Value.slice Ao zs.length co)] 24))
                            have BB1 := hide (HBe.out.alloc HBe.out.size (.cells #[(Value.slice Ao zs.length co)] 24))
                            clear e2 h0
                            go_wp2_with (first
                              | (at_builtin; refine wpList_append_own_none rfl _ _ 26 rfl (wr.drewN dm).heap.size 24 i0 1 Try.underlying26 hi (.slice (some ⟨(wr.drewN dm).heap.size, 0, none⟩) 0 0) 0 [] rfl HE0.out rfl ?_)
                              | (at_builtin; refine wpList_app_oneG rfl _ _ rfl (wr.drewN dm).heap.size (.slice (some ⟨(wr.drewN dm).heap.size, 0, none⟩) 0 0) 0 [] rfl HE0.out (Value.slice Ao zs.length co) rfl (wr.heap.size + 1) 1 (by simp) rfl HBe.out.size (by omega) ?_; intro v2 w2 hr2 hb2; have R2 := hide hr2; have B2 := hide (HBe.out.trans hb2); clear hr2 hb2)
                              | (at_builtin; refine wpList_append_own_none rfl _ _ 26 rfl (wr.drewN dm).heap.size 24 i0 1 Try.underlying26 hi v2 (0 + 1) ([] ++ [(Value.slice Ao zs.length co)]) rfl R2.out rfl ?_))
                            have HG := hide (OwnPs.insert (P := 0) (F := []) HF6.out (HO6.out.less HBw.out.size) HAP.out B2.out (by simpa using R2.out) (Nat.le_trans HBw4.out.size HB6.out.size) (Nat.le_refl _))
                            have HM9 : Hid ((([] : List (Value × List Int)).take 0 ++ ((Value.slice Ao zs.length co), ol) :: ([] : List (Value × List Int)).drop 0).map Prod.snd = befM zs zs.length (s + 1)) := hide (by rw [HEE.out]; rfl)
                            have HB9 := hide (HBw4.out.trans (HB6.out.trans (B2.out.mono HB6.out.size) |>.mono HBw4.out.size))
                            go_roundw
                            case rel => exact ⟨s + 1, by omega, by go_num, ⟨_, HG, HM9, hide (fun h => by simp at h)⟩, HB9⟩
                            case measure => simp [intOf]; omega
                          · injection e with e1 e2 e3
                            subst e1; subst e3
                            clear e2
                            by_cases hkc : cv = k
                            · replace hkc := hkc.symm
                              subst hkc
                              have hc0 : ¬ k = 0 := fun h0 => by
                                have h1 := HNil.out (List.eq_nil_of_length_eq_zero (by have := hkl.out; omega))
                                injection h1 with h1
                                cases h1
                              have HE0 := hide (empty_row (wr.drewN dm))
                              have HBe := hide (show Below (wr.drewN dm).heap.size (wr.drewN dm) ((wr.drewN dm).alloc (.cells #[] 24)) from (Below.refl _ _).alloc (Nat.le_refl _) _)
                              have HO6 := hide (HO.out.below HB6.out)
                              have HF6 := hide (HF4.out.below HB6.out)
                              have T1 := hide ((HF6.out.below HBe.out).take_cells (P := k) (by omega))
                              go_wp2_with (first
                                | (at_builtin; refine wpList_app_vals rfl _ _ rfl (wr.drewN dm).heap.size (.slice (some ⟨(wr.drewN dm).heap.size, 0, none⟩) 0 0) 0 [] rfl HE0.out ⟨g, 0, none⟩ k k ((F.take k).map Prod.fst) rfl T1.out.1 T1.out.2.1 T1.out.2.2 HBe.out.size (by omega) ?_; intro v1 w1 hr1 hb1; have B1 := hide (HBe.out.trans hb1); have L2 := hide (World.ownsRow.alloc hr1 (.cells #[(Value.slice Ao zs.length co)] 24)); have BB1 := hide (B1.out.alloc B1.out.size (.cells #[(Value.slice Ao zs.length co)] 24)); clear hr1 hb1)
                                | (at_builtin; refine wpList_app_vals rfl _ _ rfl (wr.drewN dm).heap.size v1 (0 + k) ([] ++ (F.take k).map Prod.fst) rfl L2.out ⟨w1.heap.size, 0, none⟩ 1 1 [(Value.slice Ao zs.length co)] rfl rfl (cell_one_new w1 (Value.slice Ao zs.length co) 24) (by intro u hu; rw [List.mem_singleton] at hu; subst hu; rfl) BB1.out.size (by omega) ?_; intro v2 w2 hr2 hb2; have R2 := hide hr2; have B2 := hide (BB1.out.trans hb2); have T3 := hide (HF6.out.below B2.out); clear hr2 hb2)
                                | (at_builtin; refine wpList_app_vals rfl _ _ rfl (wr.drewN dm).heap.size v2 (0 + k + 1) (([] ++ (F.take k).map Prod.fst) ++ [(Value.slice Ao zs.length co)]) rfl R2.out ⟨g, 0, none⟩ 0 0 [] rfl rfl (by intro j u h; simp at h) (by intro u h; simp at h) B2.out.size (by omega) ?_; intro v3 w3 hr3 hb3; have R3 := hide hr3; have B3 := hide (B2.out.trans hb3); clear hr3 hb3))
                              have HG := hide (OwnPs.insert (P := k) HF6.out (HO6.out.less HBw.out.size) HAP.out B3.out (by
                                  have hr3 := R3.out
                                  rw [show 0 + k + 1 + 0 = F.length + 1 from by omega] at hr3
                                  rw [show F.drop k = [] from List.drop_eq_nil_of_le (by omega), List.map_append, List.map_cons]; simpa using hr3
                                  ) (Nat.le_trans HBw4.out.size HB6.out.size) (by omega))
                              have HM9 : Hid ((F.take k ++ ((Value.slice Ao zs.length co), ol) :: F.drop k).map Prod.snd = befM zs zs.length (s + 1)) := hide (by
                                  rw [HEE.out, HPu.out, if_neg HNOT.out, List.map_append, List.map_cons, List.map_take, List.map_drop])
                              have HB9 := hide (HBw4.out.trans (HB6.out.trans (B3.out.mono HB6.out.size) |>.mono HBw4.out.size))
                              go_roundw
                              case rel => exact ⟨s + 1, by omega, by go_num, ⟨_, HG, HM9, hide (fun h => by simp at h)⟩, HB9⟩
                              case measure => simp [intOf]; omega
                            · have hkcv : k ≤ cv := by omega
                              have hkc : ¬ cv = k := hkc
                              have hc0 : ¬ cv = 0 := by omega
                              have HE0 := hide (empty_row (wr.drewN dm))
                              have HBe := hide (show Below (wr.drewN dm).heap.size (wr.drewN dm) ((wr.drewN dm).alloc (.cells #[] 24)) from (Below.refl _ _).alloc (Nat.le_refl _) _)
                              have HO6 := hide (HO.out.below HB6.out)
                              have HF6 := hide (HF4.out.below HB6.out)
                              have T1 := hide ((HF6.out.below HBe.out).take_cells (P := k) (by omega))
                              go_wp2_with (first
                                | (at_builtin; refine wpList_app_vals rfl _ _ rfl (wr.drewN dm).heap.size (.slice (some ⟨(wr.drewN dm).heap.size, 0, none⟩) 0 0) 0 [] rfl HE0.out ⟨g, 0, none⟩ k cv ((F.take k).map Prod.fst) rfl T1.out.1 T1.out.2.1 T1.out.2.2 HBe.out.size (by omega) ?_; intro v1 w1 hr1 hb1; have B1 := hide (HBe.out.trans hb1); have L2 := hide (World.ownsRow.alloc hr1 (.cells #[(Value.slice Ao zs.length co)] 24)); have BB1 := hide (B1.out.alloc B1.out.size (.cells #[(Value.slice Ao zs.length co)] 24)); clear hr1 hb1)
                                | (at_builtin; refine wpList_app_vals rfl _ _ rfl (wr.drewN dm).heap.size v1 (0 + k) ([] ++ (F.take k).map Prod.fst) rfl L2.out ⟨w1.heap.size, 0, none⟩ 1 1 [(Value.slice Ao zs.length co)] rfl rfl (cell_one_new w1 (Value.slice Ao zs.length co) 24) (by intro u hu; rw [List.mem_singleton] at hu; subst hu; rfl) BB1.out.size (by omega) ?_; intro v2 w2 hr2 hb2; have R2 := hide hr2; have B2 := hide (BB1.out.trans hb2); have T3 := hide ((HF6.out.below B2.out).drop_cells (P := k) (by omega)); clear hr2 hb2)
                                | (at_builtin; refine wpList_app_vals rfl _ _ rfl (wr.drewN dm).heap.size v2 (0 + k + 1) (([] ++ (F.take k).map Prod.fst) ++ [(Value.slice Ao zs.length co)]) rfl R2.out ⟨g, k, none⟩ (F.length - k) (cv - k) ((F.drop k).map Prod.fst) rfl T3.out.1 T3.out.2.1 T3.out.2.2 B2.out.size (by omega) ?_; intro v3 w3 hr3 hb3; have R3 := hide hr3; have B3 := hide (B2.out.trans hb3); clear hr3 hb3))
                              have HG := hide (OwnPs.insert (P := k) HF6.out (HO6.out.less HBw.out.size) HAP.out B3.out (by
                                  have hr3 := R3.out
                                  rw [show 0 + k + 1 + (F.length - k) = F.length + 1 from by omega] at hr3
                                  rw [List.map_append, List.map_cons]; simpa using hr3
                                  ) (Nat.le_trans HBw4.out.size HB6.out.size) (by omega))
                              have HM9 : Hid ((F.take k ++ ((Value.slice Ao zs.length co), ol) :: F.drop k).map Prod.snd = befM zs zs.length (s + 1)) := hide (by
                                  rw [HEE.out, HPu.out, if_neg HNOT.out, List.map_append, List.map_cons, List.map_take, List.map_drop])
                              have HB9 := hide (HBw4.out.trans (HB6.out.trans (B3.out.mono HB6.out.size) |>.mono HBw4.out.size))
                              go_roundw
                              case rel => exact ⟨s + 1, by omega, by go_num, ⟨_, HG, HM9, hide (fun h => by simp at h)⟩, HB9⟩
                              case measure => simp [intOf]; omega
          · have HE := hide (show befM zs zs.length (s + 1) = befM zs zs.length s from by rw [HSs.out, if_neg hx])
            have hxb : (x != 0) = true := by simpa using hx
            go_wp2_with fail
            go_roundw
            case rel => exact ⟨s + 1, by omega, by go_num, ⟨F, HFk, hide (by rw [HE.out]; exact HFM.out), HNil⟩, HBw⟩
            case measure => simp [intOf]; omega
    · obtain rfl : s = N := by omega
      have hcmp : ¬ (s : Int) < wrap64 (2 ^ zs.length) := by rw [HP.out]; omega
      go_wp2_with fail
      go_ret
      exact ⟨_, rfl, F, HF.out, HFM.out, HBs.out⟩
end Go.Proofs.Ytcbcgapnoompbaa

/-
  RINGS BEFORE, THE MODEL's functions; how many there are.
-/
namespace Go.Proofs.Ytcbcgapnoompbaa
open Go.RowKit Go.Deep
set_option linter.unusedVariables false

theorem befR_short (zs : List Int) : sizeSS (befR zs) ≤ 1048576 ∧ (befR zs).length ≤ 1048576 := by
  cases h : rsmall zs
  · have e : befR zs = [] := by unfold befR; rw [h]; rfl
    rw [e]; simp [sizeSS]
  · have e : befR zs = befM zs zs.length (2 ^ zs.length) := by unfold befR; rw [if_pos h]
    obtain ⟨h1, h2, _⟩ := rgood_of (rsmall_of h).1
    have hc := befM_count zs (fun k => (rsmall_get h k).1) zs.length (by omega) (2 ^ zs.length)
    have hp : 2 ^ zs.length ≤ 1024 := Nat.le_trans (Nat.pow_le_pow_right (by omega) h2) (by decide)
    have hl := befM_len zs zs.length (2 ^ zs.length)
    rw [e]
    refine ⟨?_, by omega⟩
    have : ∀ L : List (List Int), (∀ x ∈ L, x.length = zs.length) → sizeSS L = L.length * zs.length := fun L => by
      induction L with
      | nil => intro _; simp [sizeSS]
      | cons x xs ih =>
        intro hx
        have h3 := ih (fun y hy => hx y (by simp [hy]))
        have h4 := hx x (by simp)
        unfold sizeSS at h3 ⊢
        rw [List.map_cons, List.sum_cons, h3, h4, List.length_cons, Nat.succ_mul]; omega
    rw [this _ hl]
    have := Nat.mul_le_mul (show (befM zs zs.length (2 ^ zs.length)).length ≤ 1024 by omega) h2
    omega

theorem specRingsBefore_any (A : Option Addr) (n c B : Nat) (zs : List Int) (w : World) (hr : Ints w B A n zs) (hB : B ≤ w.heap.size) (hn : n ≤ 17592186044416) :
    Calls Try.prog 7 #[.slice A n c] w (MadeSS (befR zs) (rsmall zs) w) := by
  have hlen := hr.len
  have HS := hide (riSmall_any A n c B zs w hr hB hn)
  cases h : rsmall zs
  · have e2 : befR zs = [] := by unfold befR; rw [h]; rfl
    rw [h] at HS
    rw [e2]
    go_enter Try.func7, Try.ntmps7
    go_wp2_with fail
    refine HS.out.mono ?_; rintro e w' ⟨rfl, rfl⟩
    go_wp2_with fail
    go_ret2
    exact madeSS_none (Below.refl _ _)
  · have e2 : befR zs = befM zs zs.length (2 ^ zs.length) := by unfold befR; rw [if_pos h]
    rw [h] at HS
    obtain ⟨h1, h2, _⟩ := rgood_of (rsmall_of h).1
    have HB := hide (riBefore_any A n c B zs w hr hB (by omega) (by omega) (rsmall_get h))
    rw [e2, hlen]
    rw [hlen] at *
    generalize befM zs n (2 ^ n) = R at *
    go_enter Try.func7, Try.ntmps7
    go_wp2_with fail
    refine HS.out.mono ?_; rintro e w' ⟨rfl, rfl⟩
    go_wp2_with fail
    refine HB.out.mono ?_; rintro e w1 ⟨v, L, rfl, hps, hLM, hb1⟩
    have hv := hps.toVs
    rw [hLM] at hv
    obtain ⟨A', c', rfl, h5, h6⟩ := hv.shape
    have HV := hide hv
    have HB1 := hide hb1
    clear hv hps hb1 hLM
    go_wp2_with fail
    go_ret2
    exact ⟨A', c', _, rfl, h5, h6, HV.out, HB1.out⟩
def befC (zs : List Int) : Int := (befR zs).length
def befH (zs : List Int) : Bool := decide (0 < (befR zs).length)
theorem befC_no {zs : List Int} (h : rsmall zs = false) : befC zs = 0 ∧ befH zs = false := by
  have e2 : befR zs = [] := by unfold befR; rw [h]; rfl
  unfold befC befH
  rw [e2]; exact ⟨rfl, rfl⟩
theorem specCountRingsBefore_any (A : Option Addr) (n c B : Nat) (zs : List Int) (w : World) (hr : Ints w B A n zs) (hB : B ≤ w.heap.size) (hn : n ≤ 17592186044416) :
    Calls Try.prog 9 #[.slice A n c] w fun e w' => e = .returned (.tuple #[.int .i64 (befC zs), .bool (rsmall zs)]) ∧ Below w.heap.size w w' := by
  have hlen := hr.len
  have HS := hide (riSmall_any A n c B zs w hr hB hn)
  cases h : rsmall zs
  · rw [(befC_no h).1]
    rw [h] at HS
    go_enter Try.func9, Try.ntmps9
    go_wp2_with fail
    refine HS.out.mono ?_; rintro e w' ⟨rfl, rfl⟩
    go_wp2_with fail
    go_ret2
    exact ⟨rfl, Below.refl _ _⟩
  · have e2 : befR zs = befM zs zs.length (2 ^ zs.length) := by unfold befR; rw [if_pos h]
    rw [h] at HS
    obtain ⟨h1, h2, _⟩ := rgood_of (rsmall_of h).1
    have HB := hide (riBefore_any A n c B zs w hr hB (by omega) (by omega) (rsmall_get h))
    unfold befC
    rw [e2]
    rw [hlen] at *
    generalize befM zs n (2 ^ n) = R at *
    go_enter Try.func9, Try.ntmps9
    go_wp2_with fail
    refine HS.out.mono ?_; rintro e w' ⟨rfl, rfl⟩
    go_wp2_with fail
    refine HB.out.mono ?_; rintro e w1 ⟨v, L, rfl, hps, hLM, hb1⟩
    have hv := hps.toVs
    rw [hLM] at hv
    obtain ⟨A', c', rfl, h5, h6⟩ := hv.shape
    have HB1 := hide hb1
    clear hv hps hb1 hLM
    go_wp2_with fail
    go_ret2
    exact ⟨rfl, HB1.out⟩
theorem specHasRingBefore_any (A : Option Addr) (n c B : Nat) (zs : List Int) (w : World) (hr : Ints w B A n zs) (hB : B ≤ w.heap.size) (hn : n ≤ 17592186044416) :
    Calls Try.prog 11 #[.slice A n c] w fun e w' => e = .returned (.tuple #[.bool (befH zs), .bool (rsmall zs)]) ∧ Below w.heap.size w w' := by
  have hlen := hr.len
  have HS := hide (riSmall_any A n c B zs w hr hB hn)
  cases h : rsmall zs
  · rw [(befC_no h).2]
    rw [h] at HS
    go_enter Try.func11, Try.ntmps11
    go_wp2_with fail
    refine HS.out.mono ?_; rintro e w' ⟨rfl, rfl⟩
    go_wp2_with fail
    go_ret2
    exact ⟨rfl, Below.refl _ _⟩
  · have e2 : befR zs = befM zs zs.length (2 ^ zs.length) := by unfold befR; rw [if_pos h]
    rw [h] at HS
    obtain ⟨h1, h2, _⟩ := rgood_of (rsmall_of h).1
    have HB := hide (riBefore_any A n c B zs w hr hB (by omega) (by omega) (rsmall_get h))
    unfold befH
    rw [e2]
    rw [hlen] at *
    generalize befM zs n (2 ^ n) = R at *
    have HD := hide (show decide (0 < R.length) = decide ((0 : Int) < (R.length : Int)) from by simp)
    go_enter Try.func11, Try.ntmps11
    go_wp2_with fail
    refine HS.out.mono ?_; rintro e w' ⟨rfl, rfl⟩
    go_wp2_with fail
    refine HB.out.mono ?_; rintro e w1 ⟨v, L, rfl, hps, hLM, hb1⟩
    have hv := hps.toVs
    rw [hLM] at hv
    obtain ⟨A', c', rfl, h5, h6⟩ := hv.shape
    have HB1 := hide hb1
    clear hv hps hb1 hLM
    go_wp2_with fail
    go_ret2
    exact ⟨by rw [HD.out]; rfl, HB1.out⟩
end Go.Proofs.Ytcbcgapnoompbaa
