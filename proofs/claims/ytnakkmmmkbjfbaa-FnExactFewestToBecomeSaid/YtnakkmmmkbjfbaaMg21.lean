import Derived.Test.YtnakkmmmkbjfbaaMg20
import Derived.Test.YtnakkmmmkbjfbaaMg09
import Derived.Deep.RegionHeld3

/-
  ALL THAT DOUBLINGS LEAD TO, THE MODEL's WAY: the walk of dbFar.
-/
namespace Go.Proofs.Ytnakkmmmkbjfbaa
open Go.RowKit Go.Deep
set_option linter.unusedVariables false

theorem ownVs_lit {w : World} {base : Nat} {u : Value} {zs : List Int} (hu : Own w base 3 u zs) (hb : base ≤ w.heap.size) : OwnVs (w.alloc (.cells #[u] 22)) base (.slice (some ⟨w.heap.size, 0, none⟩) 1 1) [u] [zs] := by
  have e : (w.alloc (.cells #[u] 22)).heap[w.heap.size]? = some (.cells #[u] 22 (0, 0)) := by
    show (w.heap.push _)[w.heap.size]? = _
    simp
  refine ⟨rfl, ⟨rfl, .inr ⟨w.heap.size, 1, _, rfl, hb, e, Nat.le_refl _, by unfold maxLen; omega, by simp, by simp⟩⟩, fun k hk => ?_, fun i j hij hj => ?_, fun i hi b hb' => ?_⟩
  · obtain rfl : k = 0 := by simpa using hk
    exact hu.alloc _
  · simp at hj; omega
  · obtain rfl : i = 0 := by simpa using hi
    have := (hu.blk hb').2
    intro h
    injection h with h
    have h : w.heap.size = b := h
    omega
theorem own_lit (w : World) (a : Int) (base : Nat) (hb : base ≤ w.heap.size) : Own (w.alloc (.cells #[.int .i64 a] 3)) base 3 (.slice (some ⟨w.heap.size, 0, none⟩) 1 1) [a] := by
  have e : (w.alloc (.cells #[.int .i64 a] 3)).heap[w.heap.size]? = some (.cells #[.int .i64 a] 3 (0, 0)) := by
    show (w.heap.push _)[w.heap.size]? = _
    simp
  exact ⟨by simp, .inr ⟨w.heap.size, 1, _, rfl, hb, e, Nat.le_refl _, by unfold maxLen; omega, by simp, by simp⟩⟩
/-- Where the search begins. -/
theorem far_start {w W1 w3 : World} {N : Nat} {zs : List Int} {u : Value} (hW1 : W1 = w.alloc (.cells (madeCells #[.bool false] N) 4)) (hu : Own w3 (W1.setCell ⟨w.heap.size, numD zs, none⟩ (.bool true)).heap.size 3 u zs)
    (hb : Below (W1.setCell ⟨w.heap.size, numD zs, none⟩ (.bool true)).heap.size (W1.setCell ⟨w.heap.size, numD zs, none⟩ (.bool true)) w3) :
    FarI w N (Qn zs 0) ((w3.alloc (.cells #[u] 22)).alloc (.cells #[.int .i64 0] 3)) (.slice (some ⟨w3.heap.size, 0, none⟩) 1 1) (.slice (some ⟨w3.heap.size + 1, 0, none⟩) 1 1) [u] := by
  have hs1 : W1.heap.size = w.heap.size + 1 := by rw [hW1]; simp
  have hsz : (W1.setCell ⟨w.heap.size, numD zs, none⟩ (.bool true)).heap.size = w.heap.size + 1 := by simpa using hs1
  rw [hsz] at hu hb
  have h3 := hb.size
  rw [hsz] at h3
  have hrow : W1.rowIs w.heap.size 4 N (fun _ => .bool false) := by rw [hW1]; exact World.rowIs_made w _ N _
  have hB1 : Below w.heap.size w W1 := by rw [hW1]; exact (Below.refl _ _).alloc (Nat.le_refl _) _
  have hB2 : Below w.heap.size w (W1.setCell ⟨w.heap.size, numD zs, none⟩ (.bool true)) := hB1.setCell (p := ⟨w.heap.size, numD zs, none⟩) (Nat.le_refl _) _
  have hB3 := hB2.trans (hb.mono (by omega))
  have hq := ownVs_lit (hu) (by omega)
  refine ⟨?_, ?_, ?_, ?_, ?_, ?_, by simp; omega⟩
  · exact hq.keep fun g _ hg => Below.heap_alloc _ _ _ hg
  · have := own_lit (w3.alloc (.cells #[u] 22)) 0 (w.heap.size + 1) (by simp; omega)
    rw [World.size_alloc] at this
    exact this
  · have r1 := World.rowIs.set hrow (numD zs) (.bool true)
    have r2 := r1.of_block (hb.block w.heap.size (by omega))
    have r3 := (r2.alloc (.cells #[u] 22)).alloc (.cells #[.int .i64 0] 3)
    refine r3.congr fun i _ => ?_
    by_cases e : i = numD zs
    · simp [e, numsOf, Qn]
    · simp [e, numsOf, Qn]
  · intro b h1 h2
    injection h1 with h1
    injection h2 with h2
    have h1 : w3.heap.size + 1 = b := h1
    have h2 : w3.heap.size = b := h2
    omega
  · intro i hi b h1 h2
    obtain rfl : i = 0 := by simpa [Qn] using hi
    have := (hu.blk h1).2
    injection h2 with h2
    have h2 : w3.heap.size + 1 = b := h2
    omega
  · exact (hB3.alloc (by omega) _).alloc (by simp; omega) _
theorem alloc2_cells (X : World) (a b : Value) (T : TypeId) : (X.alloc (.cells #[a, b] T)).cell? ⟨X.heap.size, 0, none⟩ = some a ∧ (X.alloc (.cells #[a, b] T)).cell? ⟨X.heap.size, 1, none⟩ = some b := by
  have e : (X.alloc (.cells #[a, b] T)).heap[X.heap.size]? = some (.cells #[a, b] T (0, 0)) := by
    show (X.heap.push _)[X.heap.size]? = _
    simp
  constructor
  · unfold World.cell?; rw [show (⟨X.heap.size, 0, none⟩ : Addr).block = X.heap.size from rfl, e]; rfl
  · unfold World.cell?; rw [show (⟨X.heap.size, 1, none⟩ : Addr).block = X.heap.size from rfl, e]; rfl
/-- The list of doublings that is gone through lies elsewhere. -/
structure DsI (W : World) (base : Nat) (A : Option Addr) (c : Nat) (ds : List Db) (qv fv : Value) : Prop where
  own : OwnIDb W base (.slice A ds.length c) ds.length (numsDb ds)
  sep : ∀ b, (Value.slice A ds.length c).ownBlock = some b → qv.ownBlock ≠ some b ∧ fv.ownBlock ≠ some b
theorem OwnIDb.keepA {W W' : World} {base n : Nat} {v : Value} {xs : List Int} (h : OwnIDb W base v n xs) (hk : ∀ g, v.ownBlock = some g → g < W.heap.size → W'.heap[g]? = W.heap[g]?) : OwnIDb W' base v n xs := by
  refine ⟨⟨h.1.1, ?_⟩, h.2⟩
  rcases h.1.2 with h2 | ⟨g, cap, cur, hv, hb, hg, r⟩
  · exact .inl h2
  · obtain ⟨hlt, _⟩ := Array.getElem?_eq_some_iff.1 hg
    exact .inr ⟨g, cap, cur, hv, hb, (hk g (by rw [hv]; rfl) hlt).trans hg, r⟩

theorem ds_start {W w5 : World} {A' : Option Addr} {c' : Nat} {ds : List Db} {qv fv : Value} (h : OwnIDb w5 W.heap.size (.slice A' ds.length c') ds.length (numsDb ds)) (hq : ∀ b, qv.ownBlock = some b → b < W.heap.size) (hf : ∀ b, fv.ownBlock = some b → b < W.heap.size) :
    DsI w5 W.heap.size A' c' ds qv fv := ⟨h, fun b hb => by
  rcases h.form with ⟨e, _⟩ | ⟨g, c2, e, hg, _⟩
  · rw [e] at hb; cases hb
  · rw [e] at hb
    injection hb with hb
    have hb : g = b := hb
    exact ⟨fun e2 => by have := hq b e2; omega, fun e2 => by have := hf b e2; omega⟩⟩
theorem DsI.next {X Y : World} {base : Nat} {A : Option Addr} {c : Nat} {ds : List Db} {qv fv : Value} (h : DsI X base A c ds qv fv) (hb : Below X.heap.size X Y) : DsI Y base A c ds qv fv := ⟨h.own.below hb, h.sep⟩
theorem DsI.step {X w5 : World} {S base : Nat} {A : Option Addr} {c : Nat} {ds : List Db} {qv fv v4 f5 : Value} (h : DsI X base A c ds qv fv) (hS : S < base)
    (hk : ∀ g, g < X.heap.size → some g ≠ qv.ownBlock → some g ≠ fv.ownBlock → g ≠ S → w5.heap[g]? = X.heap[g]?)
    (hq : v4.ownBlock = qv.ownBlock ∨ ∃ g, v4.ownBlock = some g ∧ X.heap.size ≤ g) (hf : f5.ownBlock = fv.ownBlock ∨ ∃ g, f5.ownBlock = some g ∧ X.heap.size ≤ g) : DsI w5 base A c ds v4 f5 := by
  have hlt : ∀ b, (Value.slice A ds.length c).ownBlock = some b → base ≤ b ∧ b < X.heap.size := fun b hb => by
    rcases h.own.form with ⟨e, _⟩ | ⟨g, c2, e, hg, hg2⟩
    · rw [e] at hb; cases hb
    · rw [e] at hb
      injection hb with hb
      have hb : g = b := hb
      omega
  refine ⟨h.own.keepA fun g hg hl => hk g hl (fun e => (h.sep g hg).1 e.symm) (fun e => (h.sep g hg).2 e.symm) (by have := (hlt g hg).1; omega), fun b hb => ⟨fun e => ?_, fun e => ?_⟩⟩
  · rcases hq with h1 | ⟨g, h1, hg⟩
    · rw [h1] at e; exact (h.sep b hb).1 e
    · rw [h1] at e; injection e with e; have := (hlt b hb).2; omega
  · rcases hf with h1 | ⟨g, h1, hg⟩
    · rw [h1] at e; exact (h.sep b hb).2 e
    · rw [h1] at e; injection e with e; have := (hlt b hb).2; omega

set_option maxRecDepth 100000 in
set_option maxHeartbeats 8000000 in
/-- The model's dbFar. -/
theorem dbFar_any (A : Option Addr) (n c B : Nat) (zs : List Int) (w : World) (hr : Ints w B A n zs) (hB : B ≤ w.heap.size) (hs : small zs) (h1 : 1 ≤ n) (h4 : n ≤ 4) :
    Calls Try.prog 31 #[.slice A n c] w fun e w' => ∃ qv fv, e = .returned (.tuple #[qv, fv]) ∧ (∃ vs, OwnVs w' (w.heap.size + 1) qv vs ((Qf zs).map Prod.fst)) ∧ Own w' (w.heap.size + 1) 3 fv (lensOf (Qf zs)) ∧ Below w.heap.size w w' := by
  obtain rfl := hr.len
  have HR := hide hr
  have HS := hide hs
  obtain ⟨N, hN⟩ : ∃ N, N = 41 ^ zs.length := ⟨_, rfl⟩
  have hN2 : N ≤ 2825761 := by rw [hN]; exact Nat.le_trans (Nat.pow_le_pow_right (by omega) h4) (by decide)
  have HNM := hide (show ∀ x : List Int, small x → x.length = zs.length → numD x < N from fun x hx hl => by
    have := numD_lt (small_all hx)
    rwa [hl, ← hN] at this)
  have HPW := hide (fun k (hk : k ≤ zs.length) => show 41 ^ k ≤ 2825761 from Nat.le_trans (Nat.pow_le_pow_right (by omega) (show k ≤ 4 by omega)) (by decide))
  have HPS := hide (fun k => show 41 ^ (k + 1) = 41 ^ k * 41 from rfl)
  have HN := hide hN
  have hmk := run_make_row' (P := Try.prog) 58 4 (.bool false) 1 Try.underlying58 infoBool rfl .i64 .i64 N (by omega) (by omega)
  obtain ⟨W1, hW1⟩ : ∃ W1, W1 = w.alloc (.cells (madeCells #[.bool false] N) 4) := ⟨_, rfl⟩
  have HW1 := hide hW1
  have hrow : W1.rowIs w.heap.size 4 N (fun _ => .bool false) := by rw [hW1]; exact World.rowIs_made w _ N _
  have HB1 := hide (show Below w.heap.size w W1 from by rw [hW1]; exact (Below.refl _ _).alloc (Nat.le_refl _) _)
  have hnz := HNM.out zs hs rfl
  have hcz := hrow.cell hnz
  have hfz := hrow.frozen (numD zs)
  have HDN := hide (fun (W : World) (h : Ints W B A zs.length zs) => dbNumber_any A zs.length c B zs W h h4 (small_all hs))
  clear hr hs hN hrow
  go_enter Try.func31, Try.ntmps31
  go_wp2_with fail
  go_loop [4, 15] (fun v i => ∃ k : Nat, k ≤ zs.length ∧ i = .int .i64 (k : Int) ∧ v = .int .i64 ((41 ^ k : Nat) : Int))
    (fun _ i => zs.length - (intOf i).toNat)
  case atStart => exact ⟨0, Nat.zero_le _, rfl, rfl⟩
  case round =>
    obtain ⟨k, hk, rfl, rfl⟩ := hrel
    by_cases hlt : k < zs.length
    · have hb1 := HPW.out (k + 1) hlt
      have HPk := hide (HPS.out k)
      rw [HPk.out] at hb1
      generalize 41 ^ k = m at *
      have hlt2 : (k : Int) < (zs.length : Int) := by omega
      go_wp2_with fail
      go_round
      case rel => exact ⟨k + 1, by omega, by go_num, by rw [HPk.out]; go_num⟩
      case measure => simp [intOf]; omega
    · obtain rfl : k = zs.length := by omega
      rw [← HN.out]
      have hpos : (numD zs : Int) < (N : Int) := by omega
      go_wp2_with fail
      rw [← hW1]
      clear hW1 hmk
      refine (HDN.out _ (HR.out.below HB1.out hB)).mono ?_; rintro e w' ⟨rfl, rfl⟩
      go_wp2_with fail
      have HL1 := hide (l1Own_any A zs.length c B zs (W1.setCell ⟨w.heap.size, numD zs, none⟩ (.bool true)) ((HR.out.below HB1.out hB).below ((Below.refl _ _).setCell (p := ⟨w.heap.size, numD zs, none⟩) hB (.bool true)) (Nat.le_refl _)) (by have := HB1.out.size; simp; omega) (by omega) (by omega))
      refine HL1.out.mono ?_; rintro e w3 ⟨g3, c3, rfl, _, _, _, _, hown3, hb3⟩
      have HST := hide (far_start HW1.out hown3 hb3)
      go_wp2_with fail
      go_loopw [6, 7, 8] (fun q f i X => ∃ k : Nat, k ≤ (Qn zs k).length ∧ i = .int .i64 (k : Int) ∧ ∃ A6 c6 fv vs, q = .slice A6 (Qn zs k).length c6 ∧ fv = f ∧ Hid (FarI w N (Qn zs k) X (.slice A6 (Qn zs k).length c6) fv vs))
        (fun _ _ i _ => 70000 - (intOf i).toNat)
      case atStart => exact ⟨0, Nat.zero_le _, rfl, _, _, _, _, rfl, rfl, HST⟩
      case round =>
        clear HST HL1 hown3 hb3
        obtain ⟨k, hk, rfl, A6, c6, fv, vs, rfl, hfv, HF⟩ := hrel; subst hfv
        obtain ⟨W4, hW4⟩ : ∃ W4, W4 = wr := ⟨_, rfl⟩
        subst hW4
        by_cases hlt : k < (Qn zs k).length
        · obtain ⟨p, hp⟩ : ∃ p, (Qn zs k)[k]? = some p := ⟨_, List.getElem?_eq_getElem hlt⟩
          have HP := hide hp
          have hlen := Qn_len HS.out h1 h4 k
          have hst := (Qn_ok HS.out k).state p (List.mem_of_getElem? hp)
          have hkz : k < ((Qn zs k).map Prod.fst).length := by rw [List.length_map]; exact hlt
          obtain ⟨ad, rfl, _, hcell⟩ := HF.out.q.vals.at_ hkz
          have hrow := HF.out.q.2.2.1 k hkz
          have hgk : ((Qn zs k).map Prod.fst).getD k [] = p.1 := by simp [List.getD, hp]
          rw [hgk] at hrow
          obtain ⟨Ap, cp, ep, _, _⟩ := hrow.shape
          rw [ep] at hcell hrow
          have hri := hrow.ints
          have hpl := hst.2.1
          have HPS1 := hide hst
          have HW4S := hide HF.out.size
          clear hst
          rw [hpl] at hcell hri
          have HDA := hide (dbAll_any Ap zs.length cp W4.heap.size p.1 W4 hri (Nat.le_refl _) (by omega) (by omega))
          clear hpl hri
          have HQB := hide HF.out.q.blks
          have HFB := hide (fun b (hb : fv.ownBlock = some b) => (HF.out.f.blk hb).2)
          have hlt3 : (k : Int) < ((Qn zs k).length : Int) := by omega
          clear hrow ep hp hgk hkz
          go_wp2_with fail
          refine HDA.out.mono ?_; rintro e w5 ⟨A', c', rfl, hds, hb5⟩
          have HD0 := hide (ds_start (qv := .slice (some ad) (Qn zs k).length c6) (fv := fv) hds HQB.out.2 HFB.out)
          have HF5 := hide (HF.out.next hb5)
          have hL : (allD p.1).length ≤ 16 := Nat.le_trans (outD_len p.1 p.1.length) (Nat.mul_le_mul (show p.1.length ≤ 4 by have := HPS1.out.2.1; omega) (show p.1.length ≤ 4 by have := HPS1.out.2.1; omega))
          have HQ0 := hide (Qi_zero zs k p)
          rw [← HQ0.out] at HF5
          clear hds hb5 HQB HFB HDA hcell
          generalize hds2 : allD p.1 = ds at *
          have HDS := hide hds2
          go_wp2_with fail
          go_loopw [6, 7, 42] (fun q f i X => ∃ j : Nat, j ≤ ds.length ∧ i = .int .i64 (j : Int) ∧ ∃ A6 c6 fv vs, q = .slice A6 (Qi zs k p j).length c6 ∧ fv = f ∧ Hid (FarI w N (Qi zs k p j) X (.slice A6 (Qi zs k p j).length c6) fv vs) ∧ Hid (DsI X W4.heap.size A' c' ds (.slice A6 (Qi zs k p j).length c6) fv))
            (fun _ _ i _ => ds.length - (intOf i).toNat)
          case atStart => exact ⟨0, Nat.zero_le _, rfl, _, _, _, _, by rw [HQ0.out], rfl, by rw [HQ0.out] at HF5 ⊢; exact HF5, by rw [HQ0.out]; exact HD0⟩
          case round =>
            clear HF5 HD0
            obtain ⟨j, hj, rfl, A6, c6, fv, vs, rfl, hfv, HF, HD⟩ := hrel
            subst hfv
            obtain ⟨X, hX⟩ : ∃ X, X = wr := ⟨_, rfl⟩
            subst hX
            by_cases hltj : j < ds.length
            · obtain ⟨d, hd⟩ : ∃ d, ds[j]? = some d := ⟨_, List.getElem?_eq_getElem hltj⟩
              have hdm : d ∈ allD p.1 := by rw [HDS.out]; exact List.mem_of_getElem? hd
              obtain ⟨i1, j1, hdd, hi1, hj1, hne, hpos, hle, hnx⟩ := allD_ix hdm
              have hny := nx_small HPS1.out.1 hdm
              have hpl := HPS1.out.2.1
              have hat := HD.out.own.list.at_ hltj hltj
              obtain ⟨gb, off, eA, _, hc0, hc1⟩ := hat
              rw [(List.getElem?_eq_some_iff.1 hd).2, hdd] at hc0 hc1
              subst eA
              have HSU := hide (Qi_succ (zs := zs) (k := k) (p := p) (i := j) (by rw [HDS.out]; exact hd))
              rw [hdd] at HSU
              have HMK := hide (fun (Y : World) (B2 : Nat) (cp : Nat) (A2 : Option Addr) (h : Ints Y B2 A2 zs.length p.1) (h2 : B2 ≤ Y.heap.size) => dbMake_any A2 zs.length cp B2 p.1 i1 j1 Y h h2 (by omega) HPS1.out.1 (by omega) (by omega) hne hle)
              rw [hnx] at hny
              have hnxx : nx p.1 ⟨(i1 : Int), (j1 : Int)⟩ = dmade i1 j1 p.1 := by rw [← hdd]; exact hnx
              rw [hnxx] at HSU
              have HNB := hide (fun (Y : World) (B2 : Nat) (cp : Nat) (A2 : Option Addr) (h : Ints Y B2 A2 (dmade i1 j1 p.1).length (dmade i1 j1 p.1)) => dbNumber_any A2 (dmade i1 j1 p.1).length cp B2 _ Y h (by rw [hny.2.1]; omega) (small_all hny.1))
              have hnum := HNM.out _ hny.1 (by rw [hny.2.1]; exact hpl)
              have hyl : (dmade i1 j1 p.1).length = zs.length := by rw [hny.2.1]; exact hpl
              have HYS := hide (show small (dmade i1 j1 p.1) ∧ (dmade i1 j1 p.1).length = zs.length ∧ (dmade i1 j1 p.1).sum = zs.sum from ⟨hny.1, hyl, by rw [hny.2.2]; exact HPS1.out.2.2⟩)
              have HYL := hide hyl
              have hkq := Qi_at HP.out j
              have hkl := (List.getElem?_eq_some_iff.1 hkq).1
              have hkz : k < ((Qi zs k p j).map Prod.fst).length := by rw [List.length_map]; exact hkl
              obtain ⟨ad2, rfl, had2, hcell⟩ := HF.out.q.vals.at_ hkz
              have hrow := HF.out.q.2.2.1 k hkz
              have hgk : ((Qi zs k p j).map Prod.fst).getD k [] = p.1 := by simp [List.getD, hkq]
              rw [hgk] at hrow
              obtain ⟨Ap, cp, ep, _, _⟩ := hrow.shape
              rw [ep] at hcell hrow
              have hri := hrow.ints
              rw [hpl] at hcell hri
              have HRI := hide hri
              have hlt3 : (k : Int) < ((Qi zs k p j).length : Int) := by omega
              have hltd : (j : Int) < (ds.length : Int) := by omega
              have HLEN := hide (Qi_len HS.out h1 h4 HP.out j)
              have HMEM := hide (numsOf_mem (Qi_state HS.out HP.out j) HYS.out)
              have HPT := hide (show ((p.2 ++ [(⟨(i1 : Int), (j1 : Int)⟩ : Db)]).length : Int) = (p.2.length : Int) + 1 from by simp)
              have hpln := Qn_plen zs k k p HP.out
              obtain ⟨Af, cf, ef, _, _⟩ := HF.out.f.shape
              rw [show (lensOf (Qi zs k p j)).length = (Qi zs k p j).length from by unfold lensOf; rw [List.length_map]] at ef
              subst ef
              have HFK : Hid ((lensOf (Qi zs k p j)).getD k 0 = (p.2.length : Int)) := hide (by unfold lensOf; simp [List.getD, hkq])
              clear hdm hdd hi1 hj1 hpos hle hnx hnxx hny hpl hd hkq hkz hgk hrow ep hri hne hyl
              generalize dmade i1 j1 p.1 = ys at *
              generalize hQi : Qi zs k p j = Q at *
              clear hQi
              have HXB := hide ((Below.refl X.heap.size X).alloc (Nat.le_refl _) (.cells #[.int .i64 (i1 : Int), .int .i64 (j1 : Int)] 38))
              go_wp2_with fail
              obtain ⟨k0, k1⟩ := alloc2_cells X (.int .i64 (i1 : Int)) (.int .i64 (j1 : Int)) 38
              have hcb := (HXB.out.cell (p := ad2.add k) (by rw [block_of_add]; exact had2)).trans hcell
              have HRB := hide (HRI.out.below HXB.out (Nat.le_refl _))
              have hxs : X.heap.size < (X.alloc (.cells #[.int .i64 (i1 : Int), .int .i64 (j1 : Int)] 38)).heap.size := by simp
              have hab : (ad2.add k).block < (X.alloc (.cells #[.int .i64 (i1 : Int), .int .i64 (j1 : Int)] 38)).heap.size := by rw [block_of_add]; omega
              clear hcell
              generalize X.alloc (.cells #[.int .i64 (i1 : Int), .int .i64 (j1 : Int)] 38) = Y at *
              have HS2 := hide (fun Z (h : Below Y.heap.size Y Z) => And.intro h (And.intro ((h.cell (p := ad2.add k) hab).trans hcb) (And.intro ((h.cell (p := ⟨X.heap.size, 0, none⟩) hxs).trans k0) ((h.cell (p := ⟨X.heap.size, 1, none⟩) hxs).trans k1))))
              have HCW := hide (fun Z (h : Below Y.heap.size Y Z) => HMK.out Z X.heap.size cp Ap (HRB.out.below h (by omega)) (by have := h.size; omega))
              go_region_held3 (fun Z => Below Y.heap.size Y Z ∧ Z.cell? (ad2.add k) = some (.slice Ap zs.length cp) ∧ Z.cell? ⟨X.heap.size, 0, none⟩ = some (.int .i64 (i1 : Int)) ∧ Z.cell? ⟨X.heap.size, 1, none⟩ = some (.int .i64 (j1 : Int)))
                (first | exact HS2.out _ (Below.refl _ _).drew | exact HS2.out _ (below_next (And.left (by assumption)) hb6) | go_keep)
                (first | (go_at_call 25; (with_reducible refine (HCW.out _ (And.left (by assumption))).mono ?_); rintro e w6 ⟨g6, c7, rfl, hg61, hg62, hc61, hc62, hown6, hb6⟩))
              have hO6 : Own w6 Y.heap.size 3 (.slice (some ⟨g6, 0, none⟩) ys.length c7) ys := hown6
              have hB6 : Below Y.heap.size Y w6 := below_next (w1 := Y.drew) (Below.refl _ _).drew hb6
              have HFY := hide (HF.out.next HXB.out)
              have HDY := hide (HD.out.next HXB.out)
              have HF6 := hide (HFY.out.next hB6)
              have HD6 := hide (HDY.out.next hB6)
              have HM := hide (HFY.out.marked hB6 hO6 (numD ys))
              have HO6 := hide hO6
              have HB6 := hide hB6
              have hcs := HF6.out.s.cell hnum
              have hfs := HF6.out.s.frozen (numD ys)
              have hnm : ((numD ys : Nat) : Int) < (N : Int) := by omega
              have HNB6 := hide (HNB.out w6 w6.heap.size c7 (some ⟨g6, 0, none⟩) hO6.ints)
              clear hown6 hb6 hO6 hB6 HS2 HCW HMK k0 k1 hcb hg61 hg62
              by_cases hm : ys ∈ Q.map Prod.fst
              · rw [decide_eq_true (HMEM.out.2 hm)] at hcs
                have hE := HSU.out
                rw [if_pos hm] at hE
                have HE := hide hE
                clear hm hE
                go_wp2_with fail
                refine HNB6.out.mono ?_; rintro e w' ⟨rfl, rfl⟩
                go_wp2_with fail
                go_roundw
                case rel => exact ⟨j + 1, by omega, by go_num, ad2, c6, _, vs, by rw [HE.out], rfl, by rw [HE.out]; exact HF6, by rw [HE.out]; exact HD6⟩
                case measure => simp [intOf]; omega
              · rw [decide_eq_false (fun h => hm (HMEM.out.1 h))] at hcs
                have hE := HSU.out
                rw [if_neg hm] at hE
                have HE := hide hE
                clear hm hE
                go_wp2_with fail
                refine HNB6.out.mono ?_; rintro e w' ⟨rfl, rfl⟩
                have hfi := HM.out.2.2.1
                have HKK := hide (show (∀ i, i < (Q.map Prod.fst).length → ∀ b, (vs.getD i undef).ownBlock = some b → b < Y.heap.size) ∧ ∀ b, (Value.slice (some ad2) Q.length c6).ownBlock = some b → b < Y.heap.size from HFY.out.q.blks)
                obtain ⟨m1, m2, m3, m4, m5, m6⟩ := HM.out
                have M1 := hide m1
                have M2 := hide m2
                have M3 := hide m3
                have M4 := hide m4
                have M5 := hide m5
                have M6 := hide m6
                have HSZ := hide (show w.heap.size + 1 ≤ Y.heap.size from HFY.out.size)
                clear m1 m2 m3 m4 m5 m6 hfi HM
                generalize hW3 : w6.setCell ⟨w.heap.size, numD ys, none⟩ (.bool true) = V3 at *
                have HV3 := hide (fun g (hg : g ≠ w.heap.size) => show V3.heap[g]? = w6.heap[g]? from by rw [← hW3]; exact Below.heap_setCell _ _ _ _ (by simpa using hg))
                have HV4 := hide (show V3.heap.size = w6.heap.size from by rw [← hW3]; simp)
                go_wp2_with (first | (at_builtin; refine wpList_app_rowB rfl (.tmp 62) (.tmp 64) rfl (w.heap.size + 1) Y.heap.size (.slice (some ad2) Q.length c6) (.slice (some ⟨g6, 0, none⟩) ys.length c7) vs (Q.map Prod.fst) ys rfl M1.out M2.out HKK.out HSZ.out _ rfl (Nat.le_trans HSZ.out M5.out) (by rw [List.length_map]; exact Nat.lt_of_le_of_lt HLEN.out (by omega)) ?_; intro v7 w7 hq7 hb7 ho7 hk7; have Q7 := hide hq7; have B7 := hide hb7; have O7 := hide ho7; have K7 := hide hk7; have hf7 := FarI.queued (W3 := V3) (v4 := v7) HFY.out M3.out ho7; have F7 := hide hf7; clear hq7 hb7 ho7 hk7 hf7; obtain ⟨ad7, rfl, _, hc7⟩ := F7.out.ints.at_ (show k < (lensOf Q).length by unfold lensOf; rw [List.length_map]; exact hkl); rw [HFK.out] at hc7; generalize hPL : p.2.length = pl at *) | (at_builtin; refine wpList_app_intB rfl (.tmp 66) (.tmp 72) rfl (w.heap.size + 1) (.slice (some ad7) Q.length cf) (lensOf Q) rfl F7.out ((pl : Int) + 1) _ rfl (Nat.le_trans (Nat.le_trans HSZ.out M5.out) B7.out.size) (by unfold lensOf; rw [List.length_map]; exact Nat.lt_of_le_of_lt HLEN.out (by omega)) ?_; intro v8 w8 hf8 hb8 ho8 hk8; have F8 := hide hf8; have B8 := hide hb8; have O8 := hide ho8; have K8 := hide hk8; clear hf8 hb8 ho8 hk8))
                have HFN := hide (HFY.out.done (path := p.2 ++ [(⟨(i1 : Int), (j1 : Int)⟩ : Db)]) M2.out M3.out M4.out M5.out M6.out Q7.out B7.out K7.out (by rw [HPT.out]; exact F8.out) B8.out O8.out K8.out rfl)
                have HDN := hide (HDY.out.step (w5 := w8) (v4 := v7) (f5 := v8) (show w.heap.size < W4.heap.size from HW4S.out) (fun g hg h1 h2 h3 => ((O8.out g (Nat.lt_of_lt_of_le hg (Nat.le_trans M5.out B7.out.size)) h2).trans (O7.out g (Nat.lt_of_lt_of_le hg M5.out) h1)).trans ((HV3.out g h3).trans (HB6.out.block g hg)))
                  (by rcases K7.out with e | ⟨g, e, hg⟩
                      · exact .inl e
                      · exact .inr ⟨g, e, Nat.le_trans M5.out hg⟩)
                  (by rcases K8.out with e | ⟨g, e, hg⟩
                      · exact .inl e
                      · exact .inr ⟨g, e, Nat.le_trans M5.out (Nat.le_trans B7.out.size hg)⟩))
                obtain ⟨A9, c9, e9, _, _⟩ := Q7.out.shape
                rw [show (Q.map Prod.fst ++ [ys]).length = (Q ++ [(ys, p.2 ++ [(⟨(i1 : Int), (j1 : Int)⟩ : Db)])]).length from by simp] at e9
                subst e9
                go_roundw
                case rel => exact ⟨j + 1, by omega, by go_num, A9, c9, _, _, by rw [HE.out], rfl, by rw [HE.out]; exact HFN, by rw [HE.out]; exact HDN⟩
                case measure => simp [intOf]; omega
            · obtain rfl : j = ds.length := by omega
              have hQe := Qi_end HP.out
              rw [HDS.out] at hQe
              rw [hQe] at HF ⊢
              have hkn : k + 1 ≤ (Qn zs (k + 1)).length := by
                have := (Qn_pre1 zs k).length_le
                omega
              clear hQe HD
              go_wp2_with fail
              go_roundw
              case rel => exact ⟨k + 1, hkn, by go_num, A6, c6, _, vs, rfl, rfl, HF⟩
              case measure => simp [intOf]; omega
        · have hE := Qf_at HS.out h1 h4 (List.getElem?_eq_none_iff.2 (show (Qn zs k).length ≤ k by omega))
          have hneg : ¬ (k : Int) < ((Qf zs).length : Int) := by rw [← hE]; omega
          have HFq := hide HF.out.q
          have HFf := hide HF.out.f
          have HFb := hide HF.out.below
          rw [hE] at HFq HFf ⊢
          clear hE HF hk hlt
          go_wp2_with fail
          go_ret2
          exact ⟨_, _, rfl, ⟨vs, HFq.out⟩, HFf.out, HFb.out⟩
end Go.Proofs.Ytnakkmmmkbjfbaa
