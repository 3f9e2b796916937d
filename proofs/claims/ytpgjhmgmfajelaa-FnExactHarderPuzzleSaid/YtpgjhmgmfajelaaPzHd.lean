
/-
  HARDERPUZZLE, BOTH WAYS.
-/
import Derived.Test.YtpgjhmgmfajelaaPzC
import Derived.Test.YtpgjhmgmfajelaaPzB
import Derived.WalkSpells
import Derived.Deep.RegionLaw
namespace Go.Proofs.Ytpgjhmgmfajelaa
open Go.RowKit Go.Deep
set_option linter.unusedVariables false

theorem withoutL_in {cs : List Cl} {k : Nat} (x : Cl) (h : x ∈ withoutL cs k) : x ∈ cs := by
  unfold withoutL at h
  rw [List.mem_append] at h
  exact h.elim List.mem_of_mem_take List.mem_of_mem_drop
/-- Clues that are taken out, from one on, each if there is one solution still. -/
def hrdr (h : Nat) : Nat → List Cl → Nat → List Cl
  | 0, cs, _ => cs
  | f + 1, cs, k => if cntL h (withoutL cs k) = 1 then hrdr h f (withoutL cs k) k else hrdr h f cs (k + 1)
theorem hrdr_zero (h : Nat) (cs : List Cl) (k : Nat) : hrdr h 0 cs k = cs := rfl
theorem hrdr_out {h k : Nat} {cs : List Cl} (hk : k < cs.length) (hc : cntL h (withoutL cs k) = 1) : hrdr h (cs.length - k) cs k = hrdr h ((withoutL cs k).length - k) (withoutL cs k) k := by
  rw [show cs.length - k = (cs.length - k - 1) + 1 from by omega, hrdr, if_pos hc, withoutL_length hk, show cs.length - 1 - k = cs.length - k - 1 from by omega]
theorem hrdr_next {h k : Nat} {cs : List Cl} (hk : k < cs.length) (hc : ¬ cntL h (withoutL cs k) = 1) : hrdr h (cs.length - k) cs k = hrdr h (cs.length - (k + 1)) cs (k + 1) := by
  rw [show cs.length - k = (cs.length - (k + 1)) + 1 from by omega, hrdr, if_neg hc]
theorem hrdr_len (h : Nat) (f : Nat) : ∀ (cs : List Cl) (k : Nat), cs.length ≤ 6 → (hrdr h f cs k).length ≤ 6 := by
  induction f with
  | zero => intro cs k hc; exact hc
  | succ f ih =>
    intro cs k hc
    unfold hrdr
    split
    · refine ih _ _ ?_
      unfold withoutL
      rw [List.length_append, List.length_take, List.length_drop]
      omega
    · exact ih _ _ hc
def hardL (u : Int) (cs : List Cl) : List Cl := if slvP u cs then hrdr u.toNat cs.length cs 0 else []
def hardU (u : Int) (cs : List Cl) : Int := if slvP u cs then u else 0
theorem slv_puzzle {u : Int} {cs : List Cl} (h : pzOk u cs = false) : slvP u cs = false := by unfold slvP; rw [cntP_no h]; rfl
theorem hard_no {u : Int} {cs : List Cl} (h : slvP u cs = false) : hardL u cs = [] ∧ hardU u cs = 0 := by simp [hardL, hardU, h]
theorem hard_yes {h : Nat} {cs : List Cl} (ho : slvP (h : Int) cs = true) : hardL h cs = hrdr h (cs.length - 0) cs 0 ∧ hardU h cs = (h : Int) := by simp [hardL, hardU, ho]
theorem hardL_len (u : Int) (cs : List Cl) : (hardL u cs).length ≤ 1048576 := by
  cases hg : pzOk u cs
  · rw [(hard_no (slv_puzzle hg)).1]; simp
  · unfold hardL
    split
    · have := hrdr_len u.toNat cs.length cs 0 (pzOk_parts hg).2.1
      omega
    · simp
def rowLen : Value → Nat
  | .slice _ n _ => n
  | _ => 0

set_option maxHeartbeats 8000000 in
set_option maxRecDepth 100000 in
/-- The model's HarderPuzzle. -/
theorem specHarderPuzzle_any (A : Option Addr) (n c B : Nat) (cs : List Cl) (u : Int) (w : World) (hr : Cls w B A n cs) (hB : B ≤ w.heap.size) (hn : n ≤ 17592186044416) (hc : n ≤ c) (hc2 : c ≤ maxLen) (hA : A ≠ none) :
    Calls Try.prog 31 #[.agg #[.int .i64 u, .slice A n c]] w (MadeP (hardL u cs) (hardU u cs) (slvP u cs) w) := by
  obtain rfl := hr.len
  obtain ⟨X0, X1, kb, ks⟩ := pair_boxes w (.int .i64 u) (.slice A cs.length c) (.int .i64 0) (.slice none 0 0) 40 40
  have HG := hide (pzGood_any A cs.length c B cs u _ (hr.below kb hB) (Nat.le_trans hB kb.size) hn)
  have HX0 := hide X0
  have HX1 := hide X1
  have HKB := hide kb
  have HKS := hide ks
  have HR := hide hr
  clear X0 X1 kb ks hr
  cases hg : pzOk u cs
  · rw [hg] at HG
    have hs := slv_puzzle hg
    rw [(hard_no hs).1, (hard_no hs).2, hs]
    clear hg hs
    go_enter Try.func31, Try.ntmps31
    go_wp2_with fail
    refine HG.out.mono ?_; rintro e w2 ⟨rfl, hb2⟩
    have hB2 := HKB.out.trans (hb2.mono HKB.out.size)
    obtain ⟨e0, f0, e1, f1, i0, i1, M0⟩ := noP_put (w := w) (by simp) (HX1.out.next hb2) hB2
    have HM := hide M0
    clear hb2 hB2 M0
    go_wp2_with fail
    exact bodyPost_ret (v := .tuple #[.agg #[.int .i64 0, .slice none 0 0], .bool false]) (by simp [results, Try.results31, go_sem, i0, i1]) rfl HM.out
  · rw [hg] at HG
    obtain ⟨hh, h6, hck⟩ := pzOk_parts hg
    obtain ⟨h, rfl⟩ := Int.eq_ofNat_of_zero_le (show 0 ≤ u by omega)
    have HS := hide (fun W (hb : Below w.heap.size w W) => pzSolved_any A cs.length c B cs h W (HR.out.below hb hB) (Nat.le_trans hB hb.size) (by omega) (by omega) (subs_of hck))
    have hsd : slvP (h : Int) cs = decide (cntL h cs = 1) := by unfold slvP; rw [cntP_yes hg]
    rw [← hsd] at HS
    have HCK := hide hck
    clear hg hck hsd
    cases hs : slvP (h : Int) cs
    · rw [hs] at HS
      rw [(hard_no hs).1, (hard_no hs).2]
      clear hs
      go_enter Try.func31, Try.ntmps31
      go_wp2_with fail
      refine HG.out.mono ?_; rintro e w1 ⟨rfl, hb1⟩
      have HB1 := hide (HKB.out.trans (hb1.mono HKB.out.size))
      have x0 := (HX0.out.next hb1).c0
      have x1 := (HX0.out.next hb1).c1
      replace HX1 := hide (HX1.out.next hb1)
      replace HKB := HB1
      clear hb1 HG
      go_wp2_with fail
      refine (HS.out _ HB1.out).mono ?_; rintro e w2 ⟨rfl, hb2⟩
      clear x0 x1
      have hB2 := HB1.out.trans (hb2.mono HB1.out.size)
      obtain ⟨e0, f0, e1, f1, i0, i1, M0⟩ := noP_put (w := w) (by simp) (HX1.out.next hb2) hB2
      have HM := hide M0
      clear hb2 hB2 M0
      go_wp2_with fail
      exact bodyPost_ret (v := .tuple #[.agg #[.int .i64 0, .slice none 0 0], .bool false]) (by simp [results, Try.results31, go_sem, i0, i1]) rfl HM.out
    · rw [hs] at HS
      rw [(hard_yes hs).1, (hard_yes hs).2]
      have HHO := hide (fun (k : Nat) (ds : List Cl) => @hrdr_out h k ds)
      have HHN := hide (fun (k : Nat) (ds : List Cl) => @hrdr_next h k ds)
      have HHZ := hide (fun (k : Nat) (ds : List Cl) => hrdr_zero h ds k)
      have HHD := hide (show hrdr h (cs.length - 0) cs 0 = hrdr h (cs.length - 0) cs 0 from rfl)
      generalize hR : hrdr h (cs.length - 0) cs 0 = R at HHD ⊢
      have HHR := hide hR
      clear hs hR HHD
      have HAn := hide hA
      clear hA
      have h0 : ((0 : Nat) : Int) = 0 := rfl
      go_enter Try.func31, Try.ntmps31
      go_wp2_with fail
      refine HG.out.mono ?_; rintro e w1 ⟨rfl, hb1⟩
      have HB1 := hide (HKB.out.trans (hb1.mono HKB.out.size))
      replace HX0 := hide (HX0.out.next hb1)
      replace HX1 := hide (HX1.out.next hb1)
      have HSZ := hide (show w.heap.size + 2 ≤ w1.heap.size from by have := hb1.size; have := HKS.out; omega)
      have x0 := HX0.out.c0
      have x1 := HX0.out.c1
      clear hb1 HG HKB HKS
      go_wp2_with fail
      refine (HS.out _ HB1.out).mono ?_; rintro e w2 ⟨rfl, hb2⟩
      have HB2 := hide (HB1.out.trans (hb2.mono HB1.out.size))
      replace HX0 := hide (HX0.out.next hb2)
      replace HX1 := hide (HX1.out.next hb2)
      replace HSZ := hide (show w.heap.size + 2 ≤ w2.heap.size from by have := hb2.size; have := HSZ.out; omega)
      clear hb2 x0 x1 HS HB1
      have x1 := (HX0.out.alloc (.cells #[] 27)).c1
      go_wp2_with (at_builtin; refine wpList_app_Cls rfl _ _ 38 rfl Try.underlying38 w2.heap.size _ [] rfl (OwnICl.empty w2) A cs.length c B cs rfl HAn.out ((HR.out.below HB2.out hB).below (Below.alloc (Below.refl w2.heap.size w2) (Nat.le_refl _) _) (Nat.le_trans hB HB2.out.size)) (by simp) (by simp; omega) ?_; intro v' w' hown' hb')
      rw [List.nil_append] at hown'
      obtain ⟨A3, c3, rfl⟩ := hown'.shape
      have HO3 := hide hown'
      have HX03 := hide ((HX0.out.alloc (.cells #[] 27)).below hb' HX0.out.lt)
      have HX13 := hide ((HX1.out.alloc (.cells #[] 27)).below hb' HX1.out.lt)
      have HB3 := hide (show Below w.heap.size w w' from HB2.out.trans (((Below.alloc (Below.refl w2.heap.size w2) (Nat.le_refl _) _).trans hb').mono HB2.out.size))
      clear hown' hb' x1
      generalize w2.heap.size = b2 at *
      try go_wp2_with fail
      go_loopw [4, 5] (fun v i wr => ∃ (ds : List Cl) (k : Nat) (A' : Option Addr) (c' : Nat), v = .slice A' ds.length c' ∧ k ≤ ds.length ∧ i = .int .i64 k ∧ Hid (OwnICl wr (w.heap.size + 2) (.slice A' ds.length c') ds.length (numsCl ds)) ∧ Hid (∀ x ∈ ds, x ∈ cs) ∧ ds.length ≤ 6 ∧ Hid (hrdr h (ds.length - k) ds k = R) ∧
          Hid (Bx wr w.heap.size 40 (.int .i64 (h : Int)) (.slice A cs.length c)) ∧ Hid (Bx wr (w.heap.size + 1) 40 (.int .i64 0) (.slice none 0 0)) ∧ Hid (Below w.heap.size w wr))
        (fun v i _ => rowLen v - (intOf i).toNat)
      case atStart => exact ⟨cs, 0, A3, c3, rfl, Nat.zero_le _, rfl, hide (HO3.out.less HSZ.out), hide (fun x hx => hx), h6, HHR, HX03, HX13, HB3⟩
      case round =>
        obtain ⟨ds, k, A4, c4, rfl, hk, rfl, ho, hm, hd6, hh, XA, XB, hb⟩ := hrel
        obtain ⟨hf1, hf2⟩ : ds.length ≤ c4 ∧ c4 ≤ maxLen := by
          rcases ho.out.full with ⟨e, e0⟩ | ⟨g, c5, e, _, _, e1, e2⟩
          · injection e with _ _ e3; exact ⟨by omega, by unfold maxLen; omega⟩
          · injection e with _ _ e3; subst e3; exact ⟨e1, e2⟩
        by_cases hlt : k < ds.length
        · have HW := hide (pzWithout_any A4 ds.length c4 wr.heap.size ds k wr ho.out.list (Nat.le_refl _) (by omega) hf1 hf2 hlt)
          have HSo := hide (fun A' c' W (hr : Cls W W.heap.size A' (withoutL ds k).length (withoutL ds k)) => pzSolved_any A' (withoutL ds k).length c' W.heap.size (withoutL ds k) h W hr (Nat.le_refl _) (by rw [withoutL_length hlt]; omega) (by omega) (subs_mem HCK.out fun x hx => hm.out x (withoutL_in x hx)))
          have HM2 := hide (fun x hx => hm.out x (withoutL_in (cs := ds) (k := k) x hx))
          have HL2 := hide (withoutL_length hlt)
          have HO := hide (HHO.out k ds hlt)
          have HN := hide (HHN.out k ds hlt)
          generalize withoutL ds k = es at *
          generalize cntL h es = ce at *
          have hki : (k : Int) < (ds.length : Int) := by omega
          clear hf1 hf2
          go_wp2_with fail
          refine HW.out.mono ?_
          rintro e w5 ⟨A5, c5, rfl, hc5, hc6, hown5, hb5⟩
          have HO5 := hide hown5
          have HB5 := hide hb5
          have x0 := (XA.out.next hb5).c0
          clear hown5 hb5 HW
          go_wp2_with fail
          refine (HSo.out _ _ _ HO5.out.list).mono ?_
          rintro e w6 ⟨rfl, hb6⟩
          have HB56 := hide (below_next HB5.out hb6)
          have HO6 := hide (HO5.out.below hb6)
          clear hb6 x0 HSo
          have HXA := hide (XA.out.next HB56.out)
          have HXB := hide (XB.out.next HB56.out)
          have HB6 := hide (below_next hb.out HB56.out)
          have hbs : w.heap.size + 2 ≤ wr.heap.size := by have := XB.out.lt; omega
          by_cases hce : ce = 1
          · rw [decide_eq_true hce]
            have HR2 := hide ((HO.out hce).symm.trans hh.out)
            go_wp2_with fail
            go_roundw
            case rel => exact ⟨es, k, A5, c5, rfl, by have := HL2.out; omega, rfl, hide (HO6.out.less hbs), HM2, by have := HL2.out; omega, HR2, HXA, HXB, HB6⟩
            case measure => have := HL2.out; simp [intOf, rowLen]; omega
          · rw [decide_eq_false hce]
            have HR2 := hide ((HN.out hce).symm.trans hh.out)
            have HOw := hide (ho.out.below HB56.out)
            go_wp2_with fail
            go_roundw
            case rel => exact ⟨ds, k + 1, A4, c4, rfl, by omega, by go_num, HOw, hm, hd6, HR2, HXA, HXB, HB6⟩
            case measure => simp [intOf, rowLen]; omega
        · obtain rfl : k = ds.length := by omega
          have hR := hh.out
          rw [Nat.sub_self, HHZ.out] at hR
          subst hR
          have x0 := XA.out.c0
          have f0 := XB.out.f 0
          have r0 := XB.out.c0
          have R1 := XB.out.set0 (.int .i64 (h : Int))
          have r1 := R1.c1
          have f1 := R1.f 1
          obtain ⟨i0, i1, M0⟩ := madeP_put (w := w) (h := (h : Int)) (b1 := w.heap.size + 1) true (by simp) XB.out ho.out (by omega) hb.out
          have HM := hide M0
          clear M0 R1
          go_wp2_with fail
          exact bodyPost_ret (v := .tuple #[.agg #[.int .i64 (h : Int), .slice A4 ds.length c4], .bool true]) (by simp [results, Try.results31, go_sem, i0, i1]) rfl HM.out

theorem OwnICl.keepAt {w w' : World} {base n c : Nat} {A : Option Addr} {xs : List Int} (h : OwnICl w base (.slice A n c) n xs) (hk : ∀ ad, A = some ad → w'.heap[ad.block]? = w.heap[ad.block]?) : OwnICl w' base (.slice A n c) n xs := by
  refine ⟨⟨h.1.1, ?_⟩, h.2⟩
  rcases h.1.2 with h2 | ⟨g, cap, cur, hv, hb, hg, r⟩
  · exact .inl h2
  · have hA : A = some ⟨g, 0, none⟩ := by injection hv
    exact .inr ⟨g, cap, cur, hv, hb, (hk _ hA).trans hg, r⟩
theorem OwnICl.loc {w : World} {base n c : Nat} {A : Option Addr} {xs : List Int} (h : OwnICl w base (.slice A n c) n xs) (ad : Addr) (hA : A = some ad) : base ≤ ad.block ∧ ad.block < w.heap.size := by
  rcases h.form with ⟨h1, _⟩ | ⟨g, c', h1, hb, hlt⟩
  · injection h1 with h1; rw [h1] at hA; cases hA
  · injection h1 with h1; rw [h1] at hA; injection hA with hA; subst hA; exact ⟨hb, hlt⟩
def cellLen (w : World) (b : Nat) : Nat := match w.cell? ⟨b, 1, none⟩ with
  | some v => rowLen v
  | none => 0
theorem cellLen_of {w : World} {b n c : Nat} {T : TypeId} {x : Value} {A : Option Addr} (h : Bx w b T x (.slice A n c)) : cellLen w b = n := by unfold cellLen; rw [h.c1]; rfl

set_option maxRecDepth 100000 in
/-- slices.Clone of a list of clues that is not nil. -/
theorem CloneCl_any (A : Option Addr) (n c B : Nat) (cs : List Cl) (w : World) (hr : Cls w B A n cs) (hB : B ≤ w.heap.size) (hn : n ≤ 1000) (hA : A ≠ none) :
    Calls Try.prog 54 #[.slice A n c] w (MadeCl cs w) := by
  obtain rfl := hr.len
  obtain ⟨ad, rfl⟩ : ∃ ad, A = some ad := by cases A with | none => exact absurd rfl hA | some ad => exact ⟨ad, rfl⟩
  have he := fun w => Lib.run_eql_slice_nil (P := Try.prog) w 38 27 (some ad) cs.length c 0 0 Try.underlying38
  go_enter Try.func54, Try.ntmps54
  go_wp2_with (at_builtin; refine wpList_app_Cls rfl _ _ 38 rfl Try.underlying38 w.heap.size _ [] rfl (OwnICl.empty w) (some ad) cs.length c B cs rfl (by simp) (hr.below (Below.alloc (Below.refl w.heap.size w) (Nat.le_refl _) _) hB) (by simp) (by simp; omega) ?_; intro v' w' hown' hb')
  go_ret
  exact madeCl_of hown' ((Below.alloc (Below.refl w.heap.size w) (Nat.le_refl _) _).trans hb')

set_option maxHeartbeats 8000000 in
set_option maxRecDepth 100000 in
/-- The program's HarderPuzzle. -/
theorem HarderPuzzle_any (A : Option Addr) (n c B : Nat) (cs : List Cl) (u : Int) (w : World) (hr : Cls w B A n cs) (hB : B ≤ w.heap.size) (hn : n ≤ 17592186044416) (hc : n ≤ c) (hc2 : c ≤ maxLen) (hA : A ≠ none) :
    Calls Try.prog 32 #[.agg #[.int .i64 u, .slice A n c]] w (MadeP (hardL u cs) (hardU u cs) (slvP u cs) w) := by
  obtain rfl := hr.len
  obtain ⟨X0, X1, kb, ks⟩ := pair_boxes w (.int .i64 u) (.slice A cs.length c) (.int .i64 0) (.slice none 0 0) 40 40
  have HG := hide (IsSolved_any A cs.length c B cs u _ (hr.below kb hB) (Nat.le_trans hB kb.size) hn)
  have HX0 := hide X0
  have HX1 := hide X1
  have HKB := hide kb
  have HKS := hide ks
  have HR := hide hr
  clear X0 X1 kb ks hr
  generalize hok : pzOk u cs = ok at HG
  cases hs : slvP u cs
  · rw [hs] at HG
    rw [(hard_no hs).1, (hard_no hs).2]
    clear hs hok
    go_enter Try.func32, Try.ntmps32
    go_wp2_with fail
    refine HG.out.mono ?_; rintro e w2 ⟨rfl, hb2⟩
    have hB2 := HKB.out.trans (hb2.mono HKB.out.size)
    obtain ⟨e0, f0, e1, f1, i0, i1, M0⟩ := noP_put (w := w) (by simp) (HX1.out.next hb2) hB2
    have HM := hide M0
    clear hb2 hB2 M0
    go_wp2_with fail
    exact bodyPost_ret (v := .tuple #[.agg #[.int .i64 0, .slice none 0 0], .bool false]) (by simp [results, Try.results32, go_sem, i0, i1]) rfl HM.out
  · rw [hs] at HG
    have hg : pzOk u cs = true := by
      cases hg : pzOk u cs
      · rw [slv_puzzle hg] at hs; cases hs
      · rfl
    obtain ⟨hh, h6, hck⟩ := pzOk_parts hg
    obtain ⟨h, rfl⟩ := Int.eq_ofNat_of_zero_le (show 0 ≤ u by omega)
    rw [(hard_yes hs).1, (hard_yes hs).2]
    have HCK := hide hck
    have HHO := hide (fun (k : Nat) (ds : List Cl) => @hrdr_out h k ds)
    have HHN := hide (fun (k : Nat) (ds : List Cl) => @hrdr_next h k ds)
    have HHZ := hide (fun (k : Nat) (ds : List Cl) => hrdr_zero h ds k)
    generalize hR : hrdr h (cs.length - 0) cs 0 = R
    have HHR := hide hR
    have HCL := hide (fun W (hb : Below w.heap.size w W) => CloneCl_any A cs.length c B cs W (HR.out.below hb hB) (Nat.le_trans hB hb.size) (by omega) hA)
    clear hs hR hg hck hok hA
    go_enter Try.func32, Try.ntmps32
    go_wp2_with fail
    refine HG.out.mono ?_; rintro e w2 ⟨rfl, hb2⟩
    have HB2 := hide (HKB.out.trans (hb2.mono HKB.out.size))
    replace HX0 := hide (HX0.out.next hb2)
    replace HX1 := hide (HX1.out.next hb2)
    have HSZ := hide (show w.heap.size + 2 ≤ w2.heap.size from by have := hb2.size; have := HKS.out; omega)
    have x0 := HX0.out.c0
    have x1 := HX0.out.c1
    clear hb2 HG HKB HKS
    go_wp2_with fail
    have HAL := hide (show (w2.alloc (.cells #[.int .i64 0, .slice none 0 0] 40)).drew.heap.size = w2.heap.size + 1 from by show (w2.alloc (.cells #[.int .i64 0, .slice none 0 0] 40)).heap.size = _; simp)
    have a0 := (HX0.out.alloc (.cells #[.int .i64 0, .slice none 0 0] 40)).c0
    have a1 := (HX0.out.alloc (.cells #[.int .i64 0, .slice none 0 0] 40)).c1
    go_region_law (first
      | (go_simp; go_at_call 54; (with_reducible refine (HCL.out _ ?_).mono ?_); (exact HB2.out.drew); rintro e w3 ⟨A3, c3, rfl, hc3, hc4, hown3, hb3⟩; have HB3 := hide (show Below w2.heap.size w2 w3 from (Below.refl _ _).drew.trans hb3); have HO3 := hide (show OwnICl w3 w2.heap.size (.slice A3 cs.length c3) cs.length (numsCl cs) from hown3); have N0 := Bx.new w3 40 (.int .i64 0) (.slice none 0 0); have n0 := N0.c0; have n1 := N0.f 0; have N1 := N0.set0 (.int .i64 (h : Int)); have n2 := N1.c1; have n3 := N1.f 1; have m0 := (HX0.out.next HB3.out).c0; have m1 := ((HX0.out.next HB3.out).alloc (.cells #[.int .i64 0, .slice none 0 0] 40)).c0; clear hown3 hb3 N0 N1; go_wp2_with fail)
      | (go_simp; go_at_call 54; (with_reducible refine (HCL.out _ ?_).mono ?_); (exact (HB2.out.alloc HB2.out.size _).drew); rintro e w3 ⟨A3, c3, rfl, hc3, hc4, hown3, hb3⟩; have HB3 := hide (show Below w2.heap.size w2 w3 from (((Below.refl _ _).alloc (Nat.le_refl _) _).drew).trans (hb3.mono (by have := HAL.out; omega))); have N0 : Bx w3 w2.heap.size 40 (.int .i64 0) (.slice none 0 0) := Bx.below (w := (w2.alloc (.cells #[.int .i64 0, .slice none 0 0] 40)).drew) (show Bx _ w2.heap.size 40 (.int .i64 0) (.slice none 0 0) from Bx.new w2 40 (.int .i64 0) (.slice none 0 0)) hb3 (by have := HAL.out; omega); have HO3 := hide (show OwnICl w3 (w2.heap.size + 1) (.slice A3 cs.length c3) cs.length (numsCl cs) from hown3.less (by have := HAL.out; omega)); have HN0 := hide N0; have n0 := N0.c0; have n1 := N0.f 0; have N1 := N0.set0 (.int .i64 (h : Int)); have n2 := N1.c1; have n3 := N1.f 1; have m0 := (HX0.out.next HB3.out).c0; have m1 := ((HX0.out.next HB3.out).alloc (.cells #[.int .i64 0, .slice none 0 0] 40)).c0; clear hown3 hb3 N0 N1; go_wp2_with fail))
    all_goals
      have hB23 := HB2.out.trans (HB3.out.mono HB2.out.size)
      have hz2 := HSZ.out
      have hz3 : w2.heap.size ≤ w3.heap.size := HB3.out.size
      first
      | (have hq := HN0.out
         have FX := hide ((hq.set0 (.int .i64 (h : Int))).set1 (.slice A3 cs.length c3))
         have FR := hide (((HX1.out.next HB3.out).setOther (a := ⟨w2.heap.size, 0, none⟩) (by simp; omega) (.int .i64 (h : Int))).setOther (a := ⟨w2.heap.size, 1, none⟩) (by simp; omega) (.slice A3 cs.length c3))
         have FO := hide (((HO3.out.keep (w' := w3.setCell ⟨w2.heap.size, 0, none⟩ (.int .i64 (h : Int))) fun g hg _ => Below.heap_setCell _ _ _ _ (by simp; omega)).keep (w' := (w3.setCell ⟨w2.heap.size, 0, none⟩ (.int .i64 (h : Int))).setCell ⟨w2.heap.size, 1, none⟩ (.slice A3 cs.length c3)) fun g hg _ => Below.heap_setCell _ _ _ _ (by simp; omega)).less (base' := w.heap.size + 2) (by omega))
         have FN := hide (show ∀ ad, A3 = some ad → ad.block ≠ w2.heap.size from fun ad e => by have := (HO3.out.loc ad e).1; omega)
         have FB := hide ((hB23.setCell (p := ⟨w2.heap.size, 0, none⟩) (by simp; omega) (.int .i64 (h : Int))).setCell (p := ⟨w2.heap.size, 1, none⟩) (by simp; omega) (.slice A3 cs.length c3))
         have FS := hide hz2
         clear hq n0 n1 n2 n3 m0 m1 x0 x1 a0 a1 hB23 hz2 hz3 HN0 HO3 HB3 HAL HX0 HX1 HSZ HB2 HCL
         generalize ((w3.setCell ⟨w2.heap.size, 0, none⟩ (.int .i64 (h : Int))).setCell ⟨w2.heap.size, 1, none⟩ (.slice A3 cs.length c3)) = W5 at *
         generalize w2.heap.size = b6 at *)
      | (have FX := hide (Bx.new w3 40 (.int .i64 (h : Int)) (.slice A3 cs.length c3))
         have FR := hide ((HX1.out.next HB3.out).alloc (.cells #[.int .i64 (h : Int), .slice A3 cs.length c3] 40))
         have FO := hide ((HO3.out.below ((Below.refl w3.heap.size w3).alloc (Nat.le_refl _) (.cells #[.int .i64 (h : Int), .slice A3 cs.length c3] 40))).less (base' := w.heap.size + 2) (by omega))
         have FN := hide (show ∀ ad, A3 = some ad → ad.block ≠ w3.heap.size from fun ad e => by have := (HO3.out.loc ad e).2; omega)
         have FB := hide (hB23.alloc hB23.size (.cells #[.int .i64 (h : Int), .slice A3 cs.length c3] 40))
         have FS := hide (show w.heap.size + 2 ≤ w3.heap.size by omega)
         clear n0 n1 n2 n3 m0 m1 x0 x1 a0 a1 hB23 hz2 hz3 HO3 HB3 HAL HX0 HX1 HSZ HB2 HCL
         generalize (w3.alloc (.cells #[.int .i64 (h : Int), .slice A3 cs.length c3] 40)) = W5 at *
         generalize w3.heap.size = b6 at *)
      go_wp2_with fail
      go_loopw [7] (fun i wr => ∃ (ds : List Cl) (k : Nat) (A' : Option Addr) (c' : Nat), k ≤ ds.length ∧ i = .int .i64 k ∧ Hid (Bx wr b6 40 (.int .i64 (h : Int)) (.slice A' ds.length c')) ∧ Hid (OwnICl wr (w.heap.size + 2) (.slice A' ds.length c') ds.length (numsCl ds)) ∧ Hid (∀ ad, A' = some ad → ad.block ≠ b6) ∧ Hid (∀ x ∈ ds, x ∈ cs) ∧ ds.length ≤ 6 ∧ Hid (hrdr h (ds.length - k) ds k = R) ∧
          Hid (Bx wr (w.heap.size + 1) 40 (.int .i64 0) (.slice none 0 0)) ∧ Hid (Below w.heap.size w wr))
        (fun i wr => cellLen wr b6 - (intOf i).toNat)
      case atStart => exact ⟨cs, 0, A3, c3, Nat.zero_le _, rfl, FX, FO, FN, hide (fun x hx => hx), h6, HHR, FR, FB⟩
      case round =>
        obtain ⟨ds, k, A4, c4, hk, rfl, XT, ho, hne, hm, hd6, hh, XB, hb⟩ := hrel
        obtain ⟨hf1, hf2⟩ : ds.length ≤ c4 ∧ c4 ≤ maxLen := by
          rcases ho.out.full with ⟨e, e0⟩ | ⟨g, c5, e, _, _, e1, e2⟩
          · injection e with _ _ e3; exact ⟨by omega, by unfold maxLen; omega⟩
          · injection e with _ _ e3; subst e3; exact ⟨e1, e2⟩
        have x0 := XT.out.c0
        have x1 := XT.out.c1
        by_cases hlt : k < ds.length
        · have HW := hide (without_any A4 ds.length c4 wr.heap.size ds (h : Int) k wr ho.out.list (Nat.le_refl _) (by omega) hf1 hlt)
          have HSo := hide (fun A' c' W (hr : Cls W W.heap.size A' (withoutL ds k).length (withoutL ds k)) => (show Calls Try.prog 45 #[.agg #[.int .i64 (h : Int), .slice A' (withoutL ds k).length c']] W fun e w' => e = .returned (.int .i64 (cntL h (withoutL ds k))) ∧ Below W.heap.size W w' from
            countSolutions_any A' (withoutL ds k).length c' W.heap.size (withoutL ds k) h W hr (Nat.le_refl _) (by rw [withoutL_length hlt]; omega) (by omega) (subs_mem HCK.out fun x hx => hm.out x (withoutL_in x hx))))
          have HM2 := hide (fun x hx => hm.out x (withoutL_in (cs := ds) (k := k) x hx))
          have HL2 := hide (withoutL_length hlt)
          have HO := hide (HHO.out k ds hlt)
          have HN := hide (HHN.out k ds hlt)
          generalize withoutL ds k = es at *
          generalize cntL h es = ce at *
          have hki : (k : Int) < (ds.length : Int) := by omega
          clear hf1 hf2
          go_wp2_with fail
          refine HW.out.mono ?_
          rintro e w5 ⟨A5, c5, rfl, hc5, hc6, hown5, hb5⟩
          have N0 := Bx.new w5 40 (.int .i64 0) (.slice none 0 0)
          have n0 := N0.c0
          have n1 := N0.f 0
          have N1 := N0.set0 (.int .i64 (h : Int))
          have n2 := N1.c1
          have n3 := N1.f 1
          have HN8 := hide (Bx.new w5 40 (.int .i64 (h : Int)) (.slice A5 es.length c5))
          have n4 := HN8.out.c0
          have n5 := HN8.out.c1
          have HA5 := hide (show Below w5.heap.size w5 (w5.alloc (.cells #[.int .i64 (h : Int), .slice A5 es.length c5] 40)) from (Below.refl _ _).alloc (Nat.le_refl _) _)
          have HO5 := hide (hown5.below HA5.out)
          have HB5 := hide (below_next hb5 HA5.out)
          have HS5 := hide (show wr.heap.size ≤ w5.heap.size from hb5.size)
          clear hown5 hb5 HW N0 N1
          go_wp2_with fail
          generalize (w5.alloc (.cells #[.int .i64 (h : Int), .slice A5 es.length c5] 40)) = W6 at *
          try go_wp2_with fail
          refine (HSo.out _ _ _ HO5.out.list).mono ?_
          rintro e w7 ⟨rfl, hb7⟩
          have HB7 := hide (below_next HB5.out hb7)
          have HO7 := hide (HO5.out.below hb7)
          have HN7 := hide (HN8.out.next hb7)
          clear hb7 x0 x1 n0 n1 n2 n3 n4 n5 HSo HO5 HN8 HA5
          have hlt6 := XT.out.lt
          have hs5 := HS5.out
          have hbs := FS.out
          have XT7 := XT.out.next HB7.out
          have HXB := hide (XB.out.next HB7.out)
          have HBw := hide (below_next hb.out HB7.out)
          by_cases hce : ce = 1
          · have hce2 : (ce == 1) = true := by simp [hce]
            have HR2 := hide ((HO.out hce).symm.trans hh.out)
            have y0 := HN7.out.c0
            have y1 := HN7.out.c1
            have y2 := XT7.c0
            have y3 := XT7.f 0
            have Y1 := XT7.set0 (.int .i64 (h : Int))
            have y4 := Y1.c1
            have y5 := Y1.f 1
            have HY := hide (Y1.set1 (.slice A5 es.length c5))
            have y6 := (HN7.out.setOther (a := ⟨b6, 0, none⟩) (by simp; omega) (.int .i64 (h : Int))).c1
            have FO8 := hide (((HO7.out.keep (w' := w7.setCell ⟨b6, 0, none⟩ (.int .i64 (h : Int))) fun g hg _ => Below.heap_setCell _ _ _ _ (by simp; omega)).keep (w' := (w7.setCell ⟨b6, 0, none⟩ (.int .i64 (h : Int))).setCell ⟨b6, 1, none⟩ (.slice A5 es.length c5)) fun g hg _ => Below.heap_setCell _ _ _ _ (by simp; omega)).less (base' := w.heap.size + 2) (by omega))
            have FN8 := hide (show ∀ ad, A5 = some ad → ad.block ≠ b6 from fun ad e => by have := (HO7.out.loc ad e).1; omega)
            have FR8 := hide ((HXB.out.setOther (a := ⟨b6, 0, none⟩) (by simp; omega) (.int .i64 (h : Int))).setOther (a := ⟨b6, 1, none⟩) (by simp; omega) (.slice A5 es.length c5))
            have FB8 := hide ((HBw.out.setCell (p := ⟨b6, 0, none⟩) (by simp; omega) (.int .i64 (h : Int))).setCell (p := ⟨b6, 1, none⟩) (by simp; omega) (.slice A5 es.length c5))
            have HME := hide (show cellLen ((w7.setCell ⟨b6, 0, none⟩ (.int .i64 (h : Int))).setCell ⟨b6, 1, none⟩ (.slice A5 es.length c5)) b6 = es.length from cellLen_of HY.out)
            clear XT7 Y1
            go_wp2_with fail
            go_roundw
            case rel => exact ⟨es, k, A5, c5, by have := HL2.out; omega, rfl, HY, FO8, FN8, HM2, by have := HL2.out; omega, HR2, FR8, FB8⟩
            case measure => rw [HME.out, cellLen_of XT.out]; have := HL2.out; simp [intOf]; omega
          · have hce2 : (ce == 1) = false := by simp [hce]
            have HR2 := hide ((HN.out hce).symm.trans hh.out)
            have HOw := hide (ho.out.below HB7.out)
            have HXT := hide XT7
            clear XT7
            go_wp2_with fail
            go_roundw
            case rel => exact ⟨ds, k + 1, A4, c4, by omega, by go_num, HXT, HOw, hne, hm, hd6, HR2, HXB, HBw⟩
            case measure => rw [cellLen_of HXT.out, cellLen_of XT.out]; simp [intOf]; omega
        · obtain rfl : k = ds.length := by omega
          have hR := hh.out
          rw [Nat.sub_self, HHZ.out] at hR
          subst hR
          have hbs := FS.out
          have f0 := XB.out.f 0
          have r0 := XB.out.c0
          have R1 := XB.out.set0 (.int .i64 (h : Int))
          have r1 := R1.c1
          have f1 := R1.f 1
          have x2 := (XT.out.setOther (a := ⟨w.heap.size + 1, 0, none⟩) (by simp; omega) (.int .i64 (h : Int))).c1
          obtain ⟨i0, i1, M0⟩ := madeP_put (w := w) (h := (h : Int)) (b1 := w.heap.size + 1) true (by simp) XB.out ho.out (by omega) hb.out
          have HM := hide M0
          clear M0 R1
          go_wp2_with fail
          exact bodyPost_ret (v := .tuple #[.agg #[.int .i64 (h : Int), .slice A4 ds.length c4], .bool true]) (by simp [results, Try.results32, go_sem, i0, i1]) rfl HM.out
end Go.Proofs.Ytpgjhmgmfajelaa
