
/-
  THE TEXT OF SPLITS, BOTH WAYS, and the walk of its law.
-/
import Derived.Test.YtflkgkajkoaaiaaDoorTextH
import Derived.Test.YtflkgkajkoaaiaaDoorGood
import Derived.Test.YtflkgkajkoaaiaaDoorSpB
import Derived.Deep.RegionHeld3
import Derived.Deep.RegionWith
namespace Go.Proofs.YtflkgkajkoaaiaaDoor
open Go.RowKit Go.Deep
set_option linter.unusedVariables false

/-- The numbers of a split with ':' between them; splits with ','. -/
def spW (d : Sp) : List UInt8 := dtxt d.x0 ++ [58] ++ dtxt d.x1
def spT (ds : List Sp) : List UInt8 := Lib.join (ds.map spW) [44]
def sok (h p : Int) : Bool := decide (0 ≤ h ∧ h ≤ 99 ∧ 1 ≤ p ∧ p ≤ 60)
theorem sok_of {h p : Int} (h' : sok h p = true) : 0 ≤ h ∧ h ≤ 99 ∧ 1 ≤ p ∧ p ≤ 60 := of_decide_eq_true h'
theorem sok_no {h p : Int} (h' : ¬ (0 ≤ h ∧ h ≤ 99 ∧ 1 ≤ p ∧ p ≤ 60)) : sok h p = false := decide_eq_false h'
theorem sok_yes {h p : Int} (h' : 0 ≤ h ∧ h ≤ 99 ∧ 1 ≤ p ∧ p ≤ 60) : sok h p = true := decide_eq_true h'
/-- Each is a split of some heap. -/
def spGoodL (ds : List Sp) : Bool := ds.all fun d => sok d.x0 d.x1
def spsOk (ds : List Sp) : Bool := decide (ds.length ≤ 60) && spGoodL ds
def spsT (ds : List Sp) : ByteArray := if spsOk ds then bs (spT ds) else ⟨#[]⟩
theorem spGoodL_get {ds : List Sp} (h : spGoodL ds = true) (k : Nat) (hk : k < ds.length) : sok ds[k].x0 ds[k].x1 = true := by
  unfold spGoodL at h
  exact List.all_eq_true.1 h ds[k] (List.getElem_mem hk)
theorem spGoodL_of {ds : List Sp} (h : ∀ (k : Nat) (_ : k < ds.length), sok ds[k].x0 ds[k].x1 = true) : spGoodL ds = true := by
  unfold spGoodL
  rw [List.all_eq_true]
  intro d hd
  obtain ⟨k, hk, rfl⟩ := List.getElem_of_mem hd
  exact h k hk
theorem spGoodL_not {ds : List Sp} (k : Nat) (hk : k < ds.length) (h : sok ds[k].x0 ds[k].x1 = false) : spGoodL ds = false := by
  cases hd : spGoodL ds
  · rfl
  · rw [spGoodL_get hd k hk] at h; cases h
theorem spT_zero (ds : List Sp) (h : 0 < ds.length) : spT (ds.take 1) = spW ds[0] := by
  unfold spT
  rw [List.take_one, List.head?_eq_getElem?, List.getElem?_eq_getElem h]
  simp [Lib.join_one]
theorem spT_succ (ds : List Sp) (k : Nat) (h0 : 0 < k) (h : k < ds.length) : spT (ds.take (k + 1)) = spT (ds.take k) ++ [44] ++ spW ds[k] := by
  unfold spT
  rw [List.take_succ_eq_append_getElem h, List.map_append]
  exact join_snoc _ _ _ (by simp; exact ⟨by omega, by intro e; rw [e] at h; simp at h⟩)
theorem spW_len {d : Sp} (h : sok d.x0 d.x1 = true) : (spW d).length ≤ 13 := by
  have hb := sok_of h
  have h0 := dtxt_len (x := d.x0) (by omega) (by omega)
  have h1 := dtxt_len (x := d.x1) (by omega) (by omega)
  unfold spW
  rw [List.length_append, List.length_append]
  simp; omega
theorem spT_len (ds : List Sp) (h : ∀ (k : Nat) (_ : k < ds.length), sok ds[k].x0 ds[k].x1 = true) : ∀ k, k ≤ ds.length → (spT (ds.take k)).length ≤ 14 * k
  | 0, _ => by simp [spT, Lib.join_nil]
  | k + 1, hk => by
    have hd := spW_len (h k (by omega))
    rcases Nat.eq_zero_or_pos k with rfl | hp
    · rw [spT_zero ds (by omega)]; omega
    · have := spT_len ds h k (by omega)
      rw [spT_succ ds k hp (by omega)]
      simp; omega
theorem spT_all (ds : List Sp) : spT (ds.take ds.length) = spT ds := by rw [List.take_length]
theorem join_two (h p : Int) : Lib.join ([h, p].map dtxt) [58] = dtxt h ++ [58] ++ dtxt p := by
  simp [Lib.join_cons, Lib.joinTail]

theorem isSplitOfSome_any (f t : Int) (w : World) :
    Calls Tryd.prog 17 #[.agg #[.int .i64 f, .int .i64 t]] w fun e w' => e = .returned (.bool (sok f t)) ∧ Below w.heap.size w w' := by
  have hb : ∀ o, Below w.heap.size w (w.alloc o) := fun o => (Below.refl _ _).alloc (Nat.le_refl _) _
  by_cases h0 : 0 ≤ f
  · by_cases h1 : f ≤ 99
    · by_cases h2 : 1 ≤ t
      · have HE := hide (show sok f t = decide (t ≤ 60) from by unfold sok; simp [h0, h1, h2])
        go_enter Tryd.func17, Tryd.ntmps17
        go_wp2_with fail
        go_ret
        exact ⟨by rw [HE.out]; rfl, hb _⟩
      · have HE := hide (sok_no (h := f) (p := t) (by omega))
        go_enter Tryd.func17, Tryd.ntmps17
        go_wp2_with fail
        go_ret
        exact ⟨by rw [HE.out]; rfl, hb _⟩
    · have HE := hide (sok_no (h := f) (p := t) (by omega))
      go_enter Tryd.func17, Tryd.ntmps17
      go_wp2_with fail
      go_ret
      exact ⟨by rw [HE.out]; rfl, hb _⟩
  · have HE := hide (sok_no (h := f) (p := t) (by omega))
    go_enter Tryd.func17, Tryd.ntmps17
    go_wp2_with fail
    go_ret
    exact ⟨by rw [HE.out]; rfl, hb _⟩

theorem Itoa100_any (x : Int) (h0 : 0 ≤ x) (h1 : x < 100) (w : World) :
    Calls Tryd.prog 27 #[.int .i64 x] w fun e w' => e = .returned (.string (bs (dtxt x))) ∧ w = w' := by
  have h := Tryd.strconv_Itoa_small x.toNat (by omega) w
  rw [show ((x.toNat : Nat) : Int) = x from by omega] at h
  exact h.mono fun e w' ⟨he, hw⟩ => ⟨he, hw.symm⟩
theorem to_belowS {P : Program} {f : FuncId} {args : Array Value} {w : World} {v : Value} (h : Calls P f args w fun e w' => e = .returned v ∧ w = w') : Calls P f args w fun e w' => e = .returned v ∧ Below w.heap.size w w' :=
  h.mono fun e w' ⟨he, hw⟩ => ⟨he, hw ▸ Below.refl _ _⟩
theorem ints_two (w : World) (p q : Int) (t : TypeId) : Ints (w.alloc (.cells #[.int .i64 p, .int .i64 q] t)) (w.heap.size + 1) (some ⟨w.heap.size, 0, none⟩) 2 [p, q] :=
  ⟨rfl, fun _ => ⟨_, rfl, Nat.lt_succ_self _, fun k hk => by
    have h : k = 0 ∨ k = 1 := by omega
    rcases h with rfl | rfl <;> simp [Addr.add]⟩⟩

set_option maxRecDepth 1000000 in
theorem joinColon_any (A : Option Addr) (n c B : Nat) (zs : List Int) (w : World) (hr : Ints w B A n zs) (hB : B ≤ w.heap.size) (hn : n ≤ 1000) (hz : ∀ (k : Nat) (_ : k < zs.length), 0 ≤ zs[k] ∧ zs[k] < 100) (hJ : (Lib.join (zs.map dtxt) [58]).length ≤ 1000) :
    Calls Tryd.prog 18 #[.slice A n c, .string ⟨#[58]⟩] w fun e w' => e = .returned (.string (bs (Lib.join (zs.map dtxt) [58]))) ∧ Below w.heap.size w w' := by
  obtain rfl := hr.len
  have HZ := hide hz
  have HL := hide hJ
  have hmk := run_make_row' (P := Tryd.prog) 40 9 (.string ⟨#[]⟩) 16 Tryd.underlying40 infoStr rfl .i64 .i64 zs.length (by omega) (by omega)
  clear hz hJ
  go_enter Tryd.func18, Tryd.ntmps18
  go_wp2_with fail
  go_loopw [13] (fun i wr => ∃ k : Nat, k ≤ zs.length ∧ i = .int .i64 k ∧ wr.rowIs w.heap.size 9 zs.length (fun j => if j < k then .string (bs (dtxt (zs.getD j 0))) else .string ⟨#[]⟩) ∧ Below w.heap.size w wr ∧ w.heap.size < wr.heap.size)
    (fun i _ => zs.length - (intOf i).toNat)
  case atStart => exact ⟨0, Nat.zero_le _, rfl, (World.rowIs_made w _ _ _).congr (fun i _ => by simp), (Below.refl _ _).alloc (Nat.le_refl _) _, by simp⟩
  case round =>
    obtain ⟨k, hk, rfl, hrow, hb, hs⟩ := hrel
    by_cases hlt : k < zs.length
    · obtain ⟨ad, rfl, hab, hcell⟩ := (hr.below hb hB).at_ hlt
      have hzk := HZ.out k hlt
      rw [show zs.getD k 0 = zs[k] from by simp [List.getD, List.getElem?_eq_getElem hlt]] at hcell
      have HI := hide (Itoa100_any zs[k] hzk.1 hzk.2 wr)
      have HG := hide (show zs.getD k 0 = zs[k] from by simp [List.getD, List.getElem?_eq_getElem hlt])
      generalize hsk : bs (dtxt zs[k]) = sk at *
      have HSK := hide hsk
      have Hrow := hide hrow
      clear hsk hrow
      go_wp2_with fail
      refine (to_belowS HI.out).mono ?_; rintro e w2 ⟨rfl, hb2⟩
      have hrow2 := Hrow.out.of_block (hb2.block _ hs)
      have hold := hrow2.cell hlt
      have hfz := hrow2.frozen k
      have s2 := hb2.size
      have hb0 := hb.size
      go_wp2_with fail
      go_roundw
      case rel =>
        refine ⟨k + 1, by omega, by go_num, (hrow2.set k _).congr (fun i hi => ?_), (hb.trans (hb2.mono hb0)).setCell (Nat.le_refl _) _, by simp; omega⟩
        by_cases e : i = k
        · subst e; rw [if_pos rfl, if_pos (by omega), HG.out, HSK.out]
        · rw [if_neg e]
          by_cases h2 : i < k
          · rw [if_pos h2, if_pos (by omega)]
          · rw [if_neg h2, if_neg (by omega)]
      case measure => simp [intOf]; omega
    · have hm : (zs.map fun x => bs (dtxt x)).map (·.data.toList) = zs.map dtxt := by simp [bs]
      have hj := Tryd.strings_Join w.heap.size 0 zs.length (zs.map fun x => bs (dtxt x)) ⟨#[58]⟩ wr (by
        intro j x hx
        rw [List.getElem?_map] at hx
        obtain ⟨z, hz, rfl⟩ := Option.map_eq_some_iff.1 hx
        obtain ⟨hj, rfl⟩ := List.getElem?_eq_some_iff.1 hz
        have := hrow.cell hj
        rw [if_pos (by omega)] at this
        rw [Nat.zero_add, this]
        simp [List.getD, hj]) hs (by simp; omega) (by simp) (by
        rw [hm]; have := HL.out; show (Lib.join _ [58]).length ≤ _; omega)
      rw [hm, List.length_map] at hj
      have HJ := hide hj
      clear hj hm hrow
      go_wp2_with fail
      refine HJ.out.mono ?_; rintro e w2 ⟨rfl, hb2⟩
      go_wp2_with fail
      go_ret
      exact ⟨rfl, hb.trans (hb2.mono hb.size)⟩

set_option maxRecDepth 1000000 in
set_option maxHeartbeats 4000000 in
theorem SplitsText_any (A : Option Addr) (n c B : Nat) (ds : List Sp) (w : World) (hr : Sps w B A n ds) (hB : B ≤ w.heap.size) (hn : n ≤ 1099511627776) :
    Calls Tryd.prog 8 #[.slice A n c] w fun e w' => e = .returned (.tuple #[.string (spsT ds), .bool (spsOk ds)]) ∧ Below w.heap.size w w' := by
  obtain rfl := hr.len
  by_cases hl : ds.length ≤ 60
  · have hmk := run_make_row' (P := Tryd.prog) 40 9 (.string ⟨#[]⟩) 16 Tryd.underlying40 infoStr rfl .i64 .i64 ds.length (by omega) (by omega)
    go_enter Tryd.func8, Tryd.ntmps8
    go_wp2_with fail
    go_loopw [15] (fun i wr => ∃ k : Nat, k ≤ ds.length ∧ i = .int .i64 k ∧ Hid (∀ (j : Nat) (_ : j < ds.length), j < k → sok ds[j].x0 ds[j].x1 = true) ∧ wr.rowIs w.heap.size 9 ds.length (fun j => if j < k then .string (bs (spW (ds.getD j ⟨0, 0⟩))) else .string ⟨#[]⟩) ∧ Below w.heap.size w wr ∧ w.heap.size < wr.heap.size)
      (fun i _ => ds.length - (intOf i).toNat)
    case atStart => exact ⟨0, Nat.zero_le _, rfl, hide (fun _ _ h => by omega), (World.rowIs_made w _ _ _).congr (fun i _ => by simp), (Below.refl _ _).alloc (Nat.le_refl _) _, by simp⟩
    case round =>
      obtain ⟨k, hk, rfl, HAll, hrow, hb, hs⟩ := hrel
      by_cases hlt : k < ds.length
      · obtain ⟨b, off, rfl, hab, hc0, hc1⟩ := (hr.below hb hB).at_ hlt hlt
        have HD := hide (fun W => isSplitOfSome_any ds[k].x0 ds[k].x1 W)
        have Hrow := hide hrow
        have hb0 := hb.size
        clear hrow
        cases htw : sok ds[k].x0 ds[k].x1
        · have HN := hide (show spsOk ds = false from by unfold spsOk; rw [spGoodL_not k hlt htw]; simp)
          have HN2 := hide (show spsT ds = ⟨#[]⟩ from by unfold spsT; rw [HN.out]; rfl)
          rw [htw] at HD
          clear htw
          generalize ds[k] = d at *
          go_wp2_with fail
          refine (HD.out _).mono ?_; rintro e w2 ⟨rfl, hb2⟩
          go_wp2_with fail
          go_ret2
          rw [HN.out, HN2.out]
          exact ⟨rfl, below_next (hb.alloc hb0 _) hb2⟩
        · have hbd := sok_of htw
          have HJ := hide (fun W (h : Ints W (W.heap.size) (some ⟨W.heap.size - 1, 0, none⟩) 2 [ds[k].x0, ds[k].x1]) => joinColon_any (some ⟨W.heap.size - 1, 0, none⟩) 2 2 W.heap.size [ds[k].x0, ds[k].x1] W h (Nat.le_refl _) (by omega) (fun j hj => by
            have h2 : j = 0 ∨ j = 1 := by simp at hj; omega
            rcases h2 with rfl | rfl
            · show 0 ≤ ds[k].x0 ∧ ds[k].x0 < 100; omega
            · show 0 ≤ ds[k].x1 ∧ ds[k].x1 < 100; omega) (by rw [join_two]; have := spW_len htw; unfold spW at this; omega))
          have HJW := hide (show Lib.join ([ds[k].x0, ds[k].x1].map dtxt) [58] = spW ds[k] from join_two _ _)
          rw [HJW.out] at HJ
          have HG := hide (show ds.getD k ⟨0, 0⟩ = ds[k] from by simp [List.getD, List.getElem?_eq_getElem hlt])
          have HT := hide htw
          rw [htw] at HD
          clear htw hbd HJW
          generalize hsk : bs (spW ds[k]) = sk at *
          have HSK := hide hsk
          clear hsk
          generalize hdk : ds[k] = d at *
          have HDK := hide hdk
          clear hdk
          go_wp2_with fail
          have hbo : Below w.heap.size w (wr.alloc (.cells #[.int .i64 d.x0, .int .i64 d.x1] 37)) := hb.alloc hb0 _
          have k0 : (wr.alloc (.cells #[.int .i64 d.x0, .int .i64 d.x1] 37)).cell? ⟨wr.heap.size, 0, none⟩ = some (.int .i64 d.x0) := by simp
          have k1 : (wr.alloc (.cells #[.int .i64 d.x0, .int .i64 d.x1] 37)).cell? ⟨wr.heap.size, 1, none⟩ = some (.int .i64 d.x1) := by simp
          have z0 : wr.heap.size < (wr.alloc (.cells #[.int .i64 d.x0, .int .i64 d.x1] 37)).heap.size := by simp
          have hrow0 := Hrow.out.of_block (w' := wr.alloc (.cells #[.int .i64 d.x0, .int .i64 d.x1] 37)) (Below.heap_alloc _ _ _ hs)
          generalize (wr.alloc (.cells #[.int .i64 d.x0, .int .i64 d.x1] 37)) = W0 at *
          refine (HD.out _).mono ?_; rintro e w2 ⟨rfl, hb2⟩
          have c0 := (hb2.cell (p := ⟨wr.heap.size, 0, none⟩) z0).trans k0
          have c1 := (hb2.cell (p := ⟨wr.heap.size, 1, none⟩) z0).trans k1
          have hrow2 := hrow0.of_block (hb2.block _ (by omega))
          have s2 := hb2.size
          have Hrow2 := hide hrow2
          clear hrow2 hrow0 k0 k1
          have hlti : (k : Int) < (ds.length : Int) := by omega
          have HI2 := hide (ints_two w2 d.x0 d.x1 3)
          have hb22 := hide (below_next hbo hb2)
          have hjoin := HJ.out (w2.alloc (.cells #[.int .i64 d.x0, .int .i64 d.x1] 3)) (by
            have e : (w2.alloc (.cells #[.int .i64 d.x0, .int .i64 d.x1] 3)).heap.size = w2.heap.size + 1 := by simp
            rw [e]; exact HI2.out)
          have e1 : (w2.alloc (.cells #[.int .i64 d.x0, .int .i64 d.x1] 3)).heap.size - 1 = w2.heap.size := by simp
          rw [e1] at hjoin
          have HJo := hide hjoin
          clear hjoin e1
          go_wp2_with fail
          refine HJo.out.mono ?_; rintro e w3 ⟨rfl, hb3⟩
          have hrow3 := (Hrow2.out.of_block (w' := w2.alloc (.cells #[.int .i64 d.x0, .int .i64 d.x1] 3)) (Below.heap_alloc _ _ _ (by omega))).of_block (hb3.block _ (by simp; omega))
          have hold := hrow3.cell hlt
          have hfz := hrow3.frozen k
          have Hrow3 := hide hrow3
          have hb33 := hide (hb22.out.trans (((Below.refl _ w2).alloc (Nat.le_refl _) (.cells #[.int .i64 d.x0, .int .i64 d.x1] 3)).mono hb22.out.size |>.trans (hb3.mono (by have := hb22.out.size; simp; omega))))
          have s3 := hb3.size
          have s4 : w.heap.size < w3.heap.size := by have := hb3.size; simp at this; omega
          clear hrow3 c0 c1 s3
          go_wp2_with fail
          go_roundw
          case rel =>
            refine ⟨k + 1, by omega, by go_num, hide (fun j hj hjk => ?_), (Hrow3.out.set k _).congr (fun i hi => ?_), hb33.out.setCell (Nat.le_refl _) _, by simpa using s4⟩
            · rcases Nat.lt_or_ge j k with h | h
              · exact HAll.out j hj h
              · have e : j = k := by omega
                subst e; rw [HDK.out]; exact HT.out
            · by_cases e : i = k
              · subst e; rw [if_pos rfl, if_pos (by omega), HG.out, HSK.out]
              · rw [if_neg e]
                by_cases h2 : i < k
                · rw [if_pos h2, if_pos (by omega)]
                · rw [if_neg h2, if_neg (by omega)]
          case measure => simp [intOf]; omega
      · have hgl : spGoodL ds = true := spGoodL_of (fun j hj => HAll.out j hj (by omega))
        have HN := hide (show spsOk ds = true from by unfold spsOk; rw [hgl, decide_eq_true hl]; rfl)
        have HN2 := hide (show spsT ds = bs (spT ds) from by unfold spsT; rw [HN.out]; rfl)
        have HL := spT_len ds (fun j hj => spGoodL_get hgl j hj) ds.length (Nat.le_refl _)
        rw [spT_all] at HL
        have hm : (ds.map fun d => bs (spW d)).map (·.data.toList) = ds.map spW := by simp [bs]
        have hj := Tryd.strings_Join w.heap.size 0 ds.length (ds.map fun d => bs (spW d)) ⟨#[44]⟩ wr (by
          intro j x hx
          rw [List.getElem?_map] at hx
          obtain ⟨z, hz, rfl⟩ := Option.map_eq_some_iff.1 hx
          obtain ⟨hj, rfl⟩ := List.getElem?_eq_some_iff.1 hz
          have := hrow.cell hj
          rw [if_pos (by omega)] at this
          rw [Nat.zero_add, this]
          simp [List.getD, hj]) hs (by simp; omega) (by simp) (by
          rw [hm]; show (spT ds).length ≤ _; omega)
        rw [hm, List.length_map] at hj
        have HJ := hide hj
        clear hj hm hrow HL hgl
        go_wp2_with fail
        refine HJ.out.mono ?_; rintro e w2 ⟨rfl, hb2⟩
        go_wp2_with fail
        go_ret2
        rw [HN.out, HN2.out]
        exact ⟨rfl, hb.trans (hb2.mono hb.size)⟩
  · have HN := hide (show spsOk ds = false from by unfold spsOk; rw [decide_eq_false hl]; rfl)
    have HN2 := hide (show spsT ds = ⟨#[]⟩ from by unfold spsT; rw [HN.out]; rfl)
    rw [HN.out, HN2.out]
    go_enter Tryd.func8, Tryd.ntmps8
    go_wp2_with fail
    go_ret2
    exact ⟨rfl, Below.refl _ _⟩

end Go.Proofs.YtflkgkajkoaaiaaDoor
