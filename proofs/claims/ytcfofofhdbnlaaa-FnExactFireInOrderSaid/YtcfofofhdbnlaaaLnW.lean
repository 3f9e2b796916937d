
/-
  THE PROGRAM'S FireAt AND FireInOrder.
-/
import Derived.Test.YtcfofofhdbnlaaaLnR
import Derived.Test.YtcfofofhdbnlaaaLnU
namespace Go.Proofs.Ytcfofofhdbnlaaa
open Go.RowKit Go.Deep
set_option linter.unusedVariables false

theorem orderF_one (zs : List Int) (p : Int) : orderF zs [p] = if fatOk zs p then some (once zs.length p.toNat) else none := by
  cases hg : hgood zs
  · rw [orderF_no (by rw [hg]; simp)]
    unfold fatOk hasked
    rw [hg]; rfl
  · rw [orderF_yes hg (by simp), runF]
    have e : ableAt zs (noF zs.length) p = fatOk zs p := by
      unfold ableAt fatOk hasked
      rw [hg, Bool.true_and, rowAt_noF, getD_cons0]
      congr 1
    rw [e, runF_nil, once_more]
theorem orderF_len {zs os ts : List Int} (h : orderF zs os = some ts) : hgood zs = true ∧ ts.length = zs.length ∧ upto ts 100 := by
  unfold orderF at h
  split at h
  · rename_i hc
    have h1 := runF_len _ _ _ h
    have h2 := runF_upto os _ _ 0 (noF_length _) (upto_noF _ _ (Int.le_refl _)) h
    exact ⟨hc.1, by rw [h1, noF_length], upto_le h2 (by have := hc.2; omega)⟩
  · cases h

theorem ints_one (w : World) (t : TypeId) (p : Int) : Ints (w.alloc (.cells #[.int .i64 p] t)) (w.heap.size + 1) (some ⟨w.heap.size, 0, none⟩) 1 [p] := by
  refine ⟨rfl, fun _ => ⟨_, rfl, by simp, fun j hj => ?_⟩⟩
  obtain rfl : j = 0 := by omega
  rw [show (⟨w.heap.size, 0, none⟩ : Addr).add 0 = ⟨w.heap.size, 0, none⟩ from by simp [Addr.add]]
  simp

set_option maxRecDepth 100000 in
theorem FireInOrder_any (A A' : Option Addr) (n c n' c' B B' : Nat) (zs os : List Int) (w : World) (hr : Ints w B A n zs) (hr' : Ints w B' A' n' os) (hB : B ≤ w.heap.size) (hB' : B' ≤ w.heap.size) (hn : n ≤ 17592186044416) (hn' : n' ≤ 17592186044416) :
    Calls Try.prog 18 #[.slice A n c, .slice A' n' c'] w (MadeR (ordR zs os) (ordOk zs os) w) := by
  obtain rfl := hr.len
  obtain rfl := hr'.len
  have HF := hide (fun W (hb : Below w.heap.size w W) => firedInOrder_any A A' zs.length c os.length c' B B' zs os W (hr.below hb hB) (hr'.below hb hB') (by have := hb.size; omega) (by have := hb.size; omega) hn hn')
  have hzl := hide zero43_len
  cases e : orderF zs os with
  | none =>
    rw [(ordR_none e).1, (ordR_none e).2]
    rw [e] at HF
    unfold firedV at HF
    clear e
    go_enter Try.func18, Try.ntmps18
    go_wp2_with fail
    refine (HF.out _ (Below.refl _ _)).mono ?_; rintro e w2 ⟨rfl, hb2⟩
    have HB2 := hide hb2
    have hle := hb2.size
    clear hb2
    go_wp2_with (first
      | (with_reducible refine wpList_line_new (o := ⟨some 6, _, _, _, _, _⟩) rfl rfl ?_; intro w3 hL3 hb3 hs3
         have HL3 := hide hL3; have HB3 := hide (HB2.out.trans (hb3.mono hle)); clear hL3 hb3 hs3)
      | (with_reducible refine wpList_line_store rfl (.tmp 6) (.tmp 12) rfl w2.heap.size _ (zero43) rfl rfl hzl.out hzl.out HL3.out ?_; intro w4 hL4 ho4
         have HB4 := hide (HB3.out.trans (ho4.below.mono hle)); have HL4 := hide hL4; clear hL4 ho4))
    go_ret2
    exact madeR_none HB4.out
  | some ts =>
    obtain ⟨hg, htl, hup⟩ := orderF_len e
    obtain ⟨h1, h20, _⟩ := hgood_of hg
    rw [(ordR_some e).1, (ordR_some e).2]
    rw [e] at HF
    unfold firedV at HF
    have hll := hide (lineL_length zs ts)
    have HL := hide (chipsOf_length zs ts)
    have HC := hide (fun b W (hL : LineAt W b 42 (lineL zs ts)) => list_any b 42 zs ts W hL (by omega) h20)
    clear e htl hup hg
    go_enter Try.func18, Try.ntmps18
    go_wp2_with fail
    refine (HF.out _ (Below.refl _ _)).mono ?_; rintro e w2 ⟨rfl, hb2⟩
    have HB2 := hide hb2
    have hle := hb2.size
    clear hb2
    go_wp2_with (first
      | (with_reducible refine wpList_line_new (o := ⟨some 6, _, _, _, _, _⟩) rfl rfl ?_; intro w3 hL3 hb3 hs3
         have HL3 := hide hL3; have HB3 := hide (HB2.out.trans (hb3.mono hle)); clear hL3 hb3 hs3)
      | (with_reducible refine wpList_line_store rfl (.tmp 6) (.tmp 12) rfl w2.heap.size _ (lineL zs ts) rfl rfl hll.out hzl.out HL3.out ?_; intro w4 hL4 ho4
         have HB4 := hide (HB3.out.trans (ho4.below.mono hle)); have HL4 := hide hL4; clear hL4 ho4))
    refine (HC.out _ _ HL4.out).mono ?_
    rintro e w5 ⟨g, c5, rfl, hg1, hg2, hc1, hc2, hown, hb5⟩
    have hle4 := HB4.out.size
    have ho5 := hown.less hle4
    rw [HL.out] at hc1 ho5
    rw [HL.out]
    go_wp2_with fail
    go_ret2
    exact ⟨some ⟨g, 0, none⟩, c5, by rw [HL.out]; rfl, by rw [HL.out]; exact hc1, hc2, by rw [HL.out]; exact ho5, HB4.out.trans (hb5.mono hle4)⟩

theorem lost_rows {zs ts : List Int} (h0 : 0 < zs.length) (h : ts.length = zs.length) : rowAt zs ts 0 + rowAt zs ts (zs.length + 1) = lostOf ts := by
  unfold lostOf
  rw [rowAt_zero, rowAt_end zs ts h0 h, h]

set_option maxRecDepth 100000 in
theorem FireAt_any (A : Option Addr) (n c B : Nat) (zs : List Int) (p : Int) (w : World) (hr : Ints w B A n zs) (hB : B ≤ w.heap.size) (hn : n ≤ 17592186044416) :
    Calls Try.prog 9 #[.slice A n c, .int .i64 p] w (Made3 (fatR zs p) (fatL zs p) (fatOk zs p) w) := by
  obtain rfl := hr.len
  have HF := hide (firedInOrder_any A (some ⟨w.heap.size, 0, none⟩) zs.length c 1 1 B (w.heap.size + 1) zs [p] (w.alloc (.cells #[.int .i64 p] 3)) (hr.alloc hB _) (ints_one w 3 p) (by simp; omega) (by simp) hn (by omega))
  have hA0 : Below w.heap.size w (w.alloc (.cells #[.int .i64 p] 3)) := (Below.refl _ _).alloc (Nat.le_refl _) _
  have HA0 := hide hA0
  have hle0 := hA0.size
  clear hA0
  have hzl := hide zero43_len
  rw [orderF_one] at HF
  cases e : fatOk zs p
  · rw [show fatR zs p = [] from by simp [fatR, e], show fatL zs p = 0 from by simp [fatL, e]]
    rw [e, if_neg (by simp)] at HF
    unfold firedV at HF
    clear e
    go_enter Try.func9, Try.ntmps9
    go_wp2_with fail
    refine HF.out.mono ?_; rintro e w2 ⟨rfl, hb2⟩
    have HB2 := hide (HA0.out.trans (hb2.mono hle0))
    have hle := HB2.out.size
    clear hb2
    go_wp2_with (first
      | (with_reducible refine wpList_line_new (o := ⟨some 7, _, _, _, _, _⟩) rfl rfl ?_; intro w3 hL3 hb3 hs3
         have HL3 := hide hL3; have HB3 := hide (HB2.out.trans (hb3.mono hle)); clear hL3 hb3 hs3)
      | (with_reducible refine wpList_line_store rfl (.tmp 7) (.tmp 14) rfl w2.heap.size _ (zero43) rfl rfl hzl.out hzl.out HL3.out ?_; intro w4 hL4 ho4
         have HB4 := hide (HB3.out.trans (ho4.below.mono hle)); have HL4 := hide hL4; clear hL4 ho4))
    go_ret3
    exact made3_none HB4.out
  · have he := orderF_one zs p
    rw [e, if_pos rfl] at he
    obtain ⟨hg, htl, hup⟩ := orderF_len he
    obtain ⟨h1, h20, _⟩ := hgood_of hg
    rw [show fatR zs p = chipsOf zs (once zs.length p.toNat) from by simp [fatR, e], show fatL zs p = lostOf (once zs.length p.toNat) from by simp [fatL, e]]
    rw [e, if_pos rfl] at HF
    unfold firedV at HF
    generalize once zs.length p.toNat = ts at *
    have hll := hide (lineL_length zs ts)
    have HL := hide (chipsOf_length zs ts)
    have HC := hide (fun b W (hL : LineAt W b 42 (lineL zs ts)) => list_any b 42 zs ts W hL (by omega) h20)
    have HS := hide (fun b W (hL : LineAt W b 42 (lineL zs ts)) => lost_any b 42 zs ts W hL h20 (by have := rowAt_bd hg hup 0; omega) (by have := rowAt_bd hg hup 0; omega) (by have := rowAt_bd hg hup (zs.length + 1); omega) (by have := rowAt_bd hg hup (zs.length + 1); omega))
    rw [lost_rows (by omega) htl] at HS
    generalize lostOf ts = l at *
    clear e he htl hup hg
    go_enter Try.func9, Try.ntmps9
    go_wp2_with fail
    refine HF.out.mono ?_; rintro e w2 ⟨rfl, hb2⟩
    have HB2 := hide (HA0.out.trans (hb2.mono hle0))
    have hle := HB2.out.size
    clear hb2
    go_wp2_with (first
      | (with_reducible refine wpList_line_new (o := ⟨some 7, _, _, _, _, _⟩) rfl rfl ?_; intro w3 hL3 hb3 hs3
         have HL3 := hide hL3; have HB3 := hide (HB2.out.trans (hb3.mono hle)); clear hL3 hb3 hs3)
      | (with_reducible refine wpList_line_store rfl (.tmp 7) (.tmp 14) rfl w2.heap.size _ (lineL zs ts) rfl rfl hll.out hzl.out HL3.out ?_; intro w4 hL4 ho4
         have HB4 := hide (HB3.out.trans (ho4.below.mono hle)); have HL4 := hide hL4; clear hL4 ho4))
    refine (HC.out _ _ HL4.out).mono ?_
    rintro e w5 ⟨g, c5, rfl, hg1, hg2, hc1, hc2, hown, hb5⟩
    have hle4 := HB4.out.size
    have ho5 := hown.less hle4
    rw [HL.out] at hc1 ho5
    rw [HL.out]
    have HL5 := hide (HL4.out.of_block (hb5.block _ HL4.out.lt))
    have HB5 := hide (HB4.out.trans (hb5.mono hle4))
    have HO5 := hide ho5
    clear hown ho5 hb5
    go_wp2_with fail
    refine (HS.out _ _ HL5.out).mono ?_
    rintro e w6 ⟨rfl, hb6⟩
    have ho6 := HO5.out.below hb6
    go_wp2_with fail
    go_ret3
    exact ⟨some ⟨g, 0, none⟩, c5, by rw [HL.out]; rfl, by rw [HL.out]; exact hc1, hc2, by rw [HL.out]; exact ho6, below_next HB5.out hb6⟩
end Go.Proofs.Ytcfofofhdbnlaaa
