
/-
  TEXTS READ BACK BY THE MODEL: l1Read, l1Split, hpParse.
-/
import Derived.Test.YtnmafcbkipkppaaDoorParP
import Derived.Test.YtnmafcbkipkppaaDoorStr
import Derived.Test.YtnmafcbkipkppaaDoorGood
import Derived.Test.YtnmafcbkipkppaaDoorOwn
import Derived.Laws.DeepStrings4
import Derived.RegionTactic
import Derived.Deep.RegionWith
namespace Go.Proofs.YtnmafcbkipkppaaDoor
open Go.RowKit Go.Deep
set_option linter.unusedVariables false

theorem bs_len (l : List UInt8) : (bs l).size = l.length := by simp [bs, ByteArray.size]
theorem bs_at (l : List UInt8) (k : Nat) (h : k < (bs l).size) : (bs l)[k]'h = l[k]'(by rw [bs_len] at h; exact h) := by
  simp [bs, ByteArray.getElem_eq_getElem_data]
/-- A text's byte. -/
theorem str_at (l : List UInt8) (k : Nat) (h : k < l.length) (W : World) :
    (Instr.index 9 (.string (bs l)) (.int .i64 (k : Int))).run Tryd.prog W = .ok (.int .u8 ((l[k]'h).toNat : Int)) W := by
  rw [run_index_string W 9 (bs l) .i64 (k : Int) Tryd.underlying9, dif_pos ⟨by omega, by rw [bs_len]; omega⟩]
  have e : (bs l)[((k : Int)).toNat]'(by rw [bs_len]; omega) = l[k]'h := by
    rw [bs_at]; simp
  rw [e]
theorem str_len (l : List UInt8) (W : World) : (Builtin.len_ #[9] 3 #[.string (bs l)]).run Tryd.prog W = .ok (goInt (l.length : Nat)) W := by
  rw [run_len_string W 9 3 (bs l) Tryd.underlying9, bs_len]

theorem rd_out {l : List UInt8} (h : ¬ (1 ≤ (l.length : Int) ∧ (l.length : Int) ≤ 6)) : rd l = -1 := by
  unfold rd
  rw [if_neg (fun hh => h ⟨by omega, by omega⟩)]
theorem rd_zero {l : List UInt8} (h0 : 0 < l.length) (hb : ((l[0]'h0).toNat : Int) = 48) (h1 : 1 < l.length) : rd l = -1 := by
  unfold rd
  rw [if_neg]
  rintro ⟨_, h⟩
  refine h ⟨?_, h1⟩
  rw [List.head?_eq_getElem?, List.getElem?_eq_getElem h0]
  congr 1
  apply UInt8.toNat_inj.1
  rw [show (48 : UInt8).toNat = 48 from rfl]; omega
theorem rd_in {l : List UInt8} (h0 : 0 < l.length) (h6 : l.length ≤ 6) (hb : ¬ (((l[0]'h0).toNat : Int) = 48 ∧ 1 < l.length)) : rd l = rdF 0 l := by
  unfold rd
  rw [if_pos]
  refine ⟨⟨by omega, h6⟩, ?_⟩
  rintro ⟨h1, h2⟩
  refine hb ⟨?_, h2⟩
  rw [List.head?_eq_getElem?, List.getElem?_eq_getElem h0] at h1
  have e := congrArg UInt8.toNat (Option.some.inj h1)
  rw [show (48 : UInt8).toNat = 48 from rfl] at e
  omega
theorem rdF_step {l : List UInt8} {k m : Nat} (h : k < l.length) (hd : 48 ≤ ((l[k]'h).toNat : Int) ∧ ((l[k]'h).toNat : Int) ≤ 57) : rdF m (l.drop k) = rdF (10 * m + ((l[k]'h).toNat - 48)) (l.drop (k + 1)) := by
  rw [List.drop_eq_getElem_cons h, rdF, if_pos ⟨by omega, by omega⟩]
theorem rdF_bad {l : List UInt8} {k m : Nat} (h : k < l.length) (hd : ¬ (48 ≤ ((l[k]'h).toNat : Int) ∧ ((l[k]'h).toNat : Int) ≤ 57)) : rdF m (l.drop k) = -1 := by
  rw [List.drop_eq_getElem_cons h, rdF, if_neg (fun hh => hd ⟨by omega, by omega⟩)]
theorem rdF_end {l : List UInt8} {k m : Nat} (h : k = l.length) : rdF m (l.drop k) = m := by
  rw [h, List.drop_length, rdF]

theorem bs_extract (l : List UInt8) (a b : Nat) : (bs l).extract a b = bs ((l.drop a).take (b - a)) := ByteArray.extract_mk l a b
theorem str_slice (l : List UInt8) (f k : Nat) (hf : f ≤ k) (hk : k ≤ l.length) (W : World) :
    (Instr.slice 9 (.string (bs l)) (some (.int .i64 (f : Int))) (some (.int .i64 (k : Int))) none).run Tryd.prog W = .ok (.string (bs ((l.drop f).take (k - f)))) W := by
  rw [run_slice_string W 9 (bs l) .i64 .i64 f k Tryd.underlying9 (by omega) (by omega) (by rw [bs_len]; omega)]
  rw [show ((f : Int)).toNat = f by omega, show ((k : Int)).toNat = k by omega, bs_extract]
theorem str_from (l : List UInt8) (f : Nat) (hf : f ≤ l.length) (W : World) :
    (Instr.slice 9 (.string (bs l)) (some (.int .i64 (f : Int))) none none).run Tryd.prog W = .ok (.string (bs (l.drop f))) W := by
  rw [run_slice_string_from_if W 9 (bs l) .i64 f Tryd.underlying9, if_pos ⟨by omega, by rw [bs_len]; omega⟩]
  rw [show ((f : Int)).toNat = f by omega, bs_extract, bs_len, List.take_of_length_le (by rw [List.length_drop]; omega)]

theorem spc_next {l done : List UInt8} {f k : Nat} (hf : f ≤ k) (hk : k < l.length) (h : ¬ ((l[k]'hk).toNat : Int) = 45) : spc ((l.drop f).take (k - f)) (l.drop k) = spc ((l.drop f).take (k + 1 - f)) (l.drop (k + 1)) := by
  have hc : (l[k]'hk) ≠ 45 := fun e => h (by rw [e]; rfl)
  rw [List.drop_eq_getElem_cons hk, spc, if_neg hc]
  congr 1
  rw [show k + 1 - f = (k - f) + 1 by omega, List.take_add_one, List.getElem?_drop, show f + (k - f) = k by omega, List.getElem?_eq_getElem hk]
  rfl
theorem spc_cut {l : List UInt8} {f k : Nat} (hf : f ≤ k) (hk : k < l.length) (h : ((l[k]'hk).toNat : Int) = 45) : spc ((l.drop f).take (k - f)) (l.drop k) = (l.drop f).take (k - f) :: spc [] (l.drop (k + 1)) := by
  have hc : (l[k]'hk) = 45 := UInt8.toNat_inj.1 (by rw [show (45 : UInt8).toNat = 45 from rfl]; omega)
  rw [List.drop_eq_getElem_cons hk, spc, if_pos hc]

theorem infoStrS : (Tryd.prog.info? 9).map (fun i => (i.zero, i.size, i.bytes)) = some (some (.string ⟨#[]⟩), 1, 16) := by kernel_rfl

set_option maxRecDepth 1000000 in
/-- The model's l1Split at '-'. -/
theorem l1Split_any (l : List UInt8) (w : World) (hl : l.length < 1000000) :
    Calls Tryd.prog 17 #[.string (bs l), .int .u8 45] w fun e w' =>
      ∃ A c, e = .returned (.slice A (sp l).length c) ∧ (sp l).length ≤ c ∧ c ≤ maxLen ∧ OwnS w' w.heap.size 9 (.slice A (sp l).length c) (sp l) ∧ Below w.heap.size w w' := by
  have HL := hide (str_len l)
  have HI := hide (str_at l)
  have HS := hide (fun f k hf hk => str_slice l f k hf hk)
  have HF := hide (fun f hf => str_from l f hf)
  have hlen := HL.out
  generalize hs : bs l = s at *
  clear hs
  go_enter Tryd.func17, Tryd.ntmps17
  go_wp2_with fail
  go_loopw [5, 6, 7] (fun v f i wr => ∃ (k j : Nat) (done : List (List UInt8)), k ≤ l.length ∧ j ≤ k ∧ i = .int .i64 k ∧ f = .int .i64 j ∧ OwnS wr w.heap.size 9 v done ∧ Below w.heap.size w wr ∧ done.length ≤ k ∧ sp l = done ++ spc ((l.drop j).take (k - j)) (l.drop k))
    (fun _ _ i _ => l.length - (intOf i).toNat)
  case atStart => exact ⟨0, 0, [], by omega, by omega, rfl, rfl, OwnS.nil _ _ _, Below.refl _ _, by simp, by simp [sp]⟩
  case round =>
    obtain ⟨k, j, done, hk, hj, rfl, rfl, hown, hb, hdn, hsp⟩ := hrel
    have HSP := hide hsp
    clear hsp
    have hsz := hb.size
    have hll : done.length < 100000000 := by omega
    by_cases hlt : k < l.length
    · have hik := HI.out k hlt
      have HN := hide (fun h => spc_next (done := []) hj hlt h)
      have HC := hide (fun h => spc_cut hj hlt h)
      have hsl := HS.out j k hj hk
      have hux : (l[k]'hlt).toNat < 256 := (l[k]'hlt).toNat_lt
      generalize hpc : (l.drop j).take (k - j) = pc at *
      generalize (l[k]'hlt).toNat = x at *
      clear hpc
      by_cases h45 : (x : Int) = 45
      · have HE := hide (HC.out h45)
        rw [h45] at hik
        clear h45
        go_wp2_with (at_builtin; refine wpList_app_str rfl _ _ 39 9 rfl Tryd.underlying39 infoStrS w.heap.size _ _ rfl hown _ _ rfl hsz hll ?_; intro v' w' hown' hb')
        go_roundw
        case rel =>
          refine ⟨k + 1, k + 1, done ++ [pc], by omega, by omega, by go_num, by go_num, hown', hb.trans hb', by simp; omega, ?_⟩
          rw [HSP.out, HE.out]
          simp
        case measure => simp [intOf]; omega
      · have HE := hide (HN.out h45)
        go_wp2_with fail
        go_roundw
        case rel => exact ⟨k + 1, j, done, by omega, by omega, by go_num, rfl, hown, hb, by omega, by rw [HSP.out, HE.out]⟩
        case measure => simp [intOf]; omega
    · have hsl := HF.out j (by omega)
      have HE := hide (show sp l = done ++ [l.drop j] from by
        rw [HSP.out, List.drop_eq_nil_of_le (show l.length ≤ k by omega), spc, List.take_of_length_le (by rw [List.length_drop]; omega)])
      generalize l.drop j = pc at *
      go_wp2_with (at_builtin; refine wpList_app_str rfl _ _ 39 9 rfl Tryd.underlying39 infoStrS w.heap.size _ _ rfl hown _ _ rfl hsz hll ?_; intro v' w' hown' hb')
      go_ret
      rw [← HE.out] at hown'
      obtain ⟨A', c', rfl, h1, h2⟩ := hown'.shape
      exact ⟨A', c', rfl, h1, h2, hown', hb.trans hb'⟩

/-- WHAT A READING OF HEAPS LEAVES: the list and whether it is one. -/
def hpB (l : List UInt8) : Bool := good ((sp l).map rd)
def hpL (l : List UInt8) : List Int := if hpB l then (sp l).map rd else []
def MadeP (zs : List Int) (b : Bool) (w : World) (e : Ending) (w' : World) : Prop :=
  ∃ A c, e = .returned (.tuple #[.slice A zs.length c, .bool b]) ∧ zs.length ≤ c ∧ c ≤ maxLen ∧ Own w' w.heap.size 3 (.slice A zs.length c) zs ∧ Below w.heap.size w w'
theorem madeP_nil (w w' : World) (h : Below w.heap.size w w') : MadeP [] false w (.returned (.tuple #[.slice none 0 0, .bool false])) w' :=
  ⟨none, 0, rfl, Nat.le_refl _, Nat.zero_le _, Own.nil _ _ _, h⟩
theorem hpB_len {l : List UInt8} (h : hpB l = true) : (hpL l).length ≤ 12 := by
  unfold hpL; rw [if_pos h]; exact (good_of h).2.1
theorem hpL_len (l : List UInt8) : (hpL l).length ≤ 12 := by
  cases h : hpB l
  · unfold hpL; rw [h]; simp
  · exact hpB_len h
theorem map_take_succ (ws : List (List UInt8)) (k : Nat) (h : k < ws.length) : (ws.map rd).take (k + 1) = (ws.map rd).take k ++ [rd (ws.getD k [])] := by
  rw [List.take_add_one, List.getElem?_map, List.getElem?_eq_getElem h]
  simp [List.getD, List.getElem?_eq_getElem h]
theorem sp_piece_len (l : List UInt8) : ∀ w ∈ sp l, w.length ≤ l.length := by
  have h : ∀ (ws : List (List UInt8)) (w : List UInt8), w ∈ ws → w.length + 1 ≤ lens ws := by
    intro ws
    induction ws with
    | nil => intro w hw; cases hw
    | cons x xs ih =>
      intro w hw
      rw [lens]
      rcases List.mem_cons.1 hw with rfl | hw
      · omega
      · have := ih w hw; omega
  intro w hw
  have h1 := h _ w hw
  have h2 := spc_lens l []
  simp only [sp] at h1
  rw [h2] at h1
  simp at h1
  omega

end Go.Proofs.YtnmafcbkipkppaaDoor
