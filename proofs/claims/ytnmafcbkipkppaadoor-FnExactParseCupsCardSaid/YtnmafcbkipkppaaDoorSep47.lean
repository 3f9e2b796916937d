
/-
  THE PIECES OF A TEXT BETWEEN THE BYTES 47, both ways. (Printed by resep.py.)
-/
import Derived.Test.YtnmafcbkipkppaaDoorParM
import Derived.Test.YtnmafcbkipkppaaDoorParS
import Derived.Laws.Rows
namespace Go.Proofs.YtnmafcbkipkppaaDoor
open Go.RowKit Go.Deep
set_option linter.unusedVariables false

/-- The pieces of l between the bytes 47; 'cur' is what stands ahead of l in the first. -/
def spc47 (cur : List UInt8) : List UInt8 → List (List UInt8)
  | [] => [cur]
  | c :: r => if c = 47 then cur :: spc47 [] r else spc47 (cur ++ [c]) r
def sp47 (l : List UInt8) : List (List UInt8) := spc47 [] l

theorem spc_length47 : ∀ (l cur : List UInt8), (spc47 cur l).length = l.count 47 + 1
  | [], cur => by simp [spc47]
  | c :: r, cur => by
    unfold spc47
    by_cases h : c = 47
    · subst h; rw [if_pos rfl, List.length_cons, spc_length47 r, List.count_cons_self]
    · rw [if_neg h, spc_length47 r, List.count_cons_of_ne h]
theorem sp_length47 (l : List UInt8) : (sp47 l).length = l.count 47 + 1 := spc_length47 l []

theorem spc_none47 : ∀ (l cur : List UInt8), (47 : UInt8) ∉ l → spc47 cur l = [cur ++ l]
  | [], cur, _ => by simp [spc47]
  | c :: r, cur, h => by
    have hc : c ≠ 47 := fun e => h (by rw [e]; exact List.mem_cons_self)
    unfold spc47
    rw [if_neg hc, spc_none47 r _ (fun hm => h (List.mem_cons_of_mem _ hm))]
    simp
theorem spc_hit47 : ∀ (p cur r : List UInt8), (47 : UInt8) ∉ p → spc47 cur (p ++ 47 :: r) = (cur ++ p) :: spc47 [] r
  | [], cur, r, _ => by simp [spc47]
  | c :: p, cur, r, h => by
    have hc : c ≠ 47 := fun e => h (by rw [e]; exact List.mem_cons_self)
    rw [List.cons_append, spc47, if_neg hc, spc_hit47 p _ r (fun hm => h (List.mem_cons_of_mem _ hm))]
    simp

theorem index_no47 : ∀ (l : List UInt8), (47 : UInt8) ∉ l → Lib.index l [47] = -1
  | [], _ => by simp [Lib.index]
  | b :: l, h => by
    have hb : b ≠ 47 := fun e => h (by rw [e]; exact List.mem_cons_self)
    have ih := index_no47 l (fun hm => h (List.mem_cons_of_mem _ hm))
    have hp : ([47] : List UInt8).isPrefixOf (b :: l) = false := by simp [List.isPrefixOf, Ne.symm hb]
    rw [Lib.index, hp, ih]; simp
theorem index_at47 : ∀ (p r : List UInt8), (47 : UInt8) ∉ p → Lib.index (p ++ 47 :: r) [47] = p.length
  | [], r, _ => by rw [List.nil_append, Lib.index]; simp [List.isPrefixOf]
  | b :: p, r, h => by
    have hb : b ≠ 47 := fun e => h (by rw [e]; exact List.mem_cons_self)
    have ih := index_at47 p r (fun hm => h (List.mem_cons_of_mem _ hm))
    have hp : ([47] : List UInt8).isPrefixOf (b :: (p ++ 47 :: r)) = false := by simp [List.isPrefixOf, Ne.symm hb]
    rw [List.cons_append, Lib.index, hp, ih]
    have : ¬ ((p.length : Int) == -1) = true := fun e => by have := beq_iff_eq.1 e; omega
    simp [this]

/-- Cut at the first k signs: at all of them where there are no more. -/
theorem splitK_sp47 : ∀ (k : Nat) (l : List UInt8), l.count 47 ≤ k → Lib.splitK [47] 0 k l = sp47 l
  | 0, l, h => by
    have hn : (47 : UInt8) ∉ l := by
      intro hm
      have := List.count_pos_iff.2 hm
      omega
    simp only [sp47]
    rw [spc_none47 l [] hn]
    rfl
  | k + 1, l, h => by
    by_cases hm : (47 : UInt8) ∈ l
    · obtain ⟨p, r, rfl, hp⟩ := List.eq_append_cons_of_mem hm
      have hi := index_at47 p r hp
      have hc : (p ++ 47 :: r).count 47 = r.count 47 + 1 := by
        rw [List.count_append, List.count_cons_self, List.count_eq_zero.2 hp]; omega
      rw [Lib.splitK, hi]
      have hx : ¬ ((p.length : Int) == -1) = true := fun e => by have := beq_iff_eq.1 e; omega
      rw [if_neg hx]
      simp only [sp47]
      rw [spc_hit47 p [] r hp]
      have e1 : ((p.length : Int).toNat + 0) = p.length := by omega
      have e2 : ((p.length : Int).toNat + ([47] : List UInt8).length) = (p ++ [47]).length := by simp
      rw [e1, e2, List.take_left, show p ++ 47 :: r = (p ++ [47]) ++ r by simp, List.drop_left]
      have := splitK_sp47 k r (by omega)
      simp only [sp47] at this
      rw [this]
      simp
    · have hi := index_no47 l hm
      simp only [sp47]
      rw [Lib.splitK, hi, spc_none47 l [] hm]
      simp
theorem splitK_over47 : ∀ (k : Nat) (l : List UInt8), k ≤ l.count 47 → (Lib.splitK [47] 0 k l).length = k + 1
  | 0, l, _ => rfl
  | k + 1, l, h => by
    have hm : (47 : UInt8) ∈ l := List.count_pos_iff.1 (by omega)
    obtain ⟨p, r, rfl, hp⟩ := List.eq_append_cons_of_mem hm
    have hi := index_at47 p r hp
    have hc : (p ++ 47 :: r).count 47 = r.count 47 + 1 := by
      rw [List.count_append, List.count_cons_self, List.count_eq_zero.2 hp]; omega
    rw [Lib.splitK, hi]
    have hx : ¬ ((p.length : Int) == -1) = true := fun e => by have := beq_iff_eq.1 e; omega
    rw [if_neg hx, List.length_cons]
    have e2 : ((p.length : Int).toNat + ([47] : List UInt8).length) = (p ++ [47]).length := by simp
    rw [e2, show p ++ 47 :: r = (p ++ [47]) ++ r by simp, List.drop_left, splitK_over47 k r (by omega)]

theorem spc_lens47 : ∀ (l cur : List UInt8), lens (spc47 cur l) = cur.length + l.length + 1
  | [], cur => by simp [spc47, lens]
  | c :: r, cur => by
    unfold spc47
    by_cases h : c = 47
    · subst h; rw [if_pos rfl, lens, spc_lens47 r]; simp; omega
    · rw [if_neg h, spc_lens47 r]; simp; omega
theorem join_spc47 : ∀ (l cur : List UInt8), Lib.join (spc47 cur l) [47] = cur ++ l
  | [], cur => by simp [spc47, Lib.join_one]
  | c :: r, cur => by
    unfold spc47
    by_cases h : c = 47
    · subst h
      rw [if_pos rfl, Lib.join_cons]
      have ih := join_spc47 r []
      have hne : spc47 [] r ≠ [] := by
        intro e
        have := spc_length47 r []
        rw [e] at this
        simp at this
      cases hs : spc47 [] r with
      | nil => exact absurd hs hne
      | cons x xs =>
        rw [hs, Lib.join_cons] at ih
        simp only [Lib.joinTail, List.nil_append] at ih ⊢
        rw [← ih]
        simp
    · rw [if_neg h, join_spc47 r]; simp
theorem join_sp47 (l : List UInt8) : Lib.join (sp47 l) [47] = l := join_spc47 l []

theorem spc_next47 {l done : List UInt8} {f k : Nat} (hf : f ≤ k) (hk : k < l.length) (h : ¬ ((l[k]'hk).toNat : Int) = 47) : spc47 ((l.drop f).take (k - f)) (l.drop k) = spc47 ((l.drop f).take (k + 1 - f)) (l.drop (k + 1)) := by
  have hc : (l[k]'hk) ≠ 47 := fun e => h (by rw [e]; rfl)
  rw [List.drop_eq_getElem_cons hk, spc47, if_neg hc]
  congr 1
  rw [show k + 1 - f = (k - f) + 1 by omega, List.take_add_one, List.getElem?_drop, show f + (k - f) = k by omega, List.getElem?_eq_getElem hk]
  rfl
theorem spc_cut47 {l : List UInt8} {f k : Nat} (hf : f ≤ k) (hk : k < l.length) (h : ((l[k]'hk).toNat : Int) = 47) : spc47 ((l.drop f).take (k - f)) (l.drop k) = (l.drop f).take (k - f) :: spc47 [] (l.drop (k + 1)) := by
  have hc : (l[k]'hk) = 47 := UInt8.toNat_inj.1 (by rw [show (47 : UInt8).toNat = 47 from rfl]; omega)
  rw [List.drop_eq_getElem_cons hk, spc47, if_pos hc]

set_option maxRecDepth 1000000 in
/-- The model's l1Split at '-'. -/
theorem l1Split_any47 (l : List UInt8) (w : World) (hl : l.length < 100000000) :
    Calls Tryd.prog 17 #[.string (bs l), .int .u8 47] w fun e w' =>
      ∃ A c, e = .returned (.slice A (sp47 l).length c) ∧ (sp47 l).length ≤ c ∧ c ≤ maxLen ∧ OwnS w' w.heap.size 9 (.slice A (sp47 l).length c) (sp47 l) ∧ Below w.heap.size w w' := by
  have HL := hide (str_len l)
  have HI := hide (str_at l)
  have HS := hide (fun f k hf hk => str_slice l f k hf hk)
  have HF := hide (fun f hf => str_from l f hf)
  have hlen := HL.out
  generalize hs : bs l = s at *
  clear hs
  go_enter Tryd.func17, Tryd.ntmps17
  go_wp2_with fail
  go_loopw [5, 6, 7] (fun v f i wr => ∃ (k j : Nat) (done : List (List UInt8)), k ≤ l.length ∧ j ≤ k ∧ i = .int .i64 k ∧ f = .int .i64 j ∧ OwnS wr w.heap.size 9 v done ∧ Below w.heap.size w wr ∧ done.length ≤ k ∧ sp47 l = done ++ spc47 ((l.drop j).take (k - j)) (l.drop k))
    (fun _ _ i _ => l.length - (intOf i).toNat)
  case atStart => exact ⟨0, 0, [], by omega, by omega, rfl, rfl, OwnS.nil _ _ _, Below.refl _ _, by simp, by simp [sp47]⟩
  case round =>
    obtain ⟨k, j, done, hk, hj, rfl, rfl, hown, hb, hdn, hsp⟩ := hrel
    have HSP := hide hsp
    clear hsp
    have hsz := hb.size
    have hll : done.length < 100000000 := by omega
    by_cases hlt : k < l.length
    · have hik := HI.out k hlt
      have HN := hide (fun h => spc_next47 (done := []) hj hlt h)
      have HC := hide (fun h => spc_cut47 hj hlt h)
      have hsl := HS.out j k hj hk
      have hux : (l[k]'hlt).toNat < 256 := (l[k]'hlt).toNat_lt
      generalize hpc : (l.drop j).take (k - j) = pc at *
      generalize (l[k]'hlt).toNat = x at *
      clear hpc
      by_cases h45 : (x : Int) = 47
      · have HE := hide (HC.out h45)
        rw [h45] at hik
        clear h45
        go_wp2_with (at_builtin; refine wpList_app_str rfl _ _ 39 9 rfl Tryd.underlying39 infoStrS w.heap.size _ _ rfl hown _ _ rfl hsz hll ?_; intro v' w' hown' hb')
        go_roundw
        case rel =>
          refine ⟨k + 1, k + 1, done ++ [pc], by omega, by omega, by go_num, by go_num, hown', hb.trans hb', by simp; omega, ?_⟩
          rw [HSP.out, HE.out]
          simp
        case measure => simp [intOf]; omega
      · have HE := hide (HN.out h45)
        go_wp2_with fail
        go_roundw
        case rel => exact ⟨k + 1, j, done, by omega, by omega, by go_num, rfl, hown, hb, by omega, by rw [HSP.out, HE.out]⟩
        case measure => simp [intOf]; omega
    · have hsl := HF.out j (by omega)
      have HE := hide (show sp47 l = done ++ [l.drop j] from by
        rw [HSP.out, List.drop_eq_nil_of_le (show l.length ≤ k by omega), spc47, List.take_of_length_le (by rw [List.length_drop]; omega)])
      generalize l.drop j = pc at *
      go_wp2_with (at_builtin; refine wpList_app_str rfl _ _ 39 9 rfl Tryd.underlying39 infoStrS w.heap.size _ _ rfl hown _ _ rfl hsz hll ?_; intro v' w' hown' hb')
      go_ret
      rw [← HE.out] at hown'
      obtain ⟨A', c', rfl, h1, h2⟩ := hown'.shape
      exact ⟨A', c', rfl, h1, h2, hown', hb.trans hb'⟩

theorem sp_piece_len47 (l : List UInt8) : ∀ w ∈ sp47 l, w.length ≤ l.length := by
  have h : ∀ (ws : List (List UInt8)) (w : List UInt8), w ∈ ws → w.length + 1 ≤ lens ws := by
    intro ws
    induction ws with
    | nil => intro w hw; cases hw
    | cons x xs ih =>
      intro w hw
      rw [lens]
      rcases List.mem_cons.1 hw with rfl | hw
      · omega
      · have := ih w hw; omega
  intro w hw
  have h1 := h _ w hw
  have h2 := spc_lens47 l []
  simp only [sp47] at h1
  rw [h2] at h1
  simp at h1
  omega

theorem splitB_bs47 (k : Nat) (l : List UInt8) : Lib.splitB ⟨#[47]⟩ 0 k (bs l) = (Lib.splitK [47] 0 k l).map bs := by
  have h := Lib.splitB_data ⟨#[47]⟩ 0 k (bs l)
  have e : ∀ ps : List ByteArray, ps = (ps.map (·.data.toList)).map bs := by
    intro ps
    rw [List.map_map]
    have : (bs ∘ fun x : ByteArray => x.data.toList) = id := by
      funext x
      simp [bs]
    rw [this, List.map_id]
  rw [e (Lib.splitB ⟨#[47]⟩ 0 k (bs l)), h, bs_data]

/-- The pieces of a text, at most m + 1: all where there are no more than m. -/
theorem SplitN_any47 (l : List UInt8) (m : Nat) (hm : 1 ≤ m) (hm2 : m ≤ 1000) (hl : l.length < 4294967281) (w : World) (hS : w.ShapedOpen Tryd.prog) :
    Calls Tryd.prog 21 #[.string (bs l), .string ⟨#[47]⟩, .int .i64 ((m : Int) + 1)] w fun e w' =>
      ∃ (ws : List (List UInt8)) (c : Nat), e = .returned (.slice (some ⟨w.heap.size, 0, none⟩) ws.length c) ∧ Strs w' w'.heap.size (some ⟨w.heap.size, 0, none⟩) ws.length ws ∧ Below w.heap.size w w' ∧ ws.length ≤ m + 1 ∧
        ((sp47 l).length ≤ m → ws = sp47 l) ∧ (m < (sp47 l).length → ws.length = m + 1) := by
  have hk := sp_length47 l
  have hcl : l.count 47 ≤ l.length := List.count_le_length
  have hN := Lib.splitB_length_le ⟨#[47]⟩ 0 (min (m + 1) ((bs l).size + 1) - 1) (bs l)
  rw [splitB_bs47, List.length_map] at hN
  have hc := Tryd.strings_SplitN_shaped (bs l) ⟨#[47]⟩ (m + 1) w hS (by rw [bs_len]; exact hl) (Nat.le_refl _) (by omega) (by omega)
  rw [splitB_bs47] at hc
  rw [show (((m + 1 : Nat)) : Int) = (m : Int) + 1 from by omega] at hc
  refine hc.mono ?_
  rintro e w' ⟨rfl, rfl⟩
  rw [bs_len] at *
  refine ⟨Lib.splitK [47] 0 (min (m + 1) (l.length + 1) - 1) l, min (m + 1) (l.length + 1), by rw [List.length_map], ?_, (Below.refl _ _).alloc (Nat.le_refl _) _, by omega, ?_, ?_⟩
  · refine ⟨rfl, fun _ => ⟨_, rfl, by simp, fun k hk => ?_⟩⟩
    rw [add_head]
    rw [World.cell?_alloc_at]
    · exact cells_at _ _ k hk
    · rfl
  · intro h
    exact splitK_sp47 _ l (by omega)
  · intro h
    rw [splitK_over47 _ l (by omega)]
    omega

end Go.Proofs.YtnmafcbkipkppaaDoor
