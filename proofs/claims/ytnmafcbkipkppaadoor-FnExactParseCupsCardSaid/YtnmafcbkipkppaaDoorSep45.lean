
/-
  THE PIECES OF A TEXT BETWEEN THE BYTES 45, both ways. (Printed by resep.py.)
-/
import Derived.Test.YtnmafcbkipkppaaDoorParM
import Derived.Test.YtnmafcbkipkppaaDoorParS
import Derived.Laws.Rows
namespace Go.Proofs.YtnmafcbkipkppaaDoor
open Go.RowKit Go.Deep
set_option linter.unusedVariables false

/-- The pieces of l between the bytes 45; 'cur' is what stands ahead of l in the first. -/
def spc45 (cur : List UInt8) : List UInt8 → List (List UInt8)
  | [] => [cur]
  | c :: r => if c = 45 then cur :: spc45 [] r else spc45 (cur ++ [c]) r
def sp45 (l : List UInt8) : List (List UInt8) := spc45 [] l

theorem spc_length45 : ∀ (l cur : List UInt8), (spc45 cur l).length = l.count 45 + 1
  | [], cur => by simp [spc45]
  | c :: r, cur => by
    unfold spc45
    by_cases h : c = 45
    · subst h; rw [if_pos rfl, List.length_cons, spc_length45 r, List.count_cons_self]
    · rw [if_neg h, spc_length45 r, List.count_cons_of_ne h]
theorem sp_length45 (l : List UInt8) : (sp45 l).length = l.count 45 + 1 := spc_length45 l []

theorem spc_none45 : ∀ (l cur : List UInt8), (45 : UInt8) ∉ l → spc45 cur l = [cur ++ l]
  | [], cur, _ => by simp [spc45]
  | c :: r, cur, h => by
    have hc : c ≠ 45 := fun e => h (by rw [e]; exact List.mem_cons_self)
    unfold spc45
    rw [if_neg hc, spc_none45 r _ (fun hm => h (List.mem_cons_of_mem _ hm))]
    simp
theorem spc_hit45 : ∀ (p cur r : List UInt8), (45 : UInt8) ∉ p → spc45 cur (p ++ 45 :: r) = (cur ++ p) :: spc45 [] r
  | [], cur, r, _ => by simp [spc45]
  | c :: p, cur, r, h => by
    have hc : c ≠ 45 := fun e => h (by rw [e]; exact List.mem_cons_self)
    rw [List.cons_append, spc45, if_neg hc, spc_hit45 p _ r (fun hm => h (List.mem_cons_of_mem _ hm))]
    simp

theorem index_no45 : ∀ (l : List UInt8), (45 : UInt8) ∉ l → Lib.index l [45] = -1
  | [], _ => by simp [Lib.index]
  | b :: l, h => by
    have hb : b ≠ 45 := fun e => h (by rw [e]; exact List.mem_cons_self)
    have ih := index_no45 l (fun hm => h (List.mem_cons_of_mem _ hm))
    have hp : ([45] : List UInt8).isPrefixOf (b :: l) = false := by simp [List.isPrefixOf, Ne.symm hb]
    rw [Lib.index, hp, ih]; simp
theorem index_at45 : ∀ (p r : List UInt8), (45 : UInt8) ∉ p → Lib.index (p ++ 45 :: r) [45] = p.length
  | [], r, _ => by rw [List.nil_append, Lib.index]; simp [List.isPrefixOf]
  | b :: p, r, h => by
    have hb : b ≠ 45 := fun e => h (by rw [e]; exact List.mem_cons_self)
    have ih := index_at45 p r (fun hm => h (List.mem_cons_of_mem _ hm))
    have hp : ([45] : List UInt8).isPrefixOf (b :: (p ++ 45 :: r)) = false := by simp [List.isPrefixOf, Ne.symm hb]
    rw [List.cons_append, Lib.index, hp, ih]
    have : ¬ ((p.length : Int) == -1) = true := fun e => by have := beq_iff_eq.1 e; omega
    simp [this]

/-- Cut at the first k signs: at all of them where there are no more. -/
theorem splitK_sp45 : ∀ (k : Nat) (l : List UInt8), l.count 45 ≤ k → Lib.splitK [45] 0 k l = sp45 l
  | 0, l, h => by
    have hn : (45 : UInt8) ∉ l := by
      intro hm
      have := List.count_pos_iff.2 hm
      omega
    simp only [sp45]
    rw [spc_none45 l [] hn]
    rfl
  | k + 1, l, h => by
    by_cases hm : (45 : UInt8) ∈ l
    · obtain ⟨p, r, rfl, hp⟩ := List.eq_append_cons_of_mem hm
      have hi := index_at45 p r hp
      have hc : (p ++ 45 :: r).count 45 = r.count 45 + 1 := by
        rw [List.count_append, List.count_cons_self, List.count_eq_zero.2 hp]; omega
      rw [Lib.splitK, hi]
      have hx : ¬ ((p.length : Int) == -1) = true := fun e => by have := beq_iff_eq.1 e; omega
      rw [if_neg hx]
      simp only [sp45]
      rw [spc_hit45 p [] r hp]
      have e1 : ((p.length : Int).toNat + 0) = p.length := by omega
      have e2 : ((p.length : Int).toNat + ([45] : List UInt8).length) = (p ++ [45]).length := by simp
      rw [e1, e2, List.take_left, show p ++ 45 :: r = (p ++ [45]) ++ r by simp, List.drop_left]
      have := splitK_sp45 k r (by omega)
      simp only [sp45] at this
      rw [this]
      simp
    · have hi := index_no45 l hm
      simp only [sp45]
      rw [Lib.splitK, hi, spc_none45 l [] hm]
      simp
theorem splitK_over45 : ∀ (k : Nat) (l : List UInt8), k ≤ l.count 45 → (Lib.splitK [45] 0 k l).length = k + 1
  | 0, l, _ => rfl
  | k + 1, l, h => by
    have hm : (45 : UInt8) ∈ l := List.count_pos_iff.1 (by omega)
    obtain ⟨p, r, rfl, hp⟩ := List.eq_append_cons_of_mem hm
    have hi := index_at45 p r hp
    have hc : (p ++ 45 :: r).count 45 = r.count 45 + 1 := by
      rw [List.count_append, List.count_cons_self, List.count_eq_zero.2 hp]; omega
    rw [Lib.splitK, hi]
    have hx : ¬ ((p.length : Int) == -1) = true := fun e => by have := beq_iff_eq.1 e; omega
    rw [if_neg hx, List.length_cons]
    have e2 : ((p.length : Int).toNat + ([45] : List UInt8).length) = (p ++ [45]).length := by simp
    rw [e2, show p ++ 45 :: r = (p ++ [45]) ++ r by simp, List.drop_left, splitK_over45 k r (by omega)]

theorem spc_lens45 : ∀ (l cur : List UInt8), lens (spc45 cur l) = cur.length + l.length + 1
  | [], cur => by simp [spc45, lens]
  | c :: r, cur => by
    unfold spc45
    by_cases h : c = 45
    · subst h; rw [if_pos rfl, lens, spc_lens45 r]; simp; omega
    · rw [if_neg h, spc_lens45 r]; simp; omega
theorem join_spc45 : ∀ (l cur : List UInt8), Lib.join (spc45 cur l) [45] = cur ++ l
  | [], cur => by simp [spc45, Lib.join_one]
  | c :: r, cur => by
    unfold spc45
    by_cases h : c = 45
    · subst h
      rw [if_pos rfl, Lib.join_cons]
      have ih := join_spc45 r []
      have hne : spc45 [] r ≠ [] := by
        intro e
        have := spc_length45 r []
        rw [e] at this
        simp at this
      cases hs : spc45 [] r with
      | nil => exact absurd hs hne
      | cons x xs =>
        rw [hs, Lib.join_cons] at ih
        simp only [Lib.joinTail, List.nil_append] at ih ⊢
        rw [← ih]
        simp
    · rw [if_neg h, join_spc45 r]; simp
theorem join_sp45 (l : List UInt8) : Lib.join (sp45 l) [45] = l := join_spc45 l []

theorem spc_next45 {l done : List UInt8} {f k : Nat} (hf : f ≤ k) (hk : k < l.length) (h : ¬ ((l[k]'hk).toNat : Int) = 45) : spc45 ((l.drop f).take (k - f)) (l.drop k) = spc45 ((l.drop f).take (k + 1 - f)) (l.drop (k + 1)) := by
  have hc : (l[k]'hk) ≠ 45 := fun e => h (by rw [e]; rfl)
  rw [List.drop_eq_getElem_cons hk, spc45, if_neg hc]
  congr 1
  rw [show k + 1 - f = (k - f) + 1 by omega, List.take_add_one, List.getElem?_drop, show f + (k - f) = k by omega, List.getElem?_eq_getElem hk]
  rfl
theorem spc_cut45 {l : List UInt8} {f k : Nat} (hf : f ≤ k) (hk : k < l.length) (h : ((l[k]'hk).toNat : Int) = 45) : spc45 ((l.drop f).take (k - f)) (l.drop k) = (l.drop f).take (k - f) :: spc45 [] (l.drop (k + 1)) := by
  have hc : (l[k]'hk) = 45 := UInt8.toNat_inj.1 (by rw [show (45 : UInt8).toNat = 45 from rfl]; omega)
  rw [List.drop_eq_getElem_cons hk, spc45, if_pos hc]

set_option maxRecDepth 1000000 in
/-- The model's l1Split at '-'. -/
theorem l1Split_any45 (l : List UInt8) (w : World) (hl : l.length < 100000000) :
    Calls Tryd.prog 17 #[.string (bs l), .int .u8 45] w fun e w' =>
      ∃ A c, e = .returned (.slice A (sp45 l).length c) ∧ (sp45 l).length ≤ c ∧ c ≤ maxLen ∧ OwnS w' w.heap.size 9 (.slice A (sp45 l).length c) (sp45 l) ∧ Below w.heap.size w w' := by
  have HL := hide (str_len l)
  have HI := hide (str_at l)
  have HS := hide (fun f k hf hk => str_slice l f k hf hk)
  have HF := hide (fun f hf => str_from l f hf)
  have hlen := HL.out
  generalize hs : bs l = s at *
  clear hs
  go_enter Tryd.func17, Tryd.ntmps17
  go_wp2_with fail
  go_loopw [5, 6, 7] (fun v f i wr => ∃ (k j : Nat) (done : List (List UInt8)), k ≤ l.length ∧ j ≤ k ∧ i = .int .i64 k ∧ f = .int .i64 j ∧ OwnS wr w.heap.size 9 v done ∧ Below w.heap.size w wr ∧ done.length ≤ k ∧ sp45 l = done ++ spc45 ((l.drop j).take (k - j)) (l.drop k))
    (fun _ _ i _ => l.length - (intOf i).toNat)
  case atStart => exact ⟨0, 0, [], by omega, by omega, rfl, rfl, OwnS.nil _ _ _, Below.refl _ _, by simp, by simp [sp45]⟩
  case round =>
    obtain ⟨k, j, done, hk, hj, rfl, rfl, hown, hb, hdn, hsp⟩ := hrel
    have HSP := hide hsp
    clear hsp
    have hsz := hb.size
    have hll : done.length < 100000000 := by omega
    by_cases hlt : k < l.length
    · have hik := HI.out k hlt
      have HN := hide (fun h => spc_next45 (done := []) hj hlt h)
      have HC := hide (fun h => spc_cut45 hj hlt h)
      have hsl := HS.out j k hj hk
      have hux : (l[k]'hlt).toNat < 256 := (l[k]'hlt).toNat_lt
      generalize hpc : (l.drop j).take (k - j) = pc at *
      generalize (l[k]'hlt).toNat = x at *
      clear hpc
      by_cases h45 : (x : Int) = 45
      · have HE := hide (HC.out h45)
        rw [h45] at hik
        clear h45
        go_wp2_with (at_builtin; refine wpList_app_str rfl _ _ 39 9 rfl Tryd.underlying39 infoStrS w.heap.size _ _ rfl hown _ _ rfl hsz hll ?_; intro v' w' hown' hb')
        go_roundw
        case rel =>
          refine ⟨k + 1, k + 1, done ++ [pc], by omega, by omega, by go_num, by go_num, hown', hb.trans hb', by simp; omega, ?_⟩
          rw [HSP.out, HE.out]
          simp
        case measure => simp [intOf]; omega
      · have HE := hide (HN.out h45)
        go_wp2_with fail
        go_roundw
        case rel => exact ⟨k + 1, j, done, by omega, by omega, by go_num, rfl, hown, hb, by omega, by rw [HSP.out, HE.out]⟩
        case measure => simp [intOf]; omega
    · have hsl := HF.out j (by omega)
      have HE := hide (show sp45 l = done ++ [l.drop j] from by
        rw [HSP.out, List.drop_eq_nil_of_le (show l.length ≤ k by omega), spc45, List.take_of_length_le (by rw [List.length_drop]; omega)])
      generalize l.drop j = pc at *
      go_wp2_with (at_builtin; refine wpList_app_str rfl _ _ 39 9 rfl Tryd.underlying39 infoStrS w.heap.size _ _ rfl hown _ _ rfl hsz hll ?_; intro v' w' hown' hb')
      go_ret
      rw [← HE.out] at hown'
      obtain ⟨A', c', rfl, h1, h2⟩ := hown'.shape
      exact ⟨A', c', rfl, h1, h2, hown', hb.trans hb'⟩

theorem sp_piece_len45 (l : List UInt8) : ∀ w ∈ sp45 l, w.length ≤ l.length := by
  have h : ∀ (ws : List (List UInt8)) (w : List UInt8), w ∈ ws → w.length + 1 ≤ lens ws := by
    intro ws
    induction ws with
    | nil => intro w hw; cases hw
    | cons x xs ih =>
      intro w hw
      rw [lens]
      rcases List.mem_cons.1 hw with rfl | hw
      · omega
      · have := ih w hw; omega
  intro w hw
  have h1 := h _ w hw
  have h2 := spc_lens45 l []
  simp only [sp45] at h1
  rw [h2] at h1
  simp at h1
  omega

theorem splitB_bs45 (k : Nat) (l : List UInt8) : Lib.splitB ⟨#[45]⟩ 0 k (bs l) = (Lib.splitK [45] 0 k l).map bs := by
  have h := Lib.splitB_data ⟨#[45]⟩ 0 k (bs l)
  have e : ∀ ps : List ByteArray, ps = (ps.map (·.data.toList)).map bs := by
    intro ps
    rw [List.map_map]
    have : (bs ∘ fun x : ByteArray => x.data.toList) = id := by
      funext x
      simp [bs]
    rw [this, List.map_id]
  rw [e (Lib.splitB ⟨#[45]⟩ 0 k (bs l)), h, bs_data]

/-- The pieces of a text, at most m + 1: all where there are no more than m. -/
theorem SplitN_any45 (l : List UInt8) (m : Nat) (hm : 1 ≤ m) (hm2 : m ≤ 1000) (hl : l.length < 4294967281) (w : World) (hS : w.ShapedOpen Tryd.prog) :
    Calls Tryd.prog 21 #[.string (bs l), .string ⟨#[45]⟩, .int .i64 ((m : Int) + 1)] w fun e w' =>
      ∃ (ws : List (List UInt8)) (c : Nat), e = .returned (.slice (some ⟨w.heap.size, 0, none⟩) ws.length c) ∧ Strs w' w'.heap.size (some ⟨w.heap.size, 0, none⟩) ws.length ws ∧ Below w.heap.size w w' ∧ ws.length ≤ m + 1 ∧
        ((sp45 l).length ≤ m → ws = sp45 l) ∧ (m < (sp45 l).length → ws.length = m + 1) := by
  have hk := sp_length45 l
  have hcl : l.count 45 ≤ l.length := List.count_le_length
  have hN := Lib.splitB_length_le ⟨#[45]⟩ 0 (min (m + 1) ((bs l).size + 1) - 1) (bs l)
  rw [splitB_bs45, List.length_map] at hN
  have hc := Tryd.strings_SplitN_shaped (bs l) ⟨#[45]⟩ (m + 1) w hS (by rw [bs_len]; exact hl) (Nat.le_refl _) (by omega) (by omega)
  rw [splitB_bs45] at hc
  rw [show (((m + 1 : Nat)) : Int) = (m : Int) + 1 from by omega] at hc
  refine hc.mono ?_
  rintro e w' ⟨rfl, rfl⟩
  rw [bs_len] at *
  refine ⟨Lib.splitK [45] 0 (min (m + 1) (l.length + 1) - 1) l, min (m + 1) (l.length + 1), by rw [List.length_map], ?_, (Below.refl _ _).alloc (Nat.le_refl _) _, by omega, ?_, ?_⟩
  · refine ⟨rfl, fun _ => ⟨_, rfl, by simp, fun k hk => ?_⟩⟩
    rw [add_head]
    rw [World.cell?_alloc_at]
    · exact cells_at _ _ k hk
    · rfl
  · intro h
    exact splitK_sp45 _ l (by omega)
  · intro h
    rw [splitK_over45 _ l (by omega)]
    omega

/-- What splitParts gives over numbers. -/
def spI45 (l : List UInt8) (m : Nat) : Option (List Int) := if (sp45 l).length ≤ m then pnAll (sp45 l) else none

set_option maxRecDepth 1000000 in
theorem splitPartsInt_any45 (l : List UInt8) (hl : l.length ≤ 1048576) (w : World) (hP : LaidP w) :
    Calls Tryd.prog 11 #[.string (bs l), .string ⟨#[45]⟩, .int .i64 6, .func (.func 12) #[] #[]] w (MadeP ((spI45 l 6).getD []) (spI45 l 6).isSome w) := by
  have HSN := hide (SplitN_any45 l 6 (by omega) (by omega) (by omega) w hP.2.2)
  rw [show (((6 : Nat) : Int) + 1) = 7 from rfl] at HSN
  have HP := hide hP
  have HD := hide (show spI45 l 6 = if (sp45 l).length ≤ 6 then pnAll (sp45 l) else none from rfl)
  have HPL := hide (fun (k : Nat) (hk : k < (sp45 l).length) => sp_piece_len45 l ((sp45 l).getD k []) (by rw [List.getD, List.getElem?_eq_getElem hk]; exact List.getElem_mem hk))
  clear hP
  generalize bs l = s at *
  generalize hsp : sp45 l = ps at *
  generalize spI45 l 6 = r at *
  clear hsp
  go_enter Tryd.func11, Tryd.ntmps11
  go_wp2_with fail
  refine HSN.out.mono ?_
  rintro e w1 ⟨ws, c, rfl, hstr, hb1, hlen, hy, hn⟩
  have HY := hide hy
  have HN := hide hn
  have s1 := hb1.size
  have hP1 := hide (HP.out.next hb1)
  clear hy hn
  by_cases hle : ps.length ≤ 6
  · obtain rfl : ws = ps := HY.out hle
    have HR := hide (show r = pnAll ws from by rw [HD.out, if_pos hle])
    have hmk := run_make_row' (P := Tryd.prog) 22 3 (.int .i64 0) 8 Tryd.underlying22 infoInt rfl .i64 .i64 ws.length (by omega) (by omega)
    go_wp2_with fail
    go_loopw [30] (fun i wr => ∃ (k : Nat) (ns : List Int), k ≤ ws.length ∧ ns.length = k ∧ pnAll (ws.take k) = some ns ∧ i = .int .i64 k ∧ wr.rowIs w1.heap.size 3 ws.length (fun j => .int .i64 (ns.getD j 0)) ∧ Below w1.heap.size w1 wr ∧ w1.heap.size < wr.heap.size)
      (fun i _ => ws.length - (intOf i).toNat)
    case atStart => exact ⟨0, [], Nat.zero_le _, rfl, by simp [pnAll], rfl, (World.rowIs_made w1 _ _ _).congr (fun i _ => by simp), (Below.refl _ _).alloc (Nat.le_refl _) _, by simp⟩
    case round =>
      obtain ⟨k, ns, hk, hns, hpa, rfl, hrow, hb2, hs2⟩ := hrel
      have HPA := hide hpa
      have HNS := hide hns
      have Hrow := hide hrow
      clear hpa hns hrow
      by_cases hlt : k < ws.length
      · obtain ⟨ad, hada, hab, hcell⟩ := (hstr.below hb2 (Nat.le_refl _)).at_ hlt
        injection hada with hada
        subst hada
        rw [add_head] at hcell
        have HG := hide (show ws.getD k [] = ws[k] from by simp [List.getD, List.getElem?_eq_getElem hlt])
        have HK := hide (parseNumber_any (ws.getD k []) (by have := HPL.out k hlt; omega) wr (hP1.out.next hb2))
        rw [HG.out] at hcell HK
        have HT := hide (show ws.take (k + 1) = ws.take k ++ [ws[k]] from by rw [List.take_add_one, List.getElem?_eq_getElem hlt]; rfl)
        have HB := hide (fun h => pnAll_bad (ws := ws) hlt h)
        generalize ws[k] = pc at *
        cases hpn : pn pc with
        | none =>
          have hrn : r = none := by rw [HR.out]; exact HB.out hpn
          rw [hpn] at HK
          subst hrn
          generalize bs pc = pz at *
          clear hpn
          go_wp2_with fail
          refine HK.out.mono ?_; rintro e w2 ⟨rfl, hb3⟩
          go_wp2_with fail
          go_ret2
          exact madeP_nil _ _ (below_next hb1 (below_next hb2 hb3))
        | some n =>
          rw [hpn] at HK
          have HPN := hide hpn
          generalize bs pc = pz at *
          clear hpn
          go_wp2_with fail
          refine HK.out.mono ?_; rintro e w2 ⟨rfl, hb3⟩
          have hrow2 := Hrow.out.of_block (hb3.block _ hs2)
          have hold := hrow2.cell hlt
          have hfz := hrow2.frozen k
          have s2 := hb2.size
          have s3 := hb3.size
          go_wp2_with fail
          go_roundw
          case rel =>
            refine ⟨k + 1, ns ++ [n], by omega, by have := HNS.out; simp; omega, by rw [HT.out]; exact pnAll_snoc HPA.out HPN.out, by go_num, (hrow2.set k _).congr (fun i hi => ?_), (hb2.trans (hb3.mono s2)).setCell (Nat.le_refl _) _, by simp; omega⟩
            have hk' := HNS.out
            by_cases e : i = k
            · subst e
              rw [if_pos rfl]
              simp [List.getD, ← hk']
            · rw [if_neg e]
              simp only [List.getD]
              rcases Nat.lt_or_ge i k with h | h
              · rw [List.getElem?_append_left (by omega)]
              · rw [List.getElem?_eq_none (by omega), List.getElem?_eq_none (by simp; omega)]
          case measure => simp [intOf]; omega
      · have e : k = ws.length := by omega
        have HE := hide (show r = some ns from by rw [HR.out, ← HPA.out, e, List.take_length])
        have hk' : ns.length = ws.length := by rw [HNS.out, e]
        have HO := hide (Own.of_row (base := w1.heap.size) (zs := ns) (w := wr) (t := 3) (g := w1.heap.size) (by unfold Row; rw [hk']; exact Hrow.out) (Nat.le_refl _) (by unfold maxLen; omega))
        have HK := hide hk'
        clear e hk' hstr
        have hre : r = some ns := HE.out
        clear HE
        subst hre
        go_wp2_with fail
        go_ret2
        have hO := HO.out
        refine ⟨some ⟨w1.heap.size, 0, none⟩, ns.length, ?_, Nat.le_refl _, by rw [HK.out]; unfold maxLen; omega, hO.less s1, below_next hb1 hb2⟩
        show _ = Ending.returned (.tuple #[.slice _ ns.length ns.length, .bool true])
        rw [HK.out]
        rfl
  · have hrn : r = none := by rw [HD.out, if_neg hle]
    subst hrn
    have hw13 : ws.length = 7 := HN.out (by omega)
    go_wp2_with fail
    go_ret2
    exact madeP_nil _ _ hb1
end Go.Proofs.YtnmafcbkipkppaaDoor
