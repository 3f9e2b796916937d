
/-
  TEXTS READ BACK, plainly: pieces between the signs, numbers read. No program is named here.
-/
import Derived.Test.YtnmafcbkipkppaaDoorTextP
import Derived.Test.YtnmafcbkipkppaaDoorPlain
import Derived.Lib.Split
import Derived.Lib.SplitLaws
import Derived.Lib.AtoiAllCases
import Derived.Lib.ItoaNum
namespace Go.Proofs.YtnmafcbkipkppaaDoor
open Go.RowKit
set_option linter.unusedVariables false

/-- The pieces of l between the bytes 45; 'cur' is what stands ahead of l in the first. -/
def spc (cur : List UInt8) : List UInt8 → List (List UInt8)
  | [] => [cur]
  | c :: r => if c = 45 then cur :: spc [] r else spc (cur ++ [c]) r
def sp (l : List UInt8) : List (List UInt8) := spc [] l

theorem spc_length : ∀ (l cur : List UInt8), (spc cur l).length = l.count 45 + 1
  | [], cur => by simp [spc]
  | c :: r, cur => by
    unfold spc
    by_cases h : c = 45
    · subst h; rw [if_pos rfl, List.length_cons, spc_length r, List.count_cons_self]
    · rw [if_neg h, spc_length r, List.count_cons_of_ne h]
theorem sp_length (l : List UInt8) : (sp l).length = l.count 45 + 1 := spc_length l []

theorem spc_none : ∀ (l cur : List UInt8), (45 : UInt8) ∉ l → spc cur l = [cur ++ l]
  | [], cur, _ => by simp [spc]
  | c :: r, cur, h => by
    have hc : c ≠ 45 := fun e => h (by rw [e]; exact List.mem_cons_self)
    unfold spc
    rw [if_neg hc, spc_none r _ (fun hm => h (List.mem_cons_of_mem _ hm))]
    simp
theorem spc_hit : ∀ (p cur r : List UInt8), (45 : UInt8) ∉ p → spc cur (p ++ 45 :: r) = (cur ++ p) :: spc [] r
  | [], cur, r, _ => by simp [spc]
  | c :: p, cur, r, h => by
    have hc : c ≠ 45 := fun e => h (by rw [e]; exact List.mem_cons_self)
    rw [List.cons_append, spc, if_neg hc, spc_hit p _ r (fun hm => h (List.mem_cons_of_mem _ hm))]
    simp

theorem index_no : ∀ (l : List UInt8), (45 : UInt8) ∉ l → Lib.index l [45] = -1
  | [], _ => by simp [Lib.index]
  | b :: l, h => by
    have hb : b ≠ 45 := fun e => h (by rw [e]; exact List.mem_cons_self)
    have ih := index_no l (fun hm => h (List.mem_cons_of_mem _ hm))
    have hp : ([45] : List UInt8).isPrefixOf (b :: l) = false := by simp [List.isPrefixOf, Ne.symm hb]
    rw [Lib.index, hp, ih]; simp
theorem index_at : ∀ (p r : List UInt8), (45 : UInt8) ∉ p → Lib.index (p ++ 45 :: r) [45] = p.length
  | [], r, _ => by rw [List.nil_append, Lib.index]; simp [List.isPrefixOf]
  | b :: p, r, h => by
    have hb : b ≠ 45 := fun e => h (by rw [e]; exact List.mem_cons_self)
    have ih := index_at p r (fun hm => h (List.mem_cons_of_mem _ hm))
    have hp : ([45] : List UInt8).isPrefixOf (b :: (p ++ 45 :: r)) = false := by simp [List.isPrefixOf, Ne.symm hb]
    rw [List.cons_append, Lib.index, hp, ih]
    have : ¬ ((p.length : Int) == -1) = true := fun e => by have := beq_iff_eq.1 e; omega
    simp [this]

/-- Cut at the first k signs: at all of them where there are no more. -/
theorem splitK_sp : ∀ (k : Nat) (l : List UInt8), l.count 45 ≤ k → Lib.splitK [45] 0 k l = sp l
  | 0, l, h => by
    have hn : (45 : UInt8) ∉ l := by
      intro hm
      have := List.count_pos_iff.2 hm
      omega
    simp only [sp]
    rw [spc_none l [] hn]
    rfl
  | k + 1, l, h => by
    by_cases hm : (45 : UInt8) ∈ l
    · obtain ⟨p, r, rfl, hp⟩ := List.eq_append_cons_of_mem hm
      have hi := index_at p r hp
      have hc : (p ++ 45 :: r).count 45 = r.count 45 + 1 := by
        rw [List.count_append, List.count_cons_self, List.count_eq_zero.2 hp]; omega
      rw [Lib.splitK, hi]
      have hx : ¬ ((p.length : Int) == -1) = true := fun e => by have := beq_iff_eq.1 e; omega
      rw [if_neg hx]
      simp only [sp]
      rw [spc_hit p [] r hp]
      have e1 : ((p.length : Int).toNat + 0) = p.length := by omega
      have e2 : ((p.length : Int).toNat + ([45] : List UInt8).length) = (p ++ [45]).length := by simp
      rw [e1, e2, List.take_left, show p ++ 45 :: r = (p ++ [45]) ++ r by simp, List.drop_left]
      have := splitK_sp k r (by omega)
      simp only [sp] at this
      rw [this]
      simp
    · have hi := index_no l hm
      simp only [sp]
      rw [Lib.splitK, hi, spc_none l [] hm]
      simp
theorem splitK_over : ∀ (k : Nat) (l : List UInt8), k ≤ l.count 45 → (Lib.splitK [45] 0 k l).length = k + 1
  | 0, l, _ => rfl
  | k + 1, l, h => by
    have hm : (45 : UInt8) ∈ l := List.count_pos_iff.1 (by omega)
    obtain ⟨p, r, rfl, hp⟩ := List.eq_append_cons_of_mem hm
    have hi := index_at p r hp
    have hc : (p ++ 45 :: r).count 45 = r.count 45 + 1 := by
      rw [List.count_append, List.count_cons_self, List.count_eq_zero.2 hp]; omega
    rw [Lib.splitK, hi]
    have hx : ¬ ((p.length : Int) == -1) = true := fun e => by have := beq_iff_eq.1 e; omega
    rw [if_neg hx, List.length_cons]
    have e2 : ((p.length : Int).toNat + ([45] : List UInt8).length) = (p ++ [45]).length := by simp
    rw [e2, show p ++ 45 :: r = (p ++ [45]) ++ r by simp, List.drop_left, splitK_over k r (by omega)]

/-- The bytes of the whole, of the pieces. -/
def lens : List (List UInt8) → Nat
  | [] => 0
  | w :: ws => w.length + 1 + lens ws
theorem spc_lens : ∀ (l cur : List UInt8), lens (spc cur l) = cur.length + l.length + 1
  | [], cur => by simp [spc, lens]
  | c :: r, cur => by
    unfold spc
    by_cases h : c = 45
    · subst h; rw [if_pos rfl, lens, spc_lens r]; simp; omega
    · rw [if_neg h, spc_lens r]; simp; omega
theorem lens_le (d : Nat) : ∀ (ws : List (List UInt8)), (∀ w ∈ ws, w.length ≤ d) → lens ws ≤ ws.length * (d + 1)
  | [], _ => by simp [lens]
  | w :: ws, h => by
    have h1 := h w List.mem_cons_self
    have h2 := lens_le d ws (fun x hx => h x (List.mem_cons_of_mem _ hx))
    rw [lens, List.length_cons, Nat.succ_mul]
    omega

/-! ### Numbers -/

/-- The model's reading: -1 for what is no number of one to six digits without a zero too many. -/
def rdF : Nat → List UInt8 → Int
  | n, [] => n
  | n, c :: r => if 48 ≤ c.toNat ∧ c.toNat ≤ 57 then rdF (10 * n + (c.toNat - 48)) r else -1
def rd (w : List UInt8) : Int := if (1 ≤ w.length ∧ w.length ≤ 6) ∧ ¬ (w.head? = some 48 ∧ 1 < w.length) then rdF 0 w else -1
/-- The program's reading: what Atoi gives, where it is written so again. -/
def pn (w : List UInt8) : Option Int :=
  match Lib.atoiAll w with
  | .ok n => if n < 0 then none else if Lib.itoa n = w then some n else none
  | _ => none

theorem rdF_ge : ∀ (l : List UInt8) (n : Nat), rdF n l = -1 ∨ (n : Int) ≤ rdF n l
  | [], n => .inr (by simp [rdF])
  | c :: r, n => by
    unfold rdF
    split
    · rcases rdF_ge r (10 * n + (c.toNat - 48)) with h | h
      · exact .inl h
      · exact .inr (by omega)
    · exact .inl rfl

theorem byte_of (c : UInt8) (h : 48 ≤ c.toNat) : UInt8.ofNat (48 + (c.toNat - 48)) = c := by
  rw [show 48 + (c.toNat - 48) = c.toNat by omega, UInt8.ofNat_toNat]

/-- What was read is written so again. -/
theorem rdF_digits : ∀ (l : List UInt8) (n v : Nat), 0 < n → rdF n l = v → Lib.decDigits v = Lib.decDigits n ++ l
  | [], n, v, _, h => by
    simp only [rdF] at h
    have : n = v := by omega
    subst this; simp
  | c :: r, n, v, hn, h => by
    unfold rdF at h
    split at h
    · rename_i hc
      have ih := rdF_digits r (10 * n + (c.toNat - 48)) v (by omega) h
      rw [ih, decDigits_ge (n := 10 * n + (c.toNat - 48)) (by omega), show (10 * n + (c.toNat - 48)) / 10 = n by omega, show (10 * n + (c.toNat - 48)) % 10 = c.toNat - 48 by omega, byte_of c hc.1]
      simp
    · omega
theorem rdF_parse : ∀ (l : List UInt8) (n v : Nat), v < 1000000000000000000 → rdF n l = v → Lib.parseUint10 n l = .ok v
  | [], n, v, _, h => by
    simp only [rdF] at h
    have : n = v := by omega
    subst this; rfl
  | c :: r, n, v, hv, h => by
    unfold rdF at h
    split at h
    · rename_i hc
      have ih := rdF_parse r (10 * n + (c.toNat - 48)) v hv h
      have hge := rdF_ge r (10 * n + (c.toNat - 48))
      rw [h] at hge
      simp only [Lib.parseUint10, if_pos hc]
      rw [if_neg (by omega), if_neg (by omega), show n * 10 = 10 * n by omega]
      exact ih
    · omega
theorem parse_rdF : ∀ (l : List UInt8) (n v : Nat), Lib.parseUint10 n l = .ok v → rdF n l = v
  | [], n, v, h => by
    simp only [Lib.parseUint10] at h
    injection h with h
    simp [rdF, h]
  | c :: r, n, v, h => by
    simp only [Lib.parseUint10] at h
    split at h
    · rename_i hc
      split at h
      · cases h
      · split at h
        · cases h
        · unfold rdF
          rw [if_pos hc, show 10 * n = n * 10 by omega]
          exact parse_rdF r _ v h
    · cases h

theorem rd_text {w : List UInt8} {v : Nat} (h : rd w = v) : w = Lib.decDigits v := by
  unfold rd at h
  split at h
  · rename_i hw
    match w, hw, h with
    | [], hw, _ => simp at hw
    | c :: r, hw, h =>
      unfold rdF at h
      split at h
      · rename_i hc
        match r, hw, h with
        | [], _, h =>
          simp only [rdF] at h
          have e : v = c.toNat - 48 := by omega
          rw [e, Lib.decDigits_one (by omega), byte_of c hc.1]
        | d :: r, hw, h =>
          have hne : c ≠ 48 := fun e => hw.2 ⟨by simp [e], by simp⟩
          have hpos : 0 < c.toNat - 48 := by
            rcases Nat.eq_zero_or_pos (c.toNat - 48) with h0 | h0
            · exact absurd (UInt8.toNat_inj.1 (show c.toNat = (48 : UInt8).toNat by rw [show (48 : UInt8).toNat = 48 from rfl]; omega)) hne
            · exact h0
          have h1 := rdF_digits (d :: r) (10 * 0 + (c.toNat - 48)) v (by omega) h
          rw [h1, show 10 * 0 + (c.toNat - 48) = c.toNat - 48 by omega, Lib.decDigits_one (by omega), byte_of c hc.1]
          rfl
      · omega
  · omega

theorem decDigits_head : ∀ (d n : Nat), n < 10 ^ (d + 1) → 0 < n → (Lib.decDigits n).head? ≠ some 48
  | d, n, h, h0 => by
    by_cases h10 : n < 10
    · rw [Lib.decDigits_one h10]
      intro e
      rw [List.head?_cons] at e
      have e2 := congrArg UInt8.toNat (Option.some.inj e)
      rw [show (48 : UInt8).toNat = 48 from rfl, UInt8.toNat_ofNat_of_lt' (by simp [UInt8.size]; omega)] at e2
      omega
    · match d, h with
      | 0, h => simp at h; omega
      | d + 1, h =>
        have ih := decDigits_head d (n / 10) (by rw [Nat.pow_succ] at h; omega) (by omega)
        rw [decDigits_ge h10, List.head?_append]
        cases hx : (Lib.decDigits (n / 10)).head? with
        | none =>
          have : (Lib.decDigits (n / 10)).length = 0 := by rw [List.head?_eq_none_iff.1 hx]; rfl
          rw [Lib.decDigits_length] at this
          have := Lib.nDigits_pos (n / 10)
          omega
        | some x => rw [hx] at ih; simpa using ih
theorem decDigits_byte : ∀ (d n : Nat), n < 10 ^ (d + 1) → ∀ c ∈ Lib.decDigits n, 48 ≤ c.toNat ∧ c.toNat ≤ 57
  | d, n, h => by
    by_cases h10 : n < 10
    · rw [Lib.decDigits_one h10]
      intro c hc
      simp at hc
      subst hc
      simp
      omega
    · match d, h with
      | 0, h => simp at h; omega
      | d + 1, h =>
        have ih := decDigits_byte d (n / 10) (by rw [Nat.pow_succ] at h; omega)
        rw [decDigits_ge h10]
        intro c hc
        rcases List.mem_append.1 hc with hc | hc
        · exact ih c hc
        · simp at hc
          subst hc
          simp
          omega
theorem decDigits_ne (n : Nat) : Lib.decDigits n ≠ [] := by
  intro e
  have := Lib.decDigits_length n
  rw [e] at this
  have := Lib.nDigits_pos n
  simp at *
  omega

/-- Both readings agree on numbers that are not too great. -/
theorem pn_of_rd {w : List UInt8} {v : Nat} (hv : v < 1000000) (h : rd w = v) : pn w = some (v : Int) := by
  have ht := rd_text h
  have hb := decDigits_byte 5 v (by omega)
  have hr : rdF 0 w = v := by
    unfold rd at h
    split at h
    · exact h
    · omega
  have hp := rdF_parse w 0 v (by omega) hr
  rw [← ht] at hb
  have hne : w ≠ [] := by rw [ht]; exact decDigits_ne v
  have ha : Lib.atoiAll w = .ok (v : Int) := by
    match w, hne, hb, hp with
    | c :: r, _, hb, hp =>
      have hc := hb c List.mem_cons_self
      rw [Lib.atoiAll_plain c r (by omega) (by omega)]
      unfold Lib.parseMag
      rw [if_neg (by simp), hp]
      simp only [Lib.signless]
      rw [if_neg (by omega)]
  unfold pn
  rw [ha]
  simp only []
  rw [if_neg (by omega), if_pos]
  unfold Lib.itoa
  rw [if_neg (by omega), show ((v : Int)).toNat = v by omega, ← ht]
theorem rd_of_pn {w : List UInt8} {n : Int} (hn : n < 1000000) (h : pn w = some n) : 0 ≤ n ∧ rd w = n := by
  unfold pn at h
  split at h
  · rename_i m ha
    split at h
    · cases h
    · split at h
      · rename_i h0 hi
        injection h with h
        subst h
        obtain ⟨v, rfl⟩ : ∃ v : Nat, m = v := ⟨m.toNat, by omega⟩
        refine ⟨by omega, ?_⟩
        unfold Lib.itoa at hi
        rw [if_neg (by omega), show ((v : Int)).toNat = v by omega] at hi
        have hb := decDigits_byte 5 v (by omega)
        have hl := decDigits_len 5 v (by omega)
        have hne := decDigits_ne v
        have hpos : 1 ≤ w.length := by
          rw [← hi, Lib.decDigits_length]; exact Lib.nDigits_pos v
        have hz : ¬ (w.head? = some 48 ∧ 1 < w.length) := by
          rintro ⟨h1, h2⟩
          rcases Nat.eq_zero_or_pos v with e | e
          · subst e
            rw [← hi, Lib.decDigits_one (by omega)] at h2
            simp at h2
          · rw [← hi] at h1
            exact decDigits_head 5 v (by omega) e h1
        rw [hi] at hb hl hne
        unfold rd
        rw [if_pos ⟨⟨hpos, by omega⟩, hz⟩]
        match w, hne, hb, ha with
        | c :: r, _, hb, ha =>
          have hc := hb c List.mem_cons_self
          rw [Lib.atoiAll_plain c r (by omega) (by omega)] at ha
          unfold Lib.parseMag at ha
          rw [if_neg (by simp)] at ha
          cases hp : Lib.parseUint10 0 (c :: r) with
          | ok u =>
            rw [hp] at ha
            simp only [Lib.signless] at ha
            split at ha
            · cases ha
            · injection ha with ha
              have := parse_rdF _ _ _ hp
              rw [this]; omega
          | «syntax» => rw [hp] at ha; cases ha
          | range => rw [hp] at ha; cases ha
      · cases h
  · cases h

/-! ### Heaps -/

/-- All pieces read by the program, or none. -/
def pnAll : List (List UInt8) → Option (List Int)
  | [] => some []
  | w :: ws => match pn w with
    | none => none
    | some n => match pnAll ws with
      | none => none
      | some ns => some (n :: ns)
theorem pnAll_length : ∀ {ws : List (List UInt8)} {ns : List Int}, pnAll ws = some ns → ns.length = ws.length
  | [], ns, h => by simp [pnAll] at h; subst h; rfl
  | w :: ws, ns, h => by
    unfold pnAll at h
    split at h
    · cases h
    · split at h
      · cases h
      · rename_i n _ ms hm
        injection h with h
        subst h
        simp [pnAll_length hm]
theorem pnAll_of_rd : ∀ {ws : List (List UInt8)}, (∀ w ∈ ws, 0 ≤ rd w ∧ rd w < 1000000) → pnAll ws = some (ws.map rd)
  | [], _ => rfl
  | w :: ws, h => by
    have h1 := h w List.mem_cons_self
    have h2 := pnAll_of_rd (fun x hx => h x (List.mem_cons_of_mem _ hx))
    have h3 := pn_of_rd (w := w) (v := (rd w).toNat) (by omega) (by omega)
    unfold pnAll
    rw [h3, h2]
    simp
    omega
theorem rd_of_pnAll : ∀ {ws : List (List UInt8)} {ns : List Int}, pnAll ws = some ns → (∀ n ∈ ns, n < 1000000) → ws.map rd = ns
  | [], ns, h, _ => by simp [pnAll] at h; subst h; rfl
  | w :: ws, ns, h, hn => by
    unfold pnAll at h
    split at h
    · cases h
    · split at h
      · cases h
      · rename_i n hp _ ms hm
        injection h with h
        subst h
        rw [List.map_cons, (rd_of_pn (hn n List.mem_cons_self) hp).2, rd_of_pnAll hm (fun x hx => hn x (List.mem_cons_of_mem _ hx))]

theorem good_mem {zs : List Int} (h : good zs = true) : ∀ z ∈ zs, 0 ≤ z ∧ z ≤ 1000 := by
  intro z hz
  obtain ⟨k, hk, rfl⟩ := List.mem_iff_getElem.1 hz
  exact good_get h k hk
/-- Heaps that can be read come from texts of at most 59 bytes. -/
theorem hp_short {l : List UInt8} (h : good ((sp l).map rd) = true) : l.length ≤ 60 := by
  have h1 := (good_of h).2.1
  have h2 := lens_le 4 (sp l) (by
    intro w hw
    have hg := good_mem h (rd w) (List.mem_map_of_mem hw)
    have ht := rd_text (w := w) (v := (rd w).toNat) (by omega)
    have := decDigits_len 3 (rd w).toNat (by omega)
    rw [← ht] at this
    exact this)
  have h3 := spc_lens l []
  simp only [sp] at h1 h2
  rw [h3] at h2
  simp at h1 h2
  omega
/-- What the program reads is good heaps just where what the model reads is. -/
theorem hp_same (l : List UInt8) (ns : List Int) (h : pnAll (sp l) = some ns) (hg : good ns = true) : (sp l).map rd = ns :=
  rd_of_pnAll h (fun n hn => by have := good_mem hg n hn; omega)
theorem hp_read (l : List UInt8) (hg : good ((sp l).map rd) = true) : pnAll (sp l) = some ((sp l).map rd) := by
  refine pnAll_of_rd (fun w hw => ?_)
  have := good_mem hg (rd w) (List.mem_map_of_mem hw)
  omega
end Go.Proofs.YtnmafcbkipkppaaDoor
