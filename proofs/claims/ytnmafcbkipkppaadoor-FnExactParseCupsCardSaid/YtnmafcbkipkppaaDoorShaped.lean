
/-
  THE FRAME OF A STATEMENT WHOSE WALK NEEDS THE LISTED VARIABLES AND THE WORLD's SHAPE. No program is named here.
-/
import Derived.HandedShaped
import Derived.Handed
namespace Go.Proofs.YtnmafcbkipkppaaDoor
open Go

theorem handed_listed_shaped {H : Type} {enc : TypeId × Value → H} {as : Assume} {C : Checked} {os : Os} {k : FuncId} {body : Func} {sp : ChangeSpec} {cs : List PathCond} {b1 b2 b3 b4 : Bool} {X : World → Array Value → Prop}
    (keepX : ∀ (u u' : World) (vs : Array Value), u.heap = u'.heap → X u vs → X u' vs)
    (hown : ownKnob C.prog.godebug = none) (hst : os.Started) (hin : C.prog.inits.idxOf? k = none) (hbody : C.prog.funcs[k]? = some body)
    (wit : ∃ (u : World) (tape : Tape) (i : Input), u.os = os ∧ (u.forCall tape i).Shaped C.prog ∧ i.vars = [] ∧ Input.okWide C.prog (u.forCall tape i) .any u.heap.size k i ∧
      ((sp.pre enc C.prog body cs b1 (u.forCall tape i).memory i.args ∧ X (u.forCall tape i).memory i.args) ∧ sizedMet enc C.prog body (OpenSpec.ofChange sp) b1 (u.forCall tape i).memory i.args) ∧ as.holds C.prog (lone (Frame.enter C.prog k i.args .normal) [] (u.forCall tape i)))
    (pays : ∀ (W : World) (base : Nat) (vs : Array Value) (ds gs : List (DataW H)) (pl : List MemPlace),
      (∀ (j : Nat) t v, body.params[j]? = some t → vs[j]? = some v → Value.okWide C.prog W .any base t v) →
      DataW.Whole enc C.prog body.params.toList sp.vars b1 W vs.toList ds gs pl → X W vs → W.ShapedOpen C.prog →
      Calls C.prog k vs W fun e W' => ∃ v, e = .returned v ∧ sp.post enc C.prog body b1 b2 b3 b4 W vs v W') :
    ReturnsInHanded as C os k .any (fun u vs => (sp.pre enc C.prog body cs b1 u vs ∧ X u vs) ∧ sizedMet enc C.prog body (OpenSpec.ofChange sp) b1 u vs) (sp.post enc C.prog body b1 b2 b3 b4) := by
  refine returnsInHanded_of_calls hown hst hin wit fun u tape i _ shape _ okI met _ => ?_
  obtain ⟨_, _, _, body', e0, _, _, _, _, okV⟩ := okI
  cases Option.some.inj (e0.symm.trans hbody)
  obtain ⟨⟨⟨ds, gs, pl, whole, _⟩, hx⟩, _⟩ := met
  have hw := DataW.Whole.of_heap (w' := u.forCall tape i) (by rfl) whole
  have hx' := keepX _ (u.forCall tape i) _ (by rfl) hx
  refine (pays _ u.heap.size i.args ds gs pl okV hw hx' shape).mono ?_
  rintro e W' ⟨v, rfl, post⟩
  exact ChangeSpec.post_blind post
end Go.Proofs.YtnmafcbkipkppaaDoor
