
/-
  A LIST TURNED PLACE BY PLACE. No program is named here.
-/
namespace Go.Proofs.YtjfkadmmmhefbaaDoor
/-- The first k of a list turned. -/
def mapTo (f : Int → Int) (k : Nat) (zs : List Int) : List Int := (zs.take k).map f ++ zs.drop k
theorem mapTo_zero (f : Int → Int) (zs : List Int) : mapTo f 0 zs = zs := by simp [mapTo]
theorem mapTo_all (f : Int → Int) (zs : List Int) : mapTo f zs.length zs = zs.map f := by simp [mapTo]
theorem mapTo_length (f : Int → Int) (k : Nat) (zs : List Int) : (mapTo f k zs).length = zs.length := by simp [mapTo]; omega
theorem mapTo_getE (f : Int → Int) (k : Nat) (zs : List Int) (h : k < zs.length) : (mapTo f k zs)[k]? = some zs[k] := by
  unfold mapTo
  rw [List.getElem?_append_right (by simp; omega)]
  simp [List.getElem?_drop, show k + (k - min k zs.length) = k from by omega, h]
theorem mapTo_set (f : Int → Int) (k : Nat) (zs : List Int) (h : k < zs.length) : (mapTo f k zs).set k (f zs[k]) = mapTo f (k + 1) zs := by
  unfold mapTo
  rw [List.set_append_right _ _ (by simp; omega), List.take_succ_eq_append_getElem h, List.map_append, List.append_assoc]
  congr 1
  rw [show k - ((zs.take k).map f).length = 0 from by simp; omega, List.drop_eq_getElem_cons h]
  rfl
end Go.Proofs.YtjfkadmmmhefbaaDoor
