/-
  Stores into the four cells of a List beside slices of the call's own.
-/
import Derived.Test.YtlicjbnagapdeaaListAns
namespace Go.Proofs.Ytlicjbnagapdeaa.Crew
open Go.ChangeShapes Go.WideShapes Go.ChangeAt Go.RowKit

theorem Fit.before {w : World} {base : Nat} {a : Option Addr} {len cap : Nat} {xs : List Int} (h : Fit w base a len cap xs) {b j : Nat} (hb : b < base) (v : Value) : Fit (w.setCell ⟨b, j, none⟩ v) base a len cap xs :=
  h.other (grown_at w b j v) (fun x hx => by have := (h.ge hx).1; simp; omega)

theorem Fit.before4 {w : World} {base : Nat} {a : Option Addr} {len cap : Nat} {xs : List Int} (h : Fit w base a len cap xs) {b : Nat} (hb : b < base) (x0 x1 x2 x3 : Value) : Fit ((((w.setCell ⟨b, 0, none⟩ x0).setCell ⟨b, 1, none⟩ x1).setCell ⟨b, 2, none⟩ x2).setCell ⟨b, 3, none⟩ x3) base a len cap xs :=
  (((h.before hb _).before hb _).before hb _).before hb _

theorem Quad.sets {w : World} {b : Nat} {x y : Value} {t p : Int} (h : Quad w b x y t p) (x' y' : Value) (t' p' : Int) : Quad ((((w.setCell ⟨b, 0, none⟩ x').setCell ⟨b, 1, none⟩ y').setCell ⟨b, 2, none⟩ (.int .i64 t')).setCell ⟨b, 3, none⟩ (.int .i64 p')) b x' y' t' p' := (((h.set0 _).set1 _).set2 _).set3 _

theorem Quad.past4 {w : World} {b b' : Nat} {x y : Value} {t p : Int} (h : Quad w b x y t p) (hb : b ≠ b') (x0 x1 x2 x3 : Value) : Quad ((((w.setCell ⟨b', 0, none⟩ x0).setCell ⟨b', 1, none⟩ x1).setCell ⟨b', 2, none⟩ x2).setCell ⟨b', 3, none⟩ x3) b x y t p :=
  (((h.past hb _).past hb _).past hb _).past hb _

end Go.Proofs.Ytlicjbnagapdeaa.Crew
