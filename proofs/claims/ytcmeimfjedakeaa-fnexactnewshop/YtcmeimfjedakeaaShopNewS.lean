/-
  A copy of a Shop as a kind; spec.NewShop.
-/
import Derived.Test.YtcmeimfjedakeaaShopTo
import Derived.Test.YtcmeimfjedakeaaShopOkS
namespace Go.Proofs.Ytcmeimfjedakeaa.Crew
open Go.ChangeShapes Go.WideShapes Go.ChangeAt Go.RowKit

theorem shop_to (L : LT) (d : SD) (w : World) (I : Rd w L d) (hs : Short L) :
    Calls Try.prog 7 #[sv L d] w fun e w' => ∃ M S, e = .returned (sv M d) ∧ shopK.rep w' S (sv M d) d ∧ (∀ j, S j → w.heap.size ≤ j) ∧ Below w.heap.size w w' := by
  refine (toShop_any L d w I hs).mono ?_
  rintro e w' ⟨M, rfl, O, P, f, B⟩
  exact ⟨M, Has M, rfl, ⟨M, rfl, O, P, fun _ => Iff.rfl⟩, f, B⟩

/-- No tasks, nobody, Now 0. -/
def newD (p q : Int) : SD := ⟨p, q, [], [], [], [], [], [], [], [], 0, 0, [], [], 0, 0, 0⟩

theorem own_zl (w : World) (p q : Int) : Own w zl (newD p q) :=
  ⟨⟨rfl, .inl ⟨rfl, rfl⟩⟩, ⟨rfl, .inl ⟨rfl, rfl⟩⟩, ⟨rfl, .inl ⟨rfl, rfl⟩⟩, ⟨rfl, .inl ⟨rfl, rfl⟩⟩, ⟨rfl, .inl ⟨rfl, rfl⟩⟩, ⟨rfl, .inl ⟨rfl, rfl⟩⟩, ⟨rfl, .inl ⟨rfl, rfl⟩⟩, ⟨rfl, .inl ⟨rfl, rfl⟩⟩, ⟨rfl, .inl ⟨rfl, rfl⟩⟩, ⟨rfl, .inl ⟨rfl, rfl⟩⟩⟩

theorem zl_at (i : Nat) (hi : i < 10) : LT.at zl i = none := by
  rcases i with _ | _ | _ | _ | _ | _ | _ | _ | _ | _ | i
  all_goals first | rfl | omega

theorem parts_zl : Parts zl := fun i j hi _ _ => by
  rw [zl_at i hi]
  exact apart_none _

theorem has_zl {j : Nat} : ¬ Has zl j := by
  rintro ⟨i, hi, h⟩
  rw [zl_at i hi] at h
  cases h

theorem short_zl : Short zl := fun x hx => by
  simp only [List.mem_cons, List.not_mem_nil, or_false] at hx
  rcases hx with rfl | rfl | rfl | rfl | rfl | rfl | rfl | rfl | rfl | rfl <;> decide

end Go.Proofs.Ytcmeimfjedakeaa.Crew
