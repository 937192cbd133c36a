/-
  A turn of a line: who waits on top has one more, and waits again.
-/
import Derived.Test.YtdneohbgdhoigaaLineOf
namespace Go.Proofs.Ytdneohbgdhoigaa.Crew
open Go.ChangeShapes Go.WideShapes Go.ChangeAt Go.RowKit

theorem cn_set {ns : List Int} {t : Nat} {v : Int} {x : Nat} (h : x ≠ t) : cn (ns.set t v) (x : Int) = cn ns (x : Int) := by
  unfold cn
  rw [Int.toNat_natCast]
  simp [List.getD, Ne.symm h]

theorem ahead_set {cs ns : List Int} {t : Nat} {v : Int} {x y : Nat} (hx : x ≠ t) (hy : y ≠ t) : aheadOf cs (ns.set t v) (x : Int) (y : Int) = aheadOf cs ns (x : Int) (y : Int) := by
  unfold aheadOf early
  rw [cn_set hx, cn_set hy]

theorem heaped_set {cs ns us : List Int} {t n : Nat} {v : Int} (h : Heaped (aheadOf cs ns) (gd us) n) (N : Inside cs.length us) (hl : us.length = n) (ht : (t : Int) ∉ us) : Heaped (aheadOf cs (ns.set t v)) (gd us) n := by
  have hne : ∀ k, k < n → ∃ x : Nat, gd us k = (x : Int) ∧ x ≠ t := fun k hk => by
    obtain ⟨x, hx, _⟩ := N k (by omega)
    refine ⟨x, hx, fun e => ht ?_⟩
    have : gd us k = us[k] := by simp [gd, List.getD, show k < us.length by omega]
    rw [← e, ← hx, this]
    exact List.getElem_mem _
  intro k h0 hk
  have := h k h0 hk
  obtain ⟨x, hx, ex⟩ := hne k hk
  obtain ⟨y, hy, ey⟩ := hne ((k - 1) / 2) (by omega)
  rw [hx, hy] at this ⊢
  rw [ahead_set ex ey]
  exact this

theorem not_in {us ws : List Int} {x : Int} {n : Nat} (h : (us ++ [x]).Perm ws) (p : ws.Perm (idxL n)) : x ∉ us := by
  have hn : (us ++ [x]).Nodup := (h.trans p).symm.nodup (idxL_nodup n)
  intro hx
  rw [List.nodup_append] at hn
  exact hn.2.2 x hx x (by simp) rfl

/-- A count is one more. -/
theorem Ln.count {w0 w : World} {b : Nat} {ca : Option Addr} {la cca : Nat} {cs : List Int} {g lg cg : Nat} {ns : List Int} {ha : Option Addr} {lh ch : Nat} {ws : List Int} (h : Ln w0 w b ca la cca cs g lg cg ns ha lh ch ws) (j : Nat) (v : Int) :
    Ln w0 (w.setCell ⟨g, j, none⟩ (.int .i64 v)) b ca la cca cs g lg cg (ns.set j v) ha lh ch ws :=
  ⟨below_set h.bel h.log _, h.crew, h.line.past h.bg _, h.cnt.set j v, by simpa using h.cntl, h.wait.other (grown_at w g j _) (fun x hx => by have := h.hg x hx; simpa using this), h.lob, h.log, h.bg, h.hb, h.hg, h.nil⟩

/-- What a turn leaves. -/
structure Turned (w0 w w' : World) (b : Nat) (ca : Option Addr) (la cca : Nat) (cs : List Int) (g lg cg : Nat) (ns : List Int) (g1 g2 c2 : Nat) (us : List Int) : Prop where
  line : Lined w0 w' b ca la cca cs g lg cg ns g2 c2 us
  only : Only b g (some ⟨g1, 0, none⟩) w w'
  lies : g2 = g1 ∨ w.heap.size ≤ g2

theorem takeTurn_any (w0 : World) (b : Nat) (ca : Option Addr) (la cca : Nat) (cs : List Int) (g lg cg : Nat) (ns : List Int) (g1 c1 : Nat) (ws : List Int) (m : Nat) (hm : m < 3000) (C : Counted cs ns m) (w : World) (L : Lined w0 w b ca la cca cs g lg cg ns g1 c1 ws) :
    Calls Try.prog 29 #[.pointer (some ⟨b, 0, none⟩)] w fun e w' => e = .returned (.int .i64 ((lastOf cs ns : Nat) : Int)) ∧ ∃ (g2 c2 : Nat) (us : List Int), Turned w0 w w' b ca la cca cs g lg cg (turnL cs ns) g1 g2 c2 us := by
  have hla : cs.length = la := L.line.crew.1
  have h24 := crew_len C.crew
  have hlg : lg = la := by rw [← L.line.cntl, C.len, hla]
  obtain ⟨n, hn⟩ : ∃ n, la = n + 1 := ⟨la - 1, by omega⟩
  have htop : gd ws 0 = ((lastOf cs ns : Nat) : Int) := top_last (by omega) (by rw [hla]; exact L.perm) (by rw [hla]; exact L.heap)
  have hti := last_in C.crew ns
  obtain ⟨t, ht⟩ : ∃ t, t = lastOf cs ns := ⟨_, rfl⟩
  rw [← ht] at htop hti ⊢
  have tA := asserted (t : Int)
  have bt := C.top t
  have bn := C.nat t
  obtain ⟨v, hv⟩ : ∃ v, v = ns.getD t 0 := ⟨_, rfl⟩
  rw [← hv] at bt bn
  have htl : (t : Int) < (lg : Int) := by omega
  subst hn
  have H : Hid (Lined w0 w b ca (n + 1) cca cs g lg cg ns g1 c1 ws ∧ gd ws 0 = (t : Int) ∧ t < cs.length ∧ cs.length = n + 1 ∧ t = lastOf cs ns ∧ v = ns.getD t 0) := ⟨L, htop, hti, hla, ht, hv⟩
  clear L htop hti hla ht hv hlg
  have hn24 : n < 24 := by have := H.out.2.2.2.1; omega
  go_enter Try.func29, Try.ntmps29
  go_wp2_with fail
  refine (heapPop w0 b ca (n + 1) cca cs g lg cg ns (some ⟨g1, 0, none⟩) n c1 m (by omega) C ws _ H.out.1.line hn24 H.out.1.heap (inside_idx H.out.1.perm (by have := H.out.2.2.2.1; omega))).mono ?_
  rw [H.out.2.1]
  rintro e1 w1 ⟨rfl, us, P1⟩
  have N1 : (t : Int) ∉ us := by
    have := P1.perm
    rw [H.out.2.1] at this
    exact not_in this H.out.1.perm
  have I1 : Inside cs.length us := by
    intro k hk
    have h := inside_perm (inside_idx H.out.1.perm (n := cs.length) (by have := H.out.2.2.2.1; omega)) P1.perm k (by simp; omega)
    rwa [gd_append hk] at h
  have c1' := P1.line.line.c1
  have c2' : w1.cell? ⟨g, t, none⟩ = some (.int .i64 v) := by rw [H.out.2.2.2.2.2]; exact P1.line.cnt.cell (by have := P1.line.cntl; omega)
  have f2' := P1.line.cnt.frozen t
  have H1 : Hid (Ln w0 (w1.setCell ⟨g, t, none⟩ (.int .i64 (v + 1))) b ca (n + 1) cca cs g lg cg (turnL cs ns) (some ⟨g1, 0, none⟩) n c1 us ∧ Heaped (aheadOf cs (turnL cs ns)) (gd us) n ∧ Inside cs.length us ∧ (us ++ [(t : Int)]).Perm ws ∧ Only b g (some ⟨g1, 0, none⟩) w (w1.setCell ⟨g, t, none⟩ (.int .i64 (v + 1)))) := by
    have e : turnL cs ns = ns.set t (v + 1) := by rw [turnL, ← H.out.2.2.2.2.1, ← H.out.2.2.2.2.2]
    rw [e]
    refine ⟨P1.line.count t (v + 1), heaped_set P1.heap I1 P1.line.wait.1 N1, I1, ?_, P1.only.trans (only_cnt _)⟩
    have := P1.perm
    rwa [H.out.2.1] at this
  clear P1 N1 I1
  go_wp2_with fail
  generalize w1.setCell ⟨g, t, none⟩ (.int .i64 (v + 1)) = w2 at *
  refine (heapPush w0 b ca (n + 1) cca cs g lg cg (turnL cs ns) (some ⟨g1, 0, none⟩) n c1 (m + 1) (by omega) C.turn us _ H1.out.1 hn24 H1.out.2.1 H1.out.2.2.1 t H.out.2.2.1).mono ?_
  rintro e3 w3 ⟨rfl, g2, c2, vs, P⟩
  have s2 := H1.out.2.2.2.2.size
  go_wp2_with fail
  go_ret
  refine ⟨rfl, g2, c2, vs, ⟨P.line, (P.perm.trans H1.out.2.2.2.1).trans H.out.1.perm, P.heap⟩, H1.out.2.2.2.2.trans P.only, ?_⟩
  rcases P.lies with h | h
  · left; exact Option.some.inj h
  · right; omega

end Go.Proofs.Ytdneohbgdhoigaa.Crew
