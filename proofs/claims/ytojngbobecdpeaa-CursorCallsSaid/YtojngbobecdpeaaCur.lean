/- cursors in memory. -/
import Derived.Test.YtojngbobecdpeaaCurMath
import Derived.Test.YtojngbobecdpeaaFre
namespace Go.Proofs.Ytojngbobecdpeaa
open Go Go.RowKit Go.ChangeShapes at_ pm cl
/-- four cells stand for a cursor, with less than so many within one another -/
def curR : Nat → Rel Cur
  | 0 => fun _ _ _ _ => False
  | d + 1 => fun w B c x => ∃ (lo : Option Addr) (ln lc : Nat) (ko : Option Addr) (kn kc : Nat), c = [.int .i64 x.k, .slice lo ln lc, .int .i64 x.a, .slice ko kn kc] ∧ At w B (.slice lo ln lc) x.l ∧ RowsAt 4 (curR d) w B (.slice ko kn kc) x.ks
theorem curR_steady : ∀ d, Steady (curR d)
  | 0 => fun _ _ _ _ _ _ h _ _ => h.elim
  | d + 1 => fun _ _ _ _ _ _ ⟨lo, ln, lc, ko, kn, kc, e, hl, hk⟩ hb hB => ⟨lo, ln, lc, ko, kn, kc, e, (hl.below hb).mono hB, hk.below (curR_steady d) hb hB⟩
theorem cur_form : ∀ {d : Nat} {w : World} {B : Nat} {c : List Value} {x : Cur}, curR d w B c x → ∃ (lo : Option Addr) (ln lc : Nat) (ko : Option Addr) (kn kc : Nat), c = [.int .i64 x.k, .slice lo ln lc, .int .i64 x.a, .slice ko kn kc]
  | 0, _, _, _, _, h => h.elim
  | _ + 1, _, _, _, _, ⟨lo, ln, lc, ko, kn, kc, e, _, _⟩ => ⟨lo, ln, lc, ko, kn, kc, e⟩
theorem rows_imp {α : Type} {k : Nat} {R R' : Rel α} {w : World} {B : Nat} {v : Value} {l : List α} (h : RowsAt k R w B v l) (hi : ∀ c x, R w B c x → R' w B c x) : RowsAt k R' w B v l := by
  obtain ⟨cs, h0, h1, h2⟩ := h
  exact ⟨cs, h0, fun j c x hc hx => ⟨(h1 j c x hc hx).1, hi _ _ (h1 j c x hc hx).2⟩, h2⟩
theorem curR_up : ∀ (d : Nat) (w : World) (B : Nat) (c : List Value) (x : Cur), curR d w B c x → curR (d + 1) w B c x
  | 0, _, _, _, _, h => h.elim
  | d + 1, w, B, _, _, ⟨lo, ln, lc, ko, kn, kc, e, hl, hk⟩ => ⟨lo, ln, lc, ko, kn, kc, e, hl, rows_imp hk (fun c x h => curR_up d w B c x h)⟩
theorem curR_le {d e : Nat} (h : d ≤ e) {w : World} {B : Nat} {c : List Value} {x : Cur} (hc : curR d w B c x) : curR e w B c x := by
  induction h with
  | refl => exact hc
  | step _ ih => exact curR_up _ _ _ _ _ ih
namespace Cur
mutual
/-- its lists are no longer than a machine's -/
def sm : Cur → Prop
  | mk _ l _ ks => l.length ≤ 100000 ∧ ks.length ≤ 100000 ∧ sms ks
def sms : List Cur → Prop
  | [] => True
  | c :: r => sm c ∧ sms r
end
theorem sms_iff : ∀ ks : List Cur, sms ks ↔ ∀ c ∈ ks, sm c
  | [] => by simp [sms]
  | c :: r => by simp [sms, sms_iff r]
theorem sm_iff {k a : Int} {l : List Int} {ks : List Cur} : sm (mk k l a ks) ↔ l.length ≤ 100000 ∧ ks.length ≤ 100000 ∧ ∀ c ∈ ks, sm c := by rw [sm, sms_iff]
theorem right_sm : ∀ (d : Nat) (c : Cur), right d c = true → sm c
  | 0, c, h => by cases c; simp [right] at h
  | d + 1, mk k l a ks, h => by
    rw [sm_iff]
    by_cases h1 : k = 1
    · subst h1
      obtain ⟨rfl, _, _, h4, _⟩ := right_list h
      exact ⟨by omega, by simp, fun c hc => by simp at hc⟩
    · obtain ⟨_, _, rfl, rfl, h20, hks⟩ := right_kids h1 h
      exact ⟨by simp, by omega, fun c hc => right_sm d c (hks c hc)⟩
/-- how far the list of a cursor is gone on with -/
def far (n : Int) (m : List Int) : Nat := (m.takeWhile (fun x => decide (x < n))).length
theorem far_le (n : Int) (m : List Int) : far n m ≤ m.length := (List.takeWhile_sublist _).length_le
theorem far_iff : ∀ (n : Int) (m : List Int) (q : Nat), q ≤ far n m → (q < far n m ↔ q < m.length ∧ m.getD q 0 < n)
  | n, [], q, h => by simp [far] at h ⊢
  | n, x :: r, q, h => by
    unfold far at h ⊢
    rw [List.takeWhile_cons] at h ⊢
    by_cases hx : x < n
    · rw [decide_eq_true hx] at h ⊢
      simp only [if_true, List.length_cons] at h ⊢
      cases q with
      | zero => simp [hx]
      | succ q =>
        have := far_iff n r q (by unfold far; omega)
        unfold far at this
        simp only [List.getD_cons_succ]
        omega
    · rw [decide_eq_false hx] at h ⊢
      simp at h
      subst h
      simp; omega
theorem fwd_far {n k a : Int} {l : List Int} {ks : List Cur} : fwd n (mk k l a ks) = mk k l (if 0 ≤ a then a + (far n (l.drop a.toNat) : Int) else a) (ks.map (fwd n)) := by
  rw [fwd_eq]; rfl
end Cur
theorem infoCur : (Try.prog.info? 25).map (fun i => (i.zero, i.size, i.bytes)) = some (some (.agg #[.int .i64 0, .slice none 0 0, .int .i64 0, .slice none 0 0]), 4, 64) := by kernel_rfl
end Go.Proofs.Ytojngbobecdpeaa
