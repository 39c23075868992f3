/- net: rows of the call's own, told apart by types. -/
import Derived.Test.YtpgccfgldjeomaaCdWl
namespace Go.Proofs.Ytpgccfgldjeomaa
open Go.RowKit Go.ChangeShapes cl
/-- all but the blocks of type T stay as they were -/
structure Kt (T : TypeId) (w w' : World) : Prop where
  size : w.heap.size ≤ w'.heap.size
  keep : ∀ q, q < w.heap.size → (∀ cur fr, w.heap[q]? ≠ some (.cells cur T fr)) → w'.heap[q]? = w.heap[q]?
theorem grown_trans {w w1 w2 : World} {r : Option Nat} (h : w.grownBy w1 r) (h2 : w1.grownBy w2 r) : w.grownBy w2 r :=
  ⟨h2.os.trans h.os, h2.tape.trans h.tape, h2.output.trans h.output, Nat.le_trans h.size h2.size, fun k hk hr => (h2.block k (Nat.lt_of_lt_of_le hk h.size) hr).trans (h.block k hk hr)⟩
theorem grown_below' {w w' : World} {r : Option Nat} (h : Below w.heap.size w w') : w.grownBy w' r := ⟨h.os, h.tape, h.output, h.size, fun k hk _ => h.block k hk⟩
theorem Kt.of_grown {T : TypeId} {w w' : World} {p : Nat} {cur : Array Value} {fr : Nat × Nat} (h : w.grownBy w' (some p)) (hp : w.heap[p]? = some (.cells cur T fr)) : Kt T w w' :=
  ⟨h.size, fun q hq hn => h.block q hq (fun e => hn cur fr (by cases e; exact hp))⟩
theorem Kt.of_below {T : TypeId} {w w' : World} (h : Below w.heap.size w w') : Kt T w w' := ⟨h.size, fun q hq _ => h.block q hq⟩
theorem Kt.trans {T : TypeId} {w w1 w2 : World} (h : Kt T w w1) (h2 : Kt T w1 w2) : Kt T w w2 :=
  ⟨Nat.le_trans h.size h2.size, fun q hq hn => (h2.keep q (Nat.lt_of_lt_of_le hq h.size) (fun cur fr => by rw [h.keep q hq hn]; exact hn cur fr)).trans (h.keep q hq hn)⟩
theorem own_kt {T e : TypeId} {B k n : Nat} {v : Value} {xs : List Value} {w w' : World} (h : w.ownsRow B e k v n xs) (hk : Kt T w w') (hne : e ≠ T) : w'.ownsRow B e k v n xs := by
  refine ⟨h.1, ?_⟩
  rcases h.2 with ⟨rfl, h0⟩ | ⟨g, cap, cur, rfl, hb, hg, r⟩
  · exact Or.inl ⟨rfl, h0⟩
  · refine Or.inr ⟨g, cap, cur, rfl, hb, ?_, r⟩
    rw [hk.keep g (lt_of_block hg) (fun cur' fr e => by
      rw [hg] at e
      simp only [Option.some.injEq, Obj.cells.injEq] at e
      exact hne e.2.1)]
    exact hg
theorem own_base {e : TypeId} {B B' k n : Nat} {v : Value} {xs : List Value} {w : World} (h : w.ownsRow B e k v n xs) (hB : B' ≤ B) : w.ownsRow B' e k v n xs := by
  refine ⟨h.1, ?_⟩
  rcases h.2 with h | ⟨g, cap, cur, rfl, hb, r⟩
  · exact Or.inl h
  · exact Or.inr ⟨g, cap, cur, rfl, by omega, r⟩
abbrev RelO (α : Type) := World → List Value → α → Prop
def Pst {α : Type} (R : RelO α) (T : TypeId) : Prop := ∀ (w w' : World) (c : List Value) (x : α), R w c x → Kt T w w' → R w' c x
/-- a slice of the call's own, whose elements stand for l -/
def RowsO {α : Type} (B : Nat) (T : TypeId) (k : Nat) (R : RelO α) (w : World) (v : Value) (l : List α) : Prop :=
  ∃ cs : List (List Value), cs.length = l.length ∧ (∀ (j : Nat) (c : List Value) (x : α), cs[j]? = some c → l[j]? = some x → c.length = k ∧ R w c x) ∧ w.ownsRow B T k v l.length cs.flatten
def strO : RelO ByteArray := fun _ c x => c = [.string x] ∧ x.size ≤ maxLen
def dotO : RelO cd.D := fun _ c x => c = [.int .i64 x.1, .int .i64 x.2]
def lnkO : RelO cd.Lk := fun _ c x => c = [.int .i64 x.1, .int .i64 x.2.1, .int .i64 x.2.2]
def entO : RelO cd.Ent := fun w c x => ∃ ao n cap, c = [.string x.s, .int .i64 x.d.1, .int .i64 x.d.2, .int .i64 x.t, .slice ao n cap] ∧ x.s.size ≤ maxLen ∧ RowsO 0 95 3 lnkO w (.slice ao n cap) x.l
theorem strO_pst (T : TypeId) : Pst strO T := fun _ _ _ _ h _ => h
theorem dotO_pst (T : TypeId) : Pst dotO T := fun _ _ _ _ h _ => h
theorem lnkO_pst (T : TypeId) : Pst lnkO T := fun _ _ _ _ h _ => h
section
variable {α : Type} {B k : Nat} {T T' : TypeId} {R : RelO α} {w w' : World} {v : Value} {l : List α}
theorem RowsO.kt (hR : Pst R T') (hne : T ≠ T') (h : RowsO B T k R w v l) (hk : Kt T' w w') : RowsO B T k R w' v l := by
  obtain ⟨cs, h0, h1, h2⟩ := h
  exact ⟨cs, h0, fun j c x hc hx => ⟨(h1 j c x hc hx).1, hR _ _ _ _ (h1 j c x hc hx).2 hk⟩, own_kt h2 hk hne⟩
theorem RowsO.base (h : RowsO B T k R w v l) : RowsO 0 T k R w v l := by
  obtain ⟨cs, h0, h1, h2⟩ := h
  exact ⟨cs, h0, h1, own_base h2 (Nat.zero_le _)⟩
theorem RowsO.form (h : RowsO B T k R w v l) : ∃ ao n cap, v = .slice ao n cap := by
  obtain ⟨cs, h0, h1, h2⟩ := h
  exact own_slice h2
theorem RowsO.nil (w : World) : RowsO B T k R w (.slice none 0 0) [] := ⟨[], rfl, fun j c x hc => by simp at hc, World.ownsRow_nil _ _ _ _⟩
theorem RowsO.snoc {x : α} {c : List Value} {v' : Value} {cs : List (List Value)} (h0 : cs.length = l.length) (h1 : ∀ (j : Nat) (c : List Value) (x : α), cs[j]? = some c → l[j]? = some x → c.length = k ∧ R w c x)
    (hk : Kt T w w') (hR : Pst R T) (hc : c.length = k) (hx : R w c x) (hown : w'.ownsRow B T k v' (l.length + 1) (cs.flatten ++ c)) : RowsO B T k R w' v' (l ++ [x]) := by
  refine ⟨cs ++ [c], by simp [h0], fun j c' x' hc' hx' => ?_, ?_⟩
  · rcases Nat.lt_or_ge j cs.length with h | h
    · rw [List.getElem?_append_left h] at hc'
      rw [List.getElem?_append_left (by omega)] at hx'
      exact ⟨(h1 j c' x' hc' hx').1, hR _ _ _ _ (h1 j c' x' hc' hx').2 hk⟩
    · have hj : j = cs.length := by
        have := (List.getElem?_eq_some_iff.1 hc').1
        simp at this; omega
      subst hj
      rw [List.getElem?_append_right (Nat.le_refl _), Nat.sub_self] at hc'
      rw [List.getElem?_append_right (by omega), h0, Nat.sub_self] at hx'
      cases hc'
      cases hx'
      exact ⟨hc, hR _ _ _ _ hx hk⟩
  · rw [List.length_append, List.flatten_append, List.flatten_cons, List.flatten_nil, List.append_nil]
    exact hown
end
theorem entO_pst {T : TypeId} (hT : 95 ≠ T) : Pst entO T := fun _ _ _ _ ⟨ao, n, cap, h, hs, hr⟩ hk => ⟨ao, n, cap, h, hs, hr.kt (lnkO_pst _) hT hk⟩
theorem boxc {w : World} {q : Nat} {cs : Array Value} {t : TypeId} {fr : Nat × Nat} (h : w.heap[q]? = some (.cells cs t fr)) (i : Nat) (u : Value) (hu : cs[i]? = some u) : w.cell? ⟨q, i, none⟩ = some u := by simp [World.cell?, h, hu]
theorem boxf {w : World} {q : Nat} {cs : Array Value} {t : TypeId} (h : w.heap[q]? = some (.cells cs t (0, 0))) (i : Nat) : w.frozen? ⟨q, i, none⟩ = false := by simp [World.frozen?, h]
theorem Kt.set {w : World} {q : Nat} {cs : Array Value} {T : TypeId} {fr : Nat × Nat} (h : w.heap[q]? = some (.cells cs T fr)) (i : Nat) (u : Value) : Kt T w (w.setCell ⟨q, i, none⟩ u) :=
  ⟨by rw [World.size_setCell]; exact Nat.le_refl _, fun k _ hn => Below.heap_setCell _ _ _ _ (fun e => by
    have e : k = q := e
    subst e
    exact hn _ _ h)⟩

set_option maxHeartbeats 1600000 in
set_option maxRecDepth 100000 in
theorem RowsO.at {α : Type} {B k : Nat} {T : TypeId} {R : RelO α} {R' : Rel α} {w : World} {v : Value} {l : List α} (h : RowsO B T k R w v l) (hR : ∀ c x, R w c x → R' w w.heap.size c x) : RowsAt k R' w w.heap.size v l := by
  obtain ⟨cs, h0, h1, h2⟩ := h
  exact RowsAt.own rfl h0 (fun j c x hc hx => ⟨(h1 j c x hc hx).1, hR c x (h1 j c x hc hx).2⟩) h2
theorem ent_at {w : World} (c : List Value) (x : cd.Ent) (h : entO w c x) : entR w w.heap.size c x := by
  obtain ⟨ao, n, cap, hc, hs, hr⟩ := h
  exact ⟨ao, n, cap, hc, hs, hr.at (fun _ _ h => h)⟩
end Go.Proofs.Ytpgccfgldjeomaa
