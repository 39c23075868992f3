/- Pages as they lie, to be read; All at what is known. -/
import Derived.Test.YtilnmfbimfmacaaAwk34
namespace Go.Proofs.Ytilnmfbimfmacaa
open Go.RowKit Go.ChangeShapes Go.Joins cl pg

theorem pcells_get : ∀ (ps : List (Value × Pg)) (j : Nat) (h : j < ps.length), (pcells ps)[j * 3]? = some ps[j].1 ∧ (pcells ps)[j * 3 + 1]? = some (.string ps[j].2.after) ∧ (pcells ps)[j * 3 + 2]? = some (.bool ps[j].2.more) := by
  intro ps
  induction ps with
  | nil => intro j h; simp at h
  | cons p ps ih =>
    intro j h
    have e : pcells (p :: ps) = p.1 :: .string p.2.after :: .bool p.2.more :: pcells ps := rfl
    rw [e]
    cases j with
    | zero => exact ⟨rfl, rfl, rfl⟩
    | succ j =>
      have := ih j (by simpa using h)
      rw [Nat.succ_mul]
      simpa using this
def PgAt (w : World) (B : Nat) (v : Value) (ps : List (Value × Pg)) : Prop := Cells w B v ps.length 3 (pcells ps) ∧ ∀ p ∈ ps, Strs w B p.1 p.2.list
theorem PgAt.next {W W' : World} {v : Value} {ps : List (Value × Pg)} (h : PgAt W W.heap.size v ps) (hb : Below W.heap.size W W') : PgAt W' W'.heap.size v ps :=
  ⟨h.1.next hb, fun p hp => (h.2 p hp).next hb⟩
theorem PgAt.form {W : World} {B n : Nat} {v : Value} {ps : List (Value × Pg)} (h : PgAt W B v ps) (hn : n = ps.length) : ∃ ao c, v = .slice ao n c := by
  subst hn
  obtain ⟨ao, c, e, _⟩ := h.1.form
  exact ⟨ao, c, e⟩
/-- page j: its slice, and the three cells -/
theorem PgAt.get {W : World} {B n c : Nat} {ao : Option Addr} {ps : List (Value × Pg)} (h : PgAt W B (.slice ao n c) ps) (hn : n = ps.length) {j : Nat} (hj : j < n) : ∃ b off lv p, ao = some ⟨b, off, none⟩ ∧ b < B ∧ ps[j]? = some (lv, p) ∧
    W.cell? ⟨b, off + j * 3, none⟩ = some lv ∧ W.cell? ⟨b, off + j * 3 + 1, none⟩ = some (.string p.after) ∧ W.cell? ⟨b, off + j * 3 + 2, none⟩ = some (.bool p.more) ∧ Strs W B lv p.list := by
  subst hn
  obtain ⟨_, ao', c', e, _, _, h4⟩ := id h.1
  simp only [Value.slice.injEq] at e
  obtain ⟨rfl, _, rfl⟩ := e
  obtain ⟨b, off, rfl, hB, hc⟩ := h4 (by omega)
  obtain ⟨g0, g1, g2⟩ := pcells_get ps j hj
  exact ⟨b, off, ps[j].1, ps[j].2, rfl, hB, List.getElem?_eq_getElem hj, hc _ _ g0, hc _ _ g1, hc _ _ g2, h.2 _ (List.getElem_mem hj)⟩
def All1 (w W : World) (L : List (Value × List ByteArray)) (l : List Pg) (e : Ending) (W' : World) : Prop := ∃ v ps, e = .returned v ∧ Hid (ps.map (·.2) = l) ∧ PgAt W' W'.heap.size v ps ∧ Env w W' L ∧ Below W.heap.size W W'
theorem all_of {w W W' : World} {L : List (Value × List ByteArray)} (E : Env w W L) {l : List Pg} {e : Ending} (h : RetPages l W e W') : All1 w W L l e W' := by
  obtain ⟨v, ps, he, hm, ho, hp, hb⟩ := h
  exact ⟨v, ps, he, hm, ⟨Cells.own ho, fun p hq => Cells.own (hp p hq)⟩, E.step hb, hb⟩
theorem call1 {w W : World} {L : List (Value × List ByteArray)} (E : Env w W L) {v : Value} {l : List ByteArray} (h : (v, l) ∈ L) (hok : okL l) (most : Int) :
    Calls Try.prog 12 #[v, .int .i64 most] W (All1 w W L (all l most)) :=
  (all_any l v most W (E.2 _ h) hok).mono fun _ _ h => all_of E h
theorem crall1 {w W : World} {L : List (Value × List ByteArray)} (E : Env w W L) {v : Value} {l : List ByteArray} (h : (v, l) ∈ L) (hok : okL l) (most : Int) :
    Calls Try.prog 13 #[v, .int .i64 most] W (All1 w W L (all l most)) :=
  (rall_any l v most W (E.2 _ h) hok).mono fun _ _ h => all_of E h
theorem map_get {ps : List (Value × Pg)} {l : List Pg} (h : ps.map (·.2) = l) {j : Nat} {lv : Value} {p : Pg} (hj : ps[j]? = some (lv, p)) : l[j]? = some p := by
  rw [← h, List.getElem?_map, hj]; rfl
theorem all_get {l : List ByteArray} {m j : Nat} (hm : 0 < m) {p : Pg} (h : (all l (m : Int))[j]? = some p) : p = page l m j ∧ j < count l.length m := by
  unfold all at h
  rw [if_neg (by omega), Int.toNat_natCast] at h
  have hj := (List.getElem?_eq_some_iff.1 h).1
  simp at hj
  simp [hj] at h
  exact ⟨h.symm, hj⟩
theorem all_length {l : List ByteArray} {m : Nat} (hm : 0 < m) : (all l (m : Int)).length = count l.length m := by
  unfold all
  rw [if_neg (by omega), Int.toNat_natCast]; simp
/-- the laws' first step: is the list one that may be -/
theorem crise {w W : World} {L : List (Value × List ByteArray)} (E : Env w W L) {v : Value} {l : List ByteArray} (h : (v, l) ∈ L) : Calls Try.prog 8 #[v] W (Rise l W) := rising_any l v W (E.2 _ h)
theorem env1 {w : World} {v : Value} {l : List ByteArray} (h : Strs w w.heap.size v l) : Env w w [(v, l)] := ⟨Below.refl _ _, fun p hp => by
  obtain rfl : p = (v, l) := by simpa using hp
  exact h⟩
theorem env2 {w : World} {v u : Value} {l m : List ByteArray} (h : Strs w w.heap.size v l) (g : Strs w w.heap.size u m) : Env w w [(v, l), (u, m)] := ⟨Below.refl _ _, fun p hp => by
  simp only [List.mem_cons, List.not_mem_nil, or_false] at hp
  rcases hp with rfl | rfl
  · exact h
  · exact g⟩
end Go.Proofs.Ytilnmfbimfmacaa
