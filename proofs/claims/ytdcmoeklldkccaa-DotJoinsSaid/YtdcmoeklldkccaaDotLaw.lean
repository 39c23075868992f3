/- dot: what From, Add, Join know; under. No walk. -/
import Derived.Test.YtdcmoeklldkccaaDotUp
namespace Go.Proofs.Ytdcmoeklldkccaa.dm

/-- what From lays -/
theorem from_knows {l L : List Dot} (hp : L.Perm (l.filter fun d => valid d)) (hu : Up L) : Right (layF (fun _ => 0) L) ∧ ∀ d, Knows (layF (fun _ => 0) L) d ↔ valid d = true ∧ d ∈ l := by
  have hv : ∀ d ∈ L, valid d = true := fun d hd => (List.mem_filter.1 (hp.mem_iff.1 hd)).2
  obtain ⟨h1, h2⟩ := lay_right (K := fun _ => 0) (fun _ => ⟨Int.le_refl _, by omega⟩) hu hv
  refine ⟨h1, fun d => ?_⟩
  rw [h2 d, hp.mem_iff, List.mem_filter]
  constructor
  · rintro ⟨a, b | b⟩
    · have := (valid_iff d).1 a
      omega
    · exact ⟨a, b.1⟩
  · rintro ⟨a, b⟩
    exact ⟨a, Or.inr ⟨b, a⟩⟩
/-- what Add lays -/
theorem add_knows {c : Ctx} {d : Dot} {L : List Dot} (hc : Right c) (hd : valid d = true) (hp : L.Perm (c.2 ++ [d])) (hu : Up L) : Right (layF (kn c.1) L) ∧ ∀ e, Knows (layF (kn c.1) L) e ↔ Knows c e ∨ e = d := by
  have hv : ∀ e ∈ L, valid e = true := fun e he => by
    rcases List.mem_append.1 (hp.mem_iff.1 he) with h | h
    · exact (hc.cok e h).1
    · simp only [List.mem_cons, List.not_mem_nil, or_false] at h
      rw [h]; exact hd
  obtain ⟨h1, h2⟩ := lay_right hc.kn0 hu hv
  refine ⟨h1, fun e => ?_⟩
  rw [h2 e, hp.mem_iff, List.mem_append]
  simp only [List.mem_cons, List.not_mem_nil, or_false]
  constructor
  · rintro ⟨a, b | b | b⟩
    · exact Or.inl ⟨a, Or.inl b⟩
    · exact Or.inl ⟨a, Or.inr b⟩
    · exact Or.inr b
  · rintro (⟨a, b | b⟩ | b)
    · exact ⟨a, Or.inl b⟩
    · exact ⟨a, Or.inr (Or.inl b)⟩
    · exact ⟨by rw [b]; exact hd, Or.inr (Or.inr b)⟩
/-- what Join lays -/
theorem join_knows {a b : Ctx} {L : List Dot} (ha : Right a) (hb : Right b) (hp : L.Perm (a.2 ++ b.2)) (hu : Up L) :
    Right (layF (fun n => max (kn a.1 n) (kn b.1 n)) L) ∧ ∀ e, Knows (layF (fun n => max (kn a.1 n) (kn b.1 n)) L) e ↔ Knows a e ∨ Knows b e := by
  have hv : ∀ e ∈ L, valid e = true := fun e he => by
    rcases List.mem_append.1 (hp.mem_iff.1 he) with h | h
    · exact (ha.cok e h).1
    · exact (hb.cok e h).1
  obtain ⟨h1, h2⟩ := lay_right (K := fun n => max (kn a.1 n) (kn b.1 n)) (fun n => by have := ha.kn0 n; have := hb.kn0 n; omega) hu hv
  refine ⟨h1, fun e => ?_⟩
  rw [h2 e, hp.mem_iff, List.mem_append]
  constructor
  · rintro ⟨x, y | y | y⟩
    · rcases (by omega : e.2 ≤ kn a.1 e.1 ∨ e.2 ≤ kn b.1 e.1) with z | z
      · exact Or.inl ⟨x, Or.inl z⟩
      · exact Or.inr ⟨x, Or.inl z⟩
    · exact Or.inl ⟨x, Or.inr y⟩
    · exact Or.inr ⟨x, Or.inr y⟩
  · rintro (⟨x, y | y⟩ | ⟨x, y | y⟩)
    · exact ⟨x, Or.inl (by omega)⟩
    · exact ⟨x, Or.inr (Or.inl y)⟩
    · exact ⟨x, Or.inl (by omega)⟩
    · exact ⟨x, Or.inr (Or.inr y)⟩
/-- b knows all that a knows, just if b with a is as before -/
theorem under_iff {a b j : Ctx} (hb : Right b) (hj : Right j) (hk : ∀ e, Knows j e ↔ Knows b e ∨ Knows a e) : j = b ↔ ∀ e, Knows a e → Knows b e := by
  constructor
  · rintro rfl e h
    exact (hk e).2 (Or.inr h)
  · intro h
    refine ext hj hb fun e => ?_
    rw [hk]
    exact ⟨fun x => x.elim id (h e), Or.inl⟩
/-- nothing is known twice over -/
theorem nil_right : Right ([], []) := ⟨(fun _ h => by cases h), List.Pairwise.nil, (fun _ h => by cases h), List.Pairwise.nil⟩
/-- P3.11: of a node without a gap no single one is left -/
theorem no_gap {c : Ctx} (h : Right c) {d : Dot} (hd : d ∈ c.2) (hk : Knows c (d.1, d.2 - 1)) : (d.1, d.2 - 1) ∈ c.2 := by
  rcases hk.2 with e | e
  · have := (h.cok d hd).2
    simp only at e; omega
  · exact e
end Go.Proofs.Ytdcmoeklldkccaa.dm
