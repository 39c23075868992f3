/- What is known of the slices at hand, carried from call to call; each of posting's functions at it. -/
import Derived.Test.YtojngbobecdpeaaRows6
namespace Go.Proofs.Ytojngbobecdpeaa
open Go.RowKit Go.ChangeShapes at_ pm

def Good (n : Nat) (l : List Int) : Prop := Inc l ∧ l.length ≤ n
theorem Good.both {n m : Nat} {a b : List Int} (h : Good n a) (_ : Good m b) : Good n (both a b) := ⟨inc_both h.1, Nat.le_trans (both_le _ _) h.2⟩
theorem Good.minus {n m : Nat} {a b : List Int} (h : Good n a) (_ : Good m b) : Good n (minus a b) := ⟨inc_minus h.1, Nat.le_trans (minus_le _ _) h.2⟩
theorem Good.any {n m : Nat} {a b : List Int} (h : Good n a) (g : Good m b) : Good (n + m) (any a b) := ⟨inc_any' h.1 g.1, Nat.le_trans (any_le' _ _) (by have := h.2; have := g.2; omega)⟩
theorem good_nil : Good 0 [] := ⟨inc_nil, Nat.le_refl _⟩

def Env (w W : World) (L : List (Value × List Int)) : Prop := Below w.heap.size w W ∧ ∀ p ∈ L, At W W.heap.size p.1 p.2
theorem Env.step {w W W' : World} {L : List (Value × List Int)} (E : Env w W L) (hb : Below W.heap.size W W') : Env w W' L :=
  ⟨E.1.trans (hb.mono E.1.size), fun p hp => ((E.2 p hp).below hb).mono hb.size⟩
theorem Env.push {w W W' : World} {L : List (Value × List Int)} (E : Env w W L) {v : Value} {l : List Int} {t : TypeId} (ho : W'.ownsRow W.heap.size t 1 v l.length (i64s l)) (hb : Below W.heap.size W W') : Env w W' ((v, l) :: L) := by
  refine ⟨E.1.trans (hb.mono E.1.size), fun p hp => ?_⟩
  rcases List.mem_cons.1 hp with rfl | hp
  · exact own ho
  · exact ((E.2 p hp).below hb).mono hb.size
theorem at_lit (W : World) (zs : List Int) (arr : Array Value) (t : TypeId) (harr : arr.toList = i64s zs) (hl : zs.length ≤ maxLen) : At (W.alloc (.cells arr t)) (W.alloc (.cells arr t)).heap.size (.slice (some ⟨W.heap.size, 0, none⟩) zs.length zs.length) zs := by
  refine ⟨_, _, rfl, ⟨(fun e => by cases e), Nat.le_refl _⟩, hl, fun _ => ⟨_, _, rfl, by simp, fun j hj => ?_⟩⟩
  rw [Nat.zero_add, World.cell?_alloc_at _ _ _ _ rfl, ← Array.getElem?_toList, harr]
  simp [i64s, List.getD, hj]
theorem Env.lit {w W : World} {L : List (Value × List Int)} (E : Env w W L) (zs : List Int) (arr : Array Value) (t : TypeId) (N : Nat) (hN : W.heap.size = N) (harr : arr.toList = i64s zs) (hl : zs.length ≤ maxLen) :
    Env w (W.alloc (.cells arr t)) ((.slice (some ⟨N, 0, none⟩) zs.length zs.length, zs) :: L) := by
  subst hN
  have hb : Below W.heap.size W (W.alloc (.cells arr t)) := (Below.refl _ _).alloc (Nat.le_refl _) _
  refine ⟨E.1.trans (hb.mono E.1.size), fun p hp => ?_⟩
  rcases List.mem_cons.1 hp with rfl | hp
  · exact at_lit W zs arr t harr hl
  · exact ((E.2 p hp).below hb).mono hb.size
theorem Env.alloc {w W : World} {L : List (Value × List Int)} (E : Env w W L) (arr : Array Value) (t : TypeId) : Env w (W.alloc (.cells arr t)) L := E.step ((Below.refl _ _).alloc (Nat.le_refl _) _)
theorem Env.form {w W : World} {L : List (Value × List Int)} (E : Env w W L) {v : Value} {l : List Int} (h : (v, l) ∈ L) : ∃ ao n c, v = .slice ao n c ∧ n = l.length := by
  obtain ⟨ao, c, e, _⟩ := E.2 _ h
  exact ⟨ao, _, c, e, rfl⟩
theorem lrows_lit {w W : World} {L : List (Value × List Int)} (E : Env w W L) (vs : List Value) (ls : List (List Int)) (arr : Array Value) (t : TypeId) (harr : arr.toList = vs) (hvl : vs.length = ls.length) (hl : ls.length ≤ maxLen)
    (hin : ∀ j (h : j < ls.length), (vs[j]'(by omega), ls[j]) ∈ L) : LRows (W.alloc (.cells arr t)) (W.alloc (.cells arr t)).heap.size (.slice (some ⟨W.heap.size, 0, none⟩) ls.length ls.length) ls := by
  refine ⟨_, _, rfl, ⟨(fun e => by cases e), Nat.le_refl _⟩, hl, fun _ => ⟨_, _, rfl, by simp, fun j hj => ⟨vs[j]'(by omega), ?_, ?_⟩⟩⟩
  · rw [Nat.zero_add, World.cell?_alloc_at _ _ _ _ rfl, ← Array.getElem?_toList, harr]
    exact List.getElem?_eq_getElem _
  · have h := E.2 _ (hin j hj)
    have e : ls.getD j [] = ls[j] := by simp [List.getD, hj]
    rw [e]
    exact (h.below ((Below.refl _ _).alloc (Nat.le_refl _) _)).mono (by simp)

theorem cboth {w W : World} {L : List (Value × List Int)} (E : Env w W L) {va vb : Value} {a b : List Int} (h1 : (va, a) ∈ L) (h2 : (vb, b) ∈ L) {n m : Nat} (g1 : Good n a) (g2 : Good m b) (hn : n ≤ 100000 := by decide) (hm : m ≤ 100000 := by decide) :
    Calls Try.prog 43 #[va, vb] W (fun e W' => ∃ v, e = .returned v ∧ Env w W' ((v, both a b) :: L)) :=
  (both_any a b va vb W (E.2 _ h1) (E.2 _ h2) g1.1 g2.1 (Nat.le_trans g1.2 hn) (Nat.le_trans g2.2 hm)).mono fun _ _ ⟨v, he, ho, hb⟩ => ⟨v, he, E.push ho hb⟩
theorem cany {w W : World} {L : List (Value × List Int)} (E : Env w W L) {va vb : Value} {a b : List Int} (h1 : (va, a) ∈ L) (h2 : (vb, b) ∈ L) {n m : Nat} (g1 : Good n a) (g2 : Good m b) (hn : n ≤ 100000 := by decide) (hm : m ≤ 100000 := by decide) :
    Calls Try.prog 44 #[va, vb] W (fun e W' => ∃ v, e = .returned v ∧ Env w W' ((v, any a b) :: L)) :=
  (any_any a b va vb W (E.2 _ h1) (E.2 _ h2) g1.1 g2.1 (Nat.le_trans g1.2 hn) (Nat.le_trans g2.2 hm)).mono fun _ _ ⟨v, he, ho, hb⟩ => ⟨v, he, E.push ho hb⟩
theorem cminus {w W : World} {L : List (Value × List Int)} (E : Env w W L) {va vb : Value} {a b : List Int} (h1 : (va, a) ∈ L) (h2 : (vb, b) ∈ L) {n m : Nat} (g1 : Good n a) (g2 : Good m b) (hn : n ≤ 100000 := by decide) (hm : m ≤ 100000 := by decide) :
    Calls Try.prog 32 #[va, vb] W (fun e W' => ∃ v, e = .returned v ∧ Env w W' ((v, minus a b) :: L)) :=
  (minus_any a b va vb W (E.2 _ h1) (E.2 _ h2) g1.1 g2.1 (Nat.le_trans g1.2 hn) (Nat.le_trans g2.2 hm)).mono fun _ _ ⟨v, he, ho, hb⟩ => ⟨v, he, E.push ho hb⟩
theorem cints {w W : World} {L : List (Value × List Int)} (E : Env w W L) {va vb : Value} {a b : List Int} (h1 : (va, a) ∈ L) (h2 : (vb, b) ∈ L) (h : a = b) :
    Calls Try.prog 19 #[va, vb] W (fun e W' => e = .returned (.bool true) ∧ Env w W' L) :=
  (ints_any a b va vb W (E.2 _ h1) (E.2 _ h2)).mono fun _ _ ⟨he, hb⟩ => ⟨he.trans (by rw [decide_eq_true h]), E.step hb⟩
theorem cpright {w W : World} {L : List (Value × List Int)} (E : Env w W L) {va : Value} {a : List Int} (h1 : (va, a) ∈ L) :
    Calls Try.prog 26 #[va] W (fun e W' => e = .returned (.bool (rightOf a)) ∧ Env w W' L) :=
  (pright_any a va W (E.2 _ h1)).mono fun _ _ ⟨he, hb⟩ => ⟨he, E.step hb⟩
theorem chas {w W : World} {L : List (Value × List Int)} (E : Env w W L) {va : Value} {a : List Int} (h1 : (va, a) ∈ L) {n : Nat} (g1 : Good n a) (x : Int) (hn : n ≤ 100000 := by decide) :
    Calls Try.prog 54 #[va, .int .i64 x] W (fun e W' => e = .returned (.bool (has a x)) ∧ Env w W' L) :=
  (phas_any a x va W (E.2 _ h1) g1.1 (Nat.le_trans g1.2 hn)).mono fun _ _ ⟨he, hb⟩ => ⟨he, E.step hb⟩
end Go.Proofs.Ytojngbobecdpeaa
