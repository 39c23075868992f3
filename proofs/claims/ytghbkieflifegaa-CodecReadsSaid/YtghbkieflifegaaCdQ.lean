/- codec: the document's reader: what its state says; boxes of the call's own. -/
import Derived.Test.YtghbkieflifegaaCdRt
import Derived.Test.YtghbkieflifegaaRGetText
namespace Go.Proofs.Ytghbkieflifegaa
open Go.RowKit Go.ChangeShapes cl
/-- a reader that is over reads no more -/
def onR {α : Type} (c : Nat) (r : cd.Rs α) : cd.Rs α := if c = 0 then r else .error c
/-- what is read, where the reader stands, and its code -/
def Qd {α : Type} (s : ByteArray) (r : cd.Rs α) (x : α) (b k : Nat) : Prop := match r with
  | .ok (y, b') => k = 0 ∧ b = b' ∧ x = y ∧ b ≤ s.size
  | .error j => k = j ∧ 1 ≤ j
theorem onR_zero {α : Type} (r : cd.Rs α) : onR 0 r = r := if_pos rfl
theorem onR_err {α : Type} {c : Nat} (r : cd.Rs α) (h : 1 ≤ c) : onR c r = .error c := if_neg (by omega)
theorem Qd.ok {α : Type} {s : ByteArray} {r : cd.Rs α} {x : α} {b : Nat} (h : r = .ok (x, b)) (hb : b ≤ s.size) : Qd s r x b 0 := by subst h; exact ⟨rfl, rfl, rfl, hb⟩
theorem Qd.bad {α : Type} {s : ByteArray} {r : cd.Rs α} {x : α} {b k : Nat} (h : r = .error k) (hk : 1 ≤ k) : Qd s r x b k := by subst h; exact ⟨rfl, hk⟩
theorem Qd.inv {α : Type} {s : ByteArray} {r : cd.Rs α} {x : α} {b k : Nat} (h : Qd s r x b k) : (k = 0 ∧ r = .ok (x, b) ∧ b ≤ s.size) ∨ (1 ≤ k ∧ r = .error k) := by
  cases r with
  | ok p => obtain ⟨h0, h1, h2, h3⟩ := h; exact Or.inl ⟨h0, by rw [h1, h2], h3⟩
  | error j => obtain ⟨h0, h1⟩ := h; subst h0; exact Or.inr ⟨h1, rfl⟩
theorem Qd.seq {α β : Type} {s : ByteArray} {X : cd.Rs α} {f : α → Nat → cd.Rs β} {x : α} {y : β} {c b k b' k' : Nat} (h : Qd s (onR c X) x b k) (h2 : Qd s (onR k (f x b)) y b' k') : Qd s (onR c (cd.seqR X f)) y b' k' := by
  by_cases hc : c = 0
  · subst hc
    rw [onR_zero] at h ⊢
    rcases h.inv with ⟨rfl, hx, _⟩ | ⟨hk, hx⟩
    · rw [onR_zero] at h2
      rw [cd.seqR_ok hx]; exact h2
    · rw [onR_err _ hk] at h2
      obtain ⟨rfl, _⟩ := h2
      exact Qd.bad (cd.seqR_err hx) hk
  · have h1 : 1 ≤ c := by omega
    rw [onR_err _ h1] at h ⊢
    obtain ⟨rfl, _⟩ := h
    rw [onR_err _ h1] at h2
    obtain ⟨rfl, _⟩ := h2
    exact ⟨rfl, h1⟩
theorem Qd.map {α β : Type} {s : ByteArray} {X : cd.Rs α} {g : α → β} {x : α} {c b k : Nat} (h : Qd s (onR c X) x b k) : Qd s (onR c (cd.seqR X fun x a => .ok (g x, a))) (g x) b k := by
  refine Qd.seq h ?_
  rcases h.inv with ⟨rfl, _, hb⟩ | ⟨hk, _⟩
  · exact Qd.ok rfl hb
  · exact Qd.bad (onR_err _ hk) hk
/-- a list's length -/
def sizR (L : List Nat) (a : Nat) : cd.Rs Nat := cd.seqR (cd.numR L a) fun n a => if 4000 < n then .error 4 else .ok (n, a)
theorem lst_siz {α : Type} (L : List Nat) (one : Nat → cd.Rs α) (a : Nat) : cd.lstR L one a = cd.seqR (sizR L a) fun n a => cd.repR one n a := by
  unfold cd.lstR sizR
  cases h : cd.numR L a with
  | error e => rfl
  | ok p =>
    show (if 4000 < p.1 then _ else _) = cd.seqR (if 4000 < p.1 then _ else _) _
    by_cases h4 : 4000 < p.1
    · rw [if_pos h4, if_pos h4]; rfl
    · rw [if_neg h4, if_neg h4]; rfl
theorem Qd.rep0 {α : Type} {s : ByteArray} {one : Nat → cd.Rs α} {b k : Nat} (h : k = 0 → b ≤ s.size) : Qd s (onR k (cd.repR one 0 b)) [] b k := by
  by_cases hk : k = 0
  · subst hk; exact Qd.ok rfl (h rfl)
  · exact Qd.bad (onR_err _ (by omega)) (by omega)
theorem Qd.rep1 {α : Type} {s : ByteArray} {one : Nat → cd.Rs α} {i b1 k1 b b' k' : Nat} {l : List α} {x : α} (h : Qd s (onR k1 (cd.repR one i b1)) l b 0) (h2 : Qd s (onR 0 (one b)) x b' k') : Qd s (onR k1 (cd.repR one (i + 1) b1)) (l ++ [x]) b' k' := by
  rw [cd.repR_add]
  refine Qd.seq h ?_
  rw [onR_zero]
  show Qd s (cd.seqR (cd.seqR (one b) fun x a => cd.seqR (.ok ([], a)) fun l a => .ok (x :: l, a)) fun r a => .ok (l ++ r, a)) _ _ _
  rw [onR_zero] at h2
  rcases h2.inv with ⟨rfl, hx, hb⟩ | ⟨hk, hx⟩
  · rw [hx]; exact Qd.ok rfl hb
  · rw [hx]; exact Qd.bad rfl hk
theorem Qd.repE {α : Type} {s : ByteArray} {one : Nat → cd.Rs α} {i n b1 k1 b k : Nat} {l : List α} (h : Qd s (onR k1 (cd.repR one i b1)) l b k) (hk : k ≠ 0) (hi : i ≤ n) : Qd s (onR k1 (cd.repR one n b1)) l b k := by
  by_cases h1 : k1 = 0
  · subst h1
    rw [onR_zero] at h ⊢
    rcases h.inv with ⟨h0, _⟩ | ⟨h0, hx⟩
    · exact absurd h0 hk
    · obtain ⟨m, rfl⟩ : ∃ m, n = i + m := ⟨n - i, by omega⟩
      refine Qd.bad ?_ h0
      rw [cd.repR_add]; exact cd.seqR_err hx
  · rw [onR_err _ (by omega)] at h ⊢
    exact h
theorem Qd.len {α : Type} {s : ByteArray} {one : Nat → cd.Rs α} {i b1 k1 b : Nat} {l : List α} (h : Qd s (onR k1 (cd.repR one i b1)) l b 0) : l.length = i := by
  rcases h.inv with ⟨_, hx, _⟩ | ⟨h0, _⟩
  · by_cases h1 : k1 = 0
    · subst h1; rw [onR_zero] at hx; exact cd.repR_len hx
    · rw [onR_err _ (by omega)] at hx; cases hx
  · omega
/-- what a function of the reader answers -/
def QA {α : Type} (s : ByteArray) (r : cd.Rs α) (E : World → Value → α → Prop) (w : World) (e : Ending) (w' : World) : Prop :=
  ∃ (b k : Nat) (v : Value) (x : α), e = .returned (.tuple #[.agg #[.string s, .int .i64 (b : Int), .int .i64 (k : Int)], v]) ∧ E w' v x ∧ Qd s r x b k ∧ Below w.heap.size w w'
/-- boxes of the call's own -/
def Bxs (w W : World) (l : List (Nat × TypeId × List Value)) : Prop := Below w.heap.size w W ∧ (∀ x ∈ l, w.heap.size ≤ x.1 ∧ W.heap[x.1]? = some (.cells x.2.2.toArray x.2.1 (0, 0))) ∧ l.Pairwise (fun x y => x.1 ≠ y.1)
theorem Bxs.nil (w : World) : Bxs w w [] := ⟨Below.refl _ _, fun _ h => (by cases h), List.Pairwise.nil⟩
theorem Bxs.add {w W : World} {l : List (Nat × TypeId × List Value)} (h : Bxs w W l) (T : TypeId) (cs : List Value) {q : Nat} (hq : q = W.heap.size) : Bxs w (W.alloc (.cells cs.toArray T)) ((q, T, cs) :: l) := by
  subst hq
  have b1 : Below W.heap.size W (W.alloc (.cells cs.toArray T)) := below1
  refine ⟨h.1.trans (b1.mono h.1.size), fun x hx => ?_, List.Pairwise.cons (fun y hy => ?_) h.2.2⟩
  · rcases List.mem_cons.1 hx with rfl | hx
    · exact ⟨h.1.size, heap_alloc_new W _⟩
    · exact ⟨(h.2.1 x hx).1, (b1.block _ (lt_of_block (h.2.1 x hx).2)).trans (h.2.1 x hx).2⟩
  · have := lt_of_block (h.2.1 y hy).2
    show W.heap.size ≠ y.1
    omega
theorem Bxs.call {w W W' : World} {l : List (Nat × TypeId × List Value)} (h : Bxs w W l) (hb : Below W.heap.size W W') : Bxs w W' l :=
  ⟨h.1.trans (hb.mono h.1.size), fun x hx => ⟨(h.2.1 x hx).1, (hb.block _ (lt_of_block (h.2.1 x hx).2)).trans (h.2.1 x hx).2⟩, h.2.2⟩
/-- .. behind a call or an append that may have turned one's own blocks of a type -/
theorem Bxs.kt {w W W' : World} {T : TypeId} {l : List (Nat × TypeId × List Value)} (h : Bxs w W l) (hk : Kt T W W') (hb : Below w.heap.size w W') (hT : ∀ x ∈ l, x.2.1 ≠ T) : Bxs w W' l :=
  ⟨hb, fun x hx => ⟨(h.2.1 x hx).1, (hk.keep _ (lt_of_block (h.2.1 x hx).2) (fun cur fr e => by
    rw [(h.2.1 x hx).2] at e
    simp only [Option.some.injEq, Obj.cells.injEq] at e
    exact hT x hx e.2.1)).trans (h.2.1 x hx).2⟩, h.2.2⟩
theorem Bxs.set {w W : World} (l1 l2 : List (Nat × TypeId × List Value)) {q : Nat} {T : TypeId} {cs : List Value} (h : Bxs w W (l1 ++ (q, T, cs) :: l2)) (i : Nat) (u : Value) : Bxs w (W.setCell ⟨q, i, none⟩ u) (l1 ++ (q, T, cs.set i u) :: l2) := by
  obtain ⟨h1, h2, h3⟩ := h
  have hq := h2 (q, T, cs) (by simp)
  have hp := List.pairwise_append.1 h3
  have hp2 := List.pairwise_cons.1 hp.2.1
  refine ⟨h1.setCell hq.1 u, fun x hx => ?_, ?_⟩
  · rcases List.mem_append.1 hx with hx | hx
    · refine ⟨(h2 x (List.mem_append_left _ hx)).1, (Below.heap_setCell _ _ _ _ ?_).trans (h2 x (List.mem_append_left _ hx)).2⟩
      exact hp.2.2 x hx (q, T, cs) (List.mem_cons_self ..)
    · rcases List.mem_cons.1 hx with rfl | hx
      · refine ⟨hq.1, ?_⟩
        have := heap_setCell_same W q i _ _ u hq.2
        rwa [List.setIfInBounds_toArray] at this
      · refine ⟨(h2 x (List.mem_append_right _ (List.mem_cons_of_mem _ hx))).1, (Below.heap_setCell _ _ _ _ ?_).trans (h2 x (List.mem_append_right _ (List.mem_cons_of_mem _ hx))).2⟩
        exact (hp2.1 x hx).symm
  · refine List.pairwise_append.2 ⟨hp.1, List.pairwise_cons.2 ⟨fun y hy => hp2.1 y hy, hp2.2⟩, fun a ha b hb => ?_⟩
    rcases List.mem_cons.1 hb with rfl | hb
    · exact hp.2.2 a ha (q, T, cs) (List.mem_cons_self ..)
    · exact hp.2.2 a ha b (List.mem_cons_of_mem _ hb)
theorem Bxs.at {w W : World} {l : List (Nat × TypeId × List Value)} (h : Bxs w W l) {x : Nat × TypeId × List Value} (i : Nat) (hx : l[i]? = some x) : W.heap[x.1]? = some (.cells x.2.2.toArray x.2.1 (0, 0)) := (h.2.1 x (List.mem_of_getElem? hx)).2
theorem Bxs.set0 {w W : World} {l : List (Nat × TypeId × List Value)} {q : Nat} {T : TypeId} {cs : List Value} (h : Bxs w W ((q, T, cs) :: l)) (i : Nat) (u : Value) : Bxs w (W.setCell ⟨q, i, none⟩ u) ((q, T, cs.set i u) :: l) := Bxs.set [] l h i u
theorem Bxs.set1 {w W : World} {l : List (Nat × TypeId × List Value)} {x0 : Nat × TypeId × List Value} {q : Nat} {T : TypeId} {cs : List Value} (h : Bxs w W (x0 :: (q, T, cs) :: l)) (i : Nat) (u : Value) : Bxs w (W.setCell ⟨q, i, none⟩ u) (x0 :: (q, T, cs.set i u) :: l) := Bxs.set [x0] l h i u
theorem Bxs.set2 {w W : World} {l : List (Nat × TypeId × List Value)} {x0 x1 : Nat × TypeId × List Value} {q : Nat} {T : TypeId} {cs : List Value} (h : Bxs w W (x0 :: x1 :: (q, T, cs) :: l)) (i : Nat) (u : Value) : Bxs w (W.setCell ⟨q, i, none⟩ u) (x0 :: x1 :: (q, T, cs.set i u) :: l) := Bxs.set [x0, x1] l h i u
theorem Bxs.set3 {w W : World} {l : List (Nat × TypeId × List Value)} {x0 x1 x2 : Nat × TypeId × List Value} {q : Nat} {T : TypeId} {cs : List Value} (h : Bxs w W (x0 :: x1 :: x2 :: (q, T, cs) :: l)) (i : Nat) (u : Value) : Bxs w (W.setCell ⟨q, i, none⟩ u) (x0 :: x1 :: x2 :: (q, T, cs.set i u) :: l) := Bxs.set [x0, x1, x2] l h i u
theorem app1gB {P : Program} {w : World} {ops : Array Oper} {rest : List Oper} {o : Oper} {a : Act} {Q : Exit → Act → World → Prop} {cs : Array Value} {e' : TypeId} (B : Nat) (hB : B = w.heap.size)
    (s x : Operand) (t : TypeId) (hgd : o.guard = none)
    (ho : o.op = .call { callee := .builtin .append, args := #[s, x], argTypes := #[t, t] })
    (base : Nat) {e : TypeId} {z : Value} {size bytes : Nat} (ht : P.underlying t = some (.slice e)) (hi : (P.info? e).map (fun i => (i.zero, i.size, i.bytes)) = some (some z, size, bytes))
    (hzs : z.cells.size = size) (hsz : 0 < size) (hb1 : 0 < bytes)
    {v : Value} {n : Nat} {xs : List Value} {c : Nat} (hown : w.ownsRow base e size v n xs) (hs : a.eval s = v) (hx : a.eval x = .slice (some ⟨B, 0, none⟩) 1 c)
    (hcs : cs.size = size) (h1 : ∀ u ∈ cs.toList, u.oneCell' = true) (hbytes : (n + 1) * bytes ≤ 140737488355328) (hbase : base ≤ w.heap.size)
    (h : ∀ v' w', w'.ownsRow base e size v' (n + 1) (xs ++ cs.toList) → (w.alloc (.cells cs e')).grownBy w' v.ownBlock → wpList P ops Q rest (a.put o.dst v') w') :
    wpList P ops Q (o :: rest) a (w.alloc (.cells cs e')) := by
  subst hB
  exact app1g s x t hgd ho base ht hi hzs hsz hb1 hown hs hx hcs h1 hbytes hbase h
theorem Bxs.tail {w W : World} {l : List (Nat × TypeId × List Value)} {x : Nat × TypeId × List Value} (h : Bxs w W (x :: l)) : Bxs w W l :=
  ⟨h.1, fun y hy => h.2.1 y (List.mem_cons_of_mem _ hy), (List.pairwise_cons.1 h.2.2).2⟩
theorem app_below {X w3 : World} {B k n : Nat} {T : TypeId} {v : Value} {xs : List Value} {o : Obj} (ho : X.ownsRow B T k v n xs) (hB : B ≤ X.heap.size) (hg : (X.alloc o).grownBy w3 v.ownBlock) : Below B X w3 :=
  ((below1 (w := X) (o := o)).mono hB).trans (grown_below (ho.alloc o) (Nat.le_trans hB (by rw [World.size_alloc]; omega)) hg)
theorem app_kt {X w3 : World} {B k n : Nat} {T : TypeId} {v : Value} {xs : List Value} {o : Obj} (ho : X.ownsRow B T k v n xs) (hg : (X.alloc o).grownBy w3 v.ownBlock) : Kt T X w3 :=
  (Kt.of_below (below1 (w := X) (o := o))).trans (Kt.append (ho.alloc o) hg)
end Go.Proofs.Ytghbkieflifegaa
