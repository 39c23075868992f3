/- what lies in memory of the call's own, whatever becomes of the rest (nothing of the program). -/
import Derived.Test.YtbccejlemhgioaaRowsAt
import Derived.Test.YtbccejlemhgioaaApp
namespace Go.Proofs.Ytbccejlemhgioaa
open Go Go.RowKit Go.ChangeShapes cl
theorem below1 {w : World} {o : Obj} : Below w.heap.size w (w.alloc o) := (Below.refl _ _).alloc (Nat.le_refl _) _
theorem boxc {w : World} {q : Nat} {cs : Array Value} {t : TypeId} {fr : Nat × Nat} (h : w.heap[q]? = some (.cells cs t fr)) (i : Nat) (u : Value) (hu : cs[i]? = some u) : w.cell? ⟨q, i, none⟩ = some u := by simp [World.cell?, h, hu]
theorem boxf {w : World} {q : Nat} {cs : Array Value} {t : TypeId} (h : w.heap[q]? = some (.cells cs t (0, 0))) (i : Nat) : w.frozen? ⟨q, i, none⟩ = false := by simp [World.frozen?, h]
/-- P holds of every later world that keeps the blocks from B on, but for one -/
def FreA (B : Nat) (av : Option Nat) (W : World) (P : World → Prop) : Prop :=
  ∀ W', W.heap.size ≤ W'.heap.size → (∀ j, B ≤ j → j < W.heap.size → some j ≠ av → W'.heap[j]? = W.heap[j]?) → P W'
def Fre (B : Nat) (W : World) (P : World → Prop) : Prop := FreA B none W P
section
variable {B B' : Nat} {av av' : Option Nat} {W W' : World} {P P' : World → Prop}
theorem FreA.at (h : FreA B av W P) : P W := h W (Nat.le_refl _) (fun _ _ _ _ => rfl)
theorem FreA.low (h : FreA B av W P) (hB : B' ≤ B) : FreA B' av W P := fun W' h1 h2 => h W' h1 (fun j hj => h2 j (Nat.le_trans hB hj))
theorem FreA.imp (h : FreA B av W P) (hp : ∀ w, P w → P' w) : FreA B av W P' := fun W' h1 h2 => hp _ (h W' h1 h2)
/-- behind a step that keeps what lay from B on (but for the block); a block may be another one then, if it is new -/
theorem FreA.step (h : FreA B av W P) (hs : W.heap.size ≤ W'.heap.size) (hk : ∀ j, B ≤ j → j < W.heap.size → some j ≠ av → W'.heap[j]? = W.heap[j]?) (hav : av' = av ∨ ∀ b, av' = some b → W.heap.size ≤ b) : FreA B av' W' P := by
  intro W2 h1 h2
  refine h W2 (Nat.le_trans hs h1) (fun j hB hj hn => (h2 j hB (Nat.lt_of_lt_of_le hj hs) ?_).trans (hk j hB hj hn))
  rcases hav with rfl | hav
  · exact hn
  · intro e
    have := hav j e.symm
    omega
theorem FreA.next (h : FreA B av W P) (hb : Below W.heap.size W W') : FreA B av W' P := h.step hb.size (fun j _ hj _ => hb.block j hj) (Or.inl rfl)
theorem FreA.grown (h : FreA B av W P) (hg : W.grownBy W' av) (hav : av' = av ∨ ∀ b, av' = some b → W.heap.size ≤ b) : FreA B av' W' P := h.step hg.size (fun j _ hj hn => hg.block j hj hn) hav
/-- what is kept whatever the block: the block lies elsewhere -/
theorem FreA.off (h : FreA B none W P) (hav : ∀ b, av = some b → b < B ∨ W.heap.size ≤ b) : FreA B av W P := by
  intro W2 h1 h2
  refine h W2 h1 (fun j hB hj _ => h2 j hB hj ?_)
  intro e
  rcases hav j e.symm with h | h <;> omega
theorem FreA.none' (h : FreA B av W P) : FreA B none W P := fun W2 h1 h2 => h W2 h1 (fun j hB hj _ => h2 j hB hj (by simp))
end
/-- a row of the call's own is kept so -/
theorem own_fre {B k n : Nat} {T : TypeId} {v : Value} {xs : List Value} {W W' : World} (h : W.ownsRow B T k v n xs) (hk : ∀ j, B ≤ j → j < W.heap.size → W'.heap[j]? = W.heap[j]?) : W'.ownsRow B T k v n xs := by
  refine ⟨h.1, ?_⟩
  rcases h.2 with h | ⟨g, cap, cur, hv, hb, hg, r⟩
  · exact Or.inl h
  · exact Or.inr ⟨g, cap, cur, hv, hb, by rw [hk g hb (lt_of_block hg)]; exact hg, r⟩
/-- rows whose elements each are kept but for the row's own block -/
theorem RowsAt.fre {α : Type} {B k n : Nat} {T : TypeId} {R : Rel α} {v : Value} {cs : List (List Value)} {l : List α} {W : World} (h0 : cs.length = l.length) (hn : n = l.length)
    (h1 : ∀ (j : Nat) (c : List Value) (x : α), cs[j]? = some c → l[j]? = some x → FreA B v.ownBlock W (fun w => c.length = k ∧ R w w.heap.size c x)) (ho : W.ownsRow B T k v n cs.flatten) : Fre B W (fun w => RowsAt k R w w.heap.size v l) := by
  intro W' hs hk
  refine RowsAt.own (e := T) (base := B) (n := n) hn h0 (fun j c x hc hx => h1 j c x hc hx W' hs (fun j hB hj _ => hk j hB hj (by simp))) (own_fre ho (fun j hB hj => hk j hB hj (by simp)))
/-- one more behind -/
theorem snoc_fre {α : Type} {Q : List Value → α → Prop} {cs : List (List Value)} {L : List α} {c : List Value} {x : α} (h0 : cs.length = L.length) (h1 : ∀ (j : Nat) (c : List Value) (x : α), cs[j]? = some c → L[j]? = some x → Q c x) (hx : Q c x) :
    ∀ (j : Nat) (c' : List Value) (x' : α), (cs ++ [c])[j]? = some c' → (L ++ [x])[j]? = some x' → Q c' x' := by
  intro j c' x' hc' hx'
  rcases Nat.lt_or_ge j cs.length with h | h
  · rw [List.getElem?_append_left h] at hc'
    rw [List.getElem?_append_left (by omega)] at hx'
    exact h1 j c' x' hc' hx'
  · have hj : j = cs.length := by
      have := (List.getElem?_eq_some_iff.1 hc').1
      simp at this; omega
    subst hj
    rw [List.getElem?_append_right (Nat.le_refl _), Nat.sub_self] at hc'
    rw [List.getElem?_append_right (by omega), h0, Nat.sub_self] at hx'
    cases hc'
    cases hx'
    exact hx
/-- append to a row of the call's own, with what is known of the block that it then lies in -/
theorem run_append_blk {P : Program} (w : World) (base : Nat) (t ty e : TypeId) (i : TypeInfo) (z : Value) (size bytes : Nat) (ht : P.underlying t = some (.slice e)) (hi : P.info? e = some i) (hz : i.zero = some z)
    (hsize : i.size = size) (hby : i.bytes = bytes) (hzs : z.cells.size = size) (hsz : 0 < size)
    (v : Value) (n : Nat) (xs : List Value) (hown : w.ownsRow base e size v n xs)
    (a : Addr) (m c : Nat) (news : List Value) (hl : news.length = m * size) (hnews : ∀ j u, news[j]? = some u → w.cell? (a.add j) = some u) (h1 : ∀ u ∈ news, u.oneCell' = true)
    (h63 : n + m ≤ maxLen) (hbytes : (n + m) * bytes ≤ 140737488355328) (hbase : base ≤ w.heap.size) :
    ∃ v' w', (Builtin.append_ #[t, t] ty #[v, .slice (some a) m c]).run P w = .ok v' w' ∧ w'.ownsRow base e size v' (n + m) (xs ++ news) ∧ w.grownBy w' v.ownBlock ∧
      (v'.ownBlock = v.ownBlock ∨ ∀ b, v'.ownBlock = some b → w.heap.size ≤ b) := by
  obtain ⟨v', w', hr, h2, h3, h4⟩ := run_append_own (P := P) w base t ty e i z size bytes ht hi hz hsize hby hzs hsz v n xs hown a m c news hl hnews h1 h63 hbytes hbase
  refine ⟨v', w', hr, h2, h3, ?_⟩
  rcases hown.2 with ⟨rfl, rfl⟩ | ⟨g, cap, cur, rfl, hbg, hg, hnc, hcm, hcs, htake⟩
  · have hx : xs = [] := List.eq_nil_of_length_eq_zero (by simpa using hown.1)
    subst hx
    obtain ⟨v2, w2, hr2, g2, _, _⟩ := run_append_own (P := P) w w.heap.size t ty e i z size bytes ht hi hz hsize hby hzs hsz (.slice none 0 0) 0 [] (World.ownsRow_nil _ _ _ _) a m c news hl hnews h1 h63 hbytes (Nat.le_refl _)
    rw [hr] at hr2
    simp only [Result.ok.injEq] at hr2
    obtain ⟨rfl, rfl⟩ := hr2
    refine Or.inr (fun b hb => ?_)
    rcases g2.2 with ⟨rfl, _⟩ | ⟨g, cap, cur, rfl, hbg, _⟩
    · simp [Value.ownBlock] at hb
    · simp only [Value.ownBlock, Option.some.injEq] at hb
      omega
  · subst hsize
    subst hby
    by_cases hroom : n + m ≤ cap
    · have hfit : n * i.size + news.length ≤ cur.size := by rw [hl, hcs, ← Nat.add_mul]; exact Nat.mul_le_mul_right _ hroom
      have hr2 := run_append_room (P := P) w t ty e i ht hi g n cap cur hg a m c news hl hnews h1 hroom hfit
      rw [hr] at hr2
      simp only [Result.ok.injEq] at hr2
      obtain ⟨rfl, rfl⟩ := hr2
      exact Or.inl rfl
    · have hsmall : n + m ≤ 9223372036854775807 := by simp only [maxLen] at h63; omega
      have holds : ∀ j u, xs[j]? = some u → w.cell? ((⟨g, 0, none⟩ : Addr).add j) = some u := hown.cells (g := g) rfl
      have hr2 := run_append_grow (P := P) w t ty e i z ht hi hz ⟨g, 0, none⟩ n cap xs hown.1 holds a m c news hl hnews (by omega) (by omega) (growslice_fits (by omega) hbytes)
      rw [hr] at hr2
      simp only [Result.ok.injEq] at hr2
      obtain ⟨rfl, rfl⟩ := hr2
      refine Or.inr (fun b hb => ?_)
      simp only [Value.ownBlock, Option.some.injEq] at hb
      omega
namespace kit
/-- app1g, with the block -/
theorem app1k {P : Program} {w : World} {ops : Array Oper} {rest : List Oper} {o : Oper} {a : Act} {Q : Exit → Act → World → Prop} {cs : Array Value} {e' : TypeId} (B : Nat) (hB : B = w.heap.size)
    (s x : Operand) (t : TypeId) (hgd : o.guard = none)
    (ho : o.op = .call { callee := .builtin .append, args := #[s, x], argTypes := #[t, t] })
    (base : Nat) {e : TypeId} {z : Value} {size bytes : Nat} (ht : P.underlying t = some (.slice e)) (hi : (P.info? e).map (fun i => (i.zero, i.size, i.bytes)) = some (some z, size, bytes))
    (hzs : z.cells.size = size) (hsz : 0 < size) (hb1 : 0 < bytes)
    {v : Value} {n : Nat} {xs : List Value} {c : Nat} (hown : w.ownsRow base e size v n xs) (hs : a.eval s = v) (hx : a.eval x = .slice (some ⟨B, 0, none⟩) 1 c)
    (hcs : cs.size = size) (h1 : ∀ u ∈ cs.toList, u.oneCell' = true) (hbytes : (n + 1) * bytes ≤ 140737488355328) (hbase : base ≤ w.heap.size)
    (h : ∀ v' w', w'.ownsRow base e size v' (n + 1) (xs ++ cs.toList) → (w.alloc (.cells cs e')).grownBy w' v.ownBlock → (v'.ownBlock = v.ownBlock ∨ ∀ b, v'.ownBlock = some b → (w.alloc (.cells cs e')).heap.size ≤ b) → wpList P ops Q rest (a.put o.dst v') w') :
    wpList P ops Q (o :: rest) a (w.alloc (.cells cs e')) := by
  subst hB
  obtain ⟨i, hi, hz, hsize, hby⟩ := info_parts hi
  have hle : n + 1 ≤ (n + 1) * bytes := Nat.le_mul_of_pos_right _ hb1
  refine wpList_plain hgd fun _ hK => ?_
  obtain ⟨v', w', hr, h2, h3, h4⟩ := run_append_blk (P := P) (w.alloc (.cells cs e')) base t o.type e i z size bytes ht hi hz hsize hby hzs hsz v n xs (hown.alloc _) ⟨w.heap.size, 0, none⟩ 1 c cs.toList (by simp [hcs]) (by
    intro j u hj
    rw [Array.getElem?_toList] at hj
    rw [Addr.add_lit, Nat.zero_add]
    exact boxc (heap_alloc_new w _) j u hj) h1 (by unfold maxLen; omega) hbytes (by simp; omega)
  unfold Oper.wp execOp
  simp only [ho, resolve, invoke, builtin, Sem.run_bind, Sem.run_pure, Result.andThen_ok, List.map_toArray, List.map_cons, List.map_nil, hs, hx, hr]
  refine hK _ _ (h v' w' h2 h3 h4)
end kit
end Go.Proofs.Ytbccejlemhgioaa
