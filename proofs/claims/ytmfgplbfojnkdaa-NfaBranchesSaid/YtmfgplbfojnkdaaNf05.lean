/- texts put together: NfLvg. -/
import Derived.Test.YtmfgplbfojnkdaaNf03
import Derived.Test.YtmfgplbfojnkdaaNf04
namespace Go.Proofs.Ytmfgplbfojnkdaa
open Go Go.RowKit Go.ChangeShapes cl rx
theorem grown_trans {w w1 w2 : World} {r : Option Nat} (h : w.grownBy w1 r) (h2 : w1.grownBy w2 r) : w.grownBy w2 r :=
 ⟨h2.os.trans h.os, h2.tape.trans h.tape, h2.output.trans h.output, Nat.le_trans h.size h2.size, fun k hk hr => (h2.block k (Nat.lt_of_lt_of_le hk h.size) hr).trans (h.block k hk hr)⟩
theorem grown_below' {w w' : World} {r : Option Nat} (h : Below w.heap.size w w') : w.grownBy w' r := ⟨h.os, h.tape, h.output, h.size, fun k hk _ => h.block k hk⟩
theorem appB {P : Program} {w : World} {o : Oper} {a : Act} {K : Act → World → Prop} {Q : Exit → Act → World → Prop} (s x : Operand) (t : TypeId)
  (ho : o.op = .call { callee := .builtin .append, args := #[s, x], argTypes := #[t, t] })
  (base : Nat) {e : TypeId} {z : Value} {size bytes : Nat} (ht : P.underlying t = some (.slice e)) (hi : (P.info? e).map (fun i => (i.zero, i.size, i.bytes)) = some (some z, size, bytes))
  (hzs : z.cells.size = size) (hsz : 0 < size) (hb1 : 0 < bytes) {v : Value} {n : Nat} {xs : List Value} (hown : w.ownsRow base e size v n xs) (hs : a.eval s = v)
  {ad : Addr} {c : Nat} {news : List Value} (hx : a.eval x = .slice (some ad) 1 c) (hl : news.length = 1 * size) (hnews : ∀ j u, news[j]? = some u → w.cell? (ad.add j) = some u) (h1 : ∀ u ∈ news, u.oneCell' = true)
  (hbytes : (n + 1) * bytes ≤ 140737488355328) (hbase : base ≤ w.heap.size)
  (h : ∀ v' w', w'.ownsRow base e size v' (n + 1) (xs ++ news) → w.grownBy w' v.ownBlock → (v'.ownBlock = v.ownBlock ∨ v'.ownBlock = some w.heap.size) → K (a.put o.dst v') w') : o.wp P a w K Q := by
 obtain ⟨i, hi', hz, hsize, hby⟩ := info_parts hi
 subst hsize
 subst hby
 have hle : n + 1 ≤ (n + 1) * i.bytes := Nat.le_mul_of_pos_right _ hb1
 obtain ⟨v', w', hr, h2, h3, _⟩ := run_append_own (P := P) w base t o.type e i z i.size i.bytes ht hi' hz rfl rfl hzs hsz v n xs hown ad 1 c news hl hnews h1 (by unfold maxLen; omega) hbytes hbase
 have hb : v'.ownBlock = v.ownBlock ∨ v'.ownBlock = some w.heap.size := by
  rcases hown.2 with ⟨rfl, rfl⟩ | ⟨g, cap, cur, rfl, hbg, hg, hnc, hcm, hcs, htake⟩
  ·
   have hr2 := run_append_nil (P := P) w t o.type e i z ht hi' hz ad 1 c news hl hnews (by omega) (by omega) (by simp only [Nat.zero_add] at hbytes; omega)
   rw [hr2] at hr
   cases hr
   exact Or.inr rfl
  ·
   by_cases hroom : n + 1 ≤ cap
   ·
    have hfit : n * i.size + news.length ≤ cur.size := by rw [hl, hcs, ← Nat.add_mul]; exact Nat.mul_le_mul_right _ hroom
    have hr2 := run_append_room (P := P) w t o.type e i ht hi' g n cap cur hg ad 1 c news hl hnews h1 hroom hfit
    rw [hr2] at hr
    cases hr
    exact Or.inl rfl
   ·
    have holds : ∀ j u, xs[j]? = some u → w.cell? ((⟨g, 0, none⟩ : Addr).add j) = some u := hown.cells (g := g) rfl
    have hr2 := run_append_grow (P := P) w t o.type e i z ht hi' hz ⟨g, 0, none⟩ n cap xs hown.1 holds ad 1 c news hl hnews (by omega) (by omega) (growslice_fits (by omega) hbytes)
    rw [hr2] at hr
    cases hr
    exact Or.inr rfl
 unfold Oper.wp execOp
 simp only [ho, resolve, invoke, builtin, Sem.run_bind, Sem.run_pure, Result.andThen_ok, List.map_toArray, List.map_cons, List.map_nil, hs, hx, hr]
 exact h v' w' h2 h3 hb
structure LvR (gl n : Nat) (rows : Nat → List nf.Ed) (vs : Nat → Value) (w : World) : Prop where
 box : w.heap[gl]? = some (.cells ((List.range n).map vs).toArray 30 (0, 0))
 own : ∀ i, i < n → w.ownsRow (gl + 1) 42 7 (vs i) (rows i).length (ecells (rows i))
 apart : ∀ i j, i < n → j < n → i ≠ j → (vs i).ownBlock = none ∨ (vs i).ownBlock ≠ (vs j).ownBlock
theorem LvR.next {gl n : Nat} {rows : Nat → List nf.Ed} {vs : Nat → Value} {w w' : World} (h : LvR gl n rows vs w) (hb : Below w.heap.size w w') : LvR gl n rows vs w' :=
 ⟨(hb.block _ (lt_of_block h.box)).trans h.box, fun i hi => own_stay (h.own i hi) hb, h.apart⟩
theorem LvR.cell {gl n : Nat} {rows : Nat → List nf.Ed} {vs : Nat → Value} {w : World} (h : LvR gl n rows vs w) {i : Nat} (hi : i < n) : w.cell? ⟨gl, i, none⟩ = some (vs i) := boxc h.box i _ (by simp [hi])
theorem LvR.lvg {gl n : Nat} {rows : Nat → List nf.Ed} {vs : Nat → Value} {w : World} (h : LvR gl n rows vs w) (hn : n ≤ maxLen) : Lvg w w.heap.size (.slice (some ⟨gl, 0, none⟩) n n) ((List.range n).map rows) := by
 refine ⟨(List.range n).map (fun i => [vs i]), by simp, fun j c x hc hx => ?_, ?_⟩
 ·
  have hj : j < n := by have := (List.getElem?_eq_some_iff.1 hx).1; simpa using this
  simp [hj] at hc hx
  subst hc
  subst hx
  exact ⟨rfl, vs j, rfl, Cells.own (h.own j hj)⟩
 ·
  have e : ((List.range n).map (fun i => [vs i])).flatten = (List.range n).map vs := by
   generalize List.range n = l
   induction l with
   | nil => rfl
   | cons a l ih => simp [ih]
  rw [e]
  refine ⟨by simp, some ⟨gl, 0, none⟩, n, by simp, ⟨(fun e => by cases e), by simp⟩, by simpa using hn, fun _ => ⟨gl, 0, rfl, lt_of_block h.box, fun i u hu => ?_⟩⟩
  rw [Nat.zero_add]
  exact boxc h.box i u (by simpa using hu)
def upd {α : Type} (f : Nat → α) (i : Nat) (x : α) : Nat → α := fun j => if j = i then x else f j
theorem upd_same {α : Type} (f : Nat → α) (i : Nat) (x : α) : upd f i x i = x := if_pos rfl
theorem upd_other {α : Type} (f : Nat → α) {i j : Nat} (x : α) (h : j ≠ i) : upd f i x j = f j := if_neg h
theorem LvR.put {gl n s : Nat} {rows : Nat → List nf.Ed} {vs : Nat → Value} {w w' : World} {e : nf.Ed} {v' : Value} (h : LvR gl n rows vs w) (hs : s < n) (hg : w.grownBy w' (vs s).ownBlock)
  (ho : w'.ownsRow (gl + 1) 42 7 v' ((rows s).length + 1) (ecells (rows s) ++ ecell e)) (hb : v'.ownBlock = (vs s).ownBlock ∨ ∃ b, v'.ownBlock = some b ∧ w.heap.size ≤ b) :
  LvR gl n (upd rows s (rows s ++ [e])) (upd vs s v') (w'.setCell ⟨gl, s, none⟩ v') := by
 have hgl : (some gl : Option Nat) ≠ (vs s).ownBlock := fun e => by have := ((h.own s hs).lt gl e.symm).1; omega
 have hbx : w'.heap[gl]? = some (.cells ((List.range n).map vs).toArray 30 (0, 0)) := (hg.block gl (lt_of_block h.box) hgl).trans h.box
 have new : ∀ j, j < n → j ≠ s → (vs j).ownBlock = none ∨ (vs j).ownBlock ≠ v'.ownBlock := fun j hj hjs => by
  rcases hb with hb | ⟨b, hb, hsz⟩
  ·
   rw [hb]; exact h.apart j s hj hs hjs
  ·
   cases ho2 : (vs j).ownBlock with
   | none => exact Or.inl rfl
   | some k =>
    refine Or.inr (fun e => ?_)
    rw [hb] at e
    have := ((h.own j hj).lt k ho2).2
    have := Option.some.inj e
    omega
 refine ⟨?_, fun j hj => ?_, fun i j hi hj hij => ?_⟩
 ·
  rw [heap_setCell_same w' gl s _ _ _ hbx]
  congr 2
  apply Array.ext'
  simp only [Array.toList_setIfInBounds]
  apply List.ext_getElem?
  intro k
  rw [List.getElem?_set]
  by_cases hk : s = k
  ·
   subst hk
   simp [hs, upd_same]
  ·
   by_cases hkn : k < n
   ·
    simp [hk, hkn, upd_other vs v' (fun e => hk e.symm)]
   ·
    simp [hk, hkn]
 ·
  by_cases hjs : j = s
  ·
   subst hjs
   rw [upd_same, upd_same, List.length_append, ecells_snoc]
   exact ownsRow_setCell_below ho (a := ⟨gl, j, none⟩) (by show gl < gl + 1; omega) _
  ·
   rw [upd_other rows _ hjs, upd_other vs _ hjs]
   exact ownsRow_setCell_below ((h.own j hj).kept hg (h.apart j s hj hs hjs)) (a := ⟨gl, s, none⟩) (by show gl < gl + 1; omega) _
 ·
  by_cases his : i = s
  ·
   subst his
   have hji : j ≠ i := fun e => hij e.symm
   rw [upd_same, upd_other vs _ hji]
   rcases new j hj hji with h1 | h1
   ·
    cases hv : v'.ownBlock with
    | none => exact Or.inl rfl
    | some k => exact Or.inr (by rw [h1]; simp)
   ·
    exact Or.inr (fun e => h1 e.symm)
  ·
   rw [upd_other vs _ his]
   by_cases hjs : j = s
   ·
    subst hjs
    rw [upd_same]; exact new i hi his
   ·
    rw [upd_other vs _ hjs]; exact h.apart i j hi hj hij
end Go.Proofs.Ytmfgplbfojnkdaa
