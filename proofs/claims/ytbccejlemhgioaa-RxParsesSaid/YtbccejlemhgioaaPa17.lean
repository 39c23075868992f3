/- texts put together: RfOk, Loc, Lop, RrSt. -/
import Derived.Test.YtbccejlemhgioaaPa00
import Derived.Test.YtbccejlemhgioaaPa08
import Derived.Test.YtbccejlemhgioaaPa10
namespace Go.Proofs.Ytbccejlemhgioaa
open Go Go.RowKit Go.ChangeShapes cl rx
open rf
theorem zero_ok : Cls.zero.ok := by unfold Cls.ok; decide
theorem lt0 : 0 < 256 := by decide
theorem hex_lt {s : List Nat} {c v : Nat} {t : T} (h : hex s c t = some v) : v < 256 := by
 unfold hex at h
 split at h
 ·
  split at h
  ·
   split at h
   ·
    rename_i a b _ _ _
    have h1 := dig_le (c := a)
    have h2 := dig_le (c := b)
    have := Option.some.inj h
    omega
   ·
    cases h
  ·
   cases h
 ·
  cases h
section
variable {s : List Nat} (hs : ∀ c ∈ s, c < 256)
include hs
theorem escape_ok (a : Nat) (t : T) : (escape s a t).1.1.ok ∧ (escape s a t).1.2.1 < 256 := by
 unfold escape
 split
 ·
  exact ⟨zero_ok, lt0⟩
 ·
  rename_i c hc
  have hc2 : c < 256 := hs c (List.mem_of_getElem? (nxt_some hc).2.1)
  split
  ·
   exact ⟨one_ok _ hc2, hc2⟩
  ·
   split
   ·
    exact ⟨span_ok' _ _ (by decide) (by decide), lt0⟩
   ·
    split
    ·
     exact ⟨or_ok (or_ok (span_ok' _ _ (by decide) (by decide)) (span_ok' _ _ (by decide) (by decide))) (or_ok (span_ok' _ _ (by decide) (by decide)) (one_ok _ (by decide))), lt0⟩
    ·
     split
     ·
      rename_i v hv
      exact ⟨one_ok _ (hex_lt hv), hex_lt hv⟩
     ·
      exact ⟨zero_ok, lt0⟩
theorem single_ok (t : T) : (single s t).1.1.ok ∧ (single s t).1.2.1 < 256 := by
 unfold single
 split
 ·
  exact ⟨zero_ok, lt0⟩
 ·
  rename_i c hc
  have hc2 : c < 256 := hs c (List.mem_of_getElem? hc)
  split
  ·
   exact escape_ok hs _ _
  ·
   split
   ·
    exact ⟨zero_ok, lt0⟩
   ·
    exact ⟨one_ok _ hc2, hc2⟩
theorem member_ok (t : T) : (member s t).1.ok := by
 have h0 := single_ok hs t
 unfold member
 simp only
 split
 ·
  exact h0.1
 ·
  split
  ·
   exact h0.1
  ·
   split
   ·
    exact h0.1
   ·
    split
    ·
     exact h0.1
    ·
     split
     ·
      exact h0.1
     ·
      have h1 := single_ok hs (meets s 45 (single s t).2).2
      exact span_ok _ _ _ (by omega) zero_ok
theorem mems_ok (a : Nat) : ∀ (f : Nat) (x : Cls) (t : T), x.ok → (mems s a f x t).1.ok
 | 0, _, _, h => h
 | f + 1, x, t, h => by
  unfold mems
  simp only
  split
  ·
   exact h
  ·
   split
   ·
    exact h
   ·
    exact mems_ok a f _ _ (or_ok h (member_ok hs t))
end
end Go.Proofs.Ytbccejlemhgioaa
namespace Go.Proofs.Ytbccejlemhgioaa
open Go Go.RowKit Go.ChangeShapes cl
def Loc (w W : World) (l : List (Nat × TypeId × Array Value)) : Prop := Below w.heap.size w W ∧ (∀ x ∈ l, w.heap.size ≤ x.1 ∧ W.heap[x.1]? = some (.cells x.2.2 x.2.1 (0, 0))) ∧ l.Pairwise (fun x y => x.1 ≠ y.1)
section
variable {w W W' : World} {l : List (Nat × TypeId × Array Value)}
theorem Loc.nil (w : World) : Loc w w [] := ⟨Below.refl _ _, fun _ h => (by cases h), List.Pairwise.nil⟩
theorem Loc.of (h : Below w.heap.size w W) : Loc w W [] := ⟨h, fun _ h => (by cases h), List.Pairwise.nil⟩
theorem Loc.lt (h : Loc w W l) {x : Nat × TypeId × Array Value} (hx : x ∈ l) : x.1 < W.heap.size := lt_of_block (h.2.1 x hx).2
theorem Loc.lts (h : Loc w W l) : ∀ q ∈ l.map (·.1), q < W.heap.size := fun q hq => by
 obtain ⟨x, hx, rfl⟩ := List.mem_map.1 hq
 exact h.lt hx
theorem Loc.add (h : Loc w W l) (T : TypeId) (cs : Array Value) {q : Nat} (hq : q = W.heap.size) : Loc w (W.alloc (.cells cs T)) (l ++ [(q, T, cs)]) := by
 refine ⟨h.1.trans (below1.mono h.1.size), fun x hx => ?_, ?_⟩
 ·
  rcases List.mem_append.1 hx with hx | hx
  ·
   exact ⟨(h.2.1 x hx).1, ((below1 (w := W)).block x.1 (h.lt hx)).trans (h.2.1 x hx).2⟩
  ·
   rw [List.mem_singleton.1 hx, hq]
   exact ⟨h.1.size, heap_alloc_new _ _⟩
 ·
  refine List.pairwise_append.2 ⟨h.2.2, List.pairwise_singleton _ _, fun x hx y hy => ?_⟩
  rw [List.mem_singleton.1 hy]
  have := h.lt hx
  show x.1 ≠ q
  omega
theorem Loc.call (h : Loc w W l) (hb : Below W.heap.size W W') : Loc w W' l :=
 ⟨h.1.trans (hb.mono h.1.size), fun x hx => ⟨(h.2.1 x hx).1, (hb.block x.1 (h.lt hx)).trans (h.2.1 x hx).2⟩, h.2.2⟩
theorem Loc.at (h : Loc w W l) (i : Nat) {q : Nat} {T : TypeId} {cs : Array Value} (hx : l[i]? = some (q, T, cs)) : W.heap[q]? = some (.cells cs T (0, 0)) := (h.2.1 _ (List.mem_of_getElem? hx)).2
theorem Loc.ge (h : Loc w W l) (i : Nat) {q : Nat} {T : TypeId} {cs : Array Value} (hx : l[i]? = some (q, T, cs)) : w.heap.size ≤ q := (h.2.1 _ (List.mem_of_getElem? hx)).1
theorem Loc.ne (h : Loc w W l) {i j : Nat} {x y : Nat × TypeId × Array Value} (hx : l[i]? = some x) (hy : l[j]? = some y) (hij : i ≠ j) : x.1 ≠ y.1 := by
 obtain ⟨hi, rfl⟩ := List.getElem?_eq_some_iff.1 hx
 obtain ⟨hj, rfl⟩ := List.getElem?_eq_some_iff.1 hy
 have hp := List.pairwise_iff_getElem.1 h.2.2
 rcases Nat.lt_or_gt_of_ne hij with h1 | h1
 ·
  exact hp i j hi hj h1
 ·
  exact (hp j i hj hi h1).symm
theorem Loc.nq (h : Loc w W l) (i j : Nat) {p q : Nat} {T T' : TypeId} {cs cs' : Array Value} (hx : l[i]? = some (p, T, cs)) (hy : l[j]? = some (q, T', cs')) (hij : i ≠ j) : p ≠ q := h.ne hx hy hij
theorem Loc.turn (h : Loc w W l) (i : Nat) {q : Nat} {T : TypeId} {cs cs' : Array Value} (hx : l[i]? = some (q, T, cs)) (hk : KX q W W') (hc : W'.heap[q]? = some (.cells cs' T (0, 0))) : Loc w W' (l.set i (q, T, cs')) := by
 have hq := h.ge i hx
 have hil := (List.getElem?_eq_some_iff.1 hx).1
 refine ⟨h.1.trans ⟨hk.1.1, hk.1.2.1, hk.1.2.2, hk.2.1, fun j hj => hk.2.2 j (Nat.lt_of_lt_of_le hj h.1.size) (by omega)⟩, fun x hx' => ?_, ?_⟩
 ·
  obtain ⟨j, hj, rfl⟩ := List.mem_iff_getElem.1 hx'
  rw [List.getElem_set]
  by_cases e : i = j
  ·
   rw [if_pos e]
   exact ⟨hq, hc⟩
  ·
   rw [if_neg e]
   have hj' : j < l.length := by rw [List.length_set] at hj; exact hj
   have hm := h.2.1 l[j] (List.getElem_mem hj')
   have hn := h.ne (List.getElem?_eq_getElem hj') hx (Ne.symm e)
   exact ⟨hm.1, (hk.2.2 _ (lt_of_block hm.2) hn).trans hm.2⟩
 ·
  rw [List.pairwise_iff_getElem]
  intro a b ha hb hab
  rw [List.length_set] at ha hb
  have hp := List.pairwise_iff_getElem.1 h.2.2 a b ha hb hab
  rw [List.getElem_set, List.getElem_set]
  obtain ⟨_, he⟩ := List.getElem?_eq_some_iff.1 hx
  by_cases e1 : i = a
  ·
   subst e1
   rw [if_pos rfl, if_neg (by omega)]
   rw [he] at hp
   exact hp
  ·
   rw [if_neg e1]
   by_cases e2 : i = b
   ·
    subst e2
    rw [if_pos rfl]
    rw [he] at hp
    exact hp
   ·
    rw [if_neg e2]
    exact hp
theorem Loc.row (h : Loc w W l) (i : Nat) {q : Nat} {T : TypeId} {cs : Array Value} (hx : l[i]? = some (q, T, cs)) (cs' : Array Value) : Loc w (W.setRow q cs') (l.set i (q, T, cs')) := h.turn i hx KX.row (setRow_heap W q _ _ _ _ (h.at i hx))
theorem Loc.cell (h : Loc w W l) (i : Nat) {q : Nat} {T : TypeId} {cs : Array Value} (hx : l[i]? = some (q, T, cs)) (j : Nat) (u : Value) {cs' : Array Value} (hc : cs.setIfInBounds j u = cs') : Loc w (W.setCell ⟨q, j, none⟩ u) (l.set i (q, T, cs')) := by
 subst hc
 exact h.turn i hx KX.cell (heap_setCell_same W q j _ _ u (h.at i hx))
theorem Loc.sub (h : Loc w W l) {m : List (Nat × TypeId × Array Value)} (hm : m.Sublist l) : Loc w W m := ⟨h.1, fun x hx => h.2.1 x (hm.subset hx), h.2.2.sublist hm⟩
theorem Loc.take (h : Loc w W l) (n : Nat) : Loc w W (l.take n) := h.sub (List.take_sublist _ _)
def Dr (q2 q3 : Nat) (T2 T3 : TypeId) (n2 n3 : Nat) (W ww : World) : Prop := (ww.os = W.os ∧ ww.tape = W.tape ∧ ww.output = W.output) ∧ W.heap.size ≤ ww.heap.size ∧ (∀ j, j < W.heap.size → j ≠ q2 → j ≠ q3 → ww.heap[j]? = W.heap[j]?) ∧ (∃ cs : Array Value, cs.size = n2 ∧ ww.heap[q2]? = some (.cells cs T2 (0, 0))) ∧ ∃ cs : Array Value, cs.size = n3 ∧ ww.heap[q3]? = some (.cells cs T3 (0, 0))
section
variable {q2 q3 : Nat} {T2 T3 : TypeId} {n2 n3 : Nat} {w W a b : World} {A : Array Value} {l : List (Nat × TypeId × Array Value)}
theorem Dr.refl {c2 c3 : Array Value} (h2 : W.heap[q2]? = some (.cells c2 T2 (0, 0))) (h3 : W.heap[q3]? = some (.cells c3 T3 (0, 0))) (s2 : c2.size = n2) (s3 : c3.size = n3) : Dr q2 q3 T2 T3 n2 n3 W W := ⟨⟨rfl, rfl, rfl⟩, Nat.le_refl _, fun _ _ _ _ => rfl, ⟨_, s2, h2⟩, _, s3, h3⟩
theorem Dr.below (h : Dr q2 q3 T2 T3 n2 n3 W a) (hb : Below a.heap.size a b) : Dr q2 q3 T2 T3 n2 n3 W b := by
 obtain ⟨⟨h1, h2, h3⟩, h4, h5, ⟨c2, s2, z2⟩, c3, s3, z3⟩ := h
 exact ⟨⟨hb.os.trans h1, hb.tape.trans h2, hb.output.trans h3⟩, Nat.le_trans h4 hb.size, fun j hj n2 n3 => (hb.block j (Nat.lt_of_lt_of_le hj h4)).trans (h5 j hj n2 n3), ⟨c2, s2, (hb.block q2 (lt_of_block z2)).trans z2⟩, c3, s3, (hb.block q3 (lt_of_block z3)).trans z3⟩
theorem Dr.s2 (h : Dr q2 q3 T2 T3 n2 n3 W a) (hk : KX q2 a b ∧ b.heap[q2]? = some (.cells A T2 (0, 0))) (hs : A.size = n2) (hn : q3 ≠ q2) : Dr q2 q3 T2 T3 n2 n3 W b := by
 obtain ⟨⟨h1, h2, h3⟩, h4, h5, ⟨c2, s2, z2⟩, c3, s3, z3⟩ := h
 obtain ⟨hk, hb⟩ := hk
 exact ⟨⟨hk.1.1.trans h1, hk.1.2.1.trans h2, hk.1.2.2.trans h3⟩, Nat.le_trans h4 hk.2.1, fun j hj n2 n3 => (hk.2.2 j (Nat.lt_of_lt_of_le hj h4) n2).trans (h5 j hj n2 n3), ⟨A, hs, hb⟩, c3, s3, (hk.2.2 q3 (lt_of_block z3) hn).trans z3⟩
theorem Dr.s3 (h : Dr q2 q3 T2 T3 n2 n3 W a) (hk : KX q3 a b ∧ b.heap[q3]? = some (.cells A T3 (0, 0))) (hs : A.size = n3) (hn : q3 ≠ q2) : Dr q2 q3 T2 T3 n2 n3 W b := by
 obtain ⟨⟨h1, h2, h3⟩, h4, h5, ⟨c2, s2, z2⟩, c3, s3, z3⟩ := h
 obtain ⟨hk, hb⟩ := hk
 exact ⟨⟨hk.1.1.trans h1, hk.1.2.1.trans h2, hk.1.2.2.trans h3⟩, Nat.le_trans h4 hk.2.1, fun j hj n2 n3 => (hk.2.2 j (Nat.lt_of_lt_of_le hj h4) n3).trans (h5 j hj n2 n3), ⟨c2, s2, (hk.2.2 q2 (lt_of_block z2) (Ne.symm hn)).trans z2⟩, A, hs, hb⟩
theorem Loc.dr (h : Loc w W l) (i k : Nat) {c2 c3 A2 A3 : Array Value} (h2 : l[i]? = some (q2, T2, c2)) (h3 : l[k]? = some (q3, T3, c3)) (_hik : i ≠ k) (d : Dr q2 q3 T2 T3 n2 n3 W a) (e2 : a.heap[q2]? = some (.cells A2 T2 (0, 0))) (e3 : a.heap[q3]? = some (.cells A3 T3 (0, 0))) : Loc w a ((l.set i (q2, T2, A2)).set k (q3, T3, A3)) := by
 have g2 := h.ge i h2
 have g3 := h.ge k h3
 have hi := (List.getElem?_eq_some_iff.1 h2).1
 have hk := (List.getElem?_eq_some_iff.1 h3).1
 have hfst : ((l.set i (q2, T2, A2)).set k (q3, T3, A3)).map (·.1) = l.map (·.1) := by
  apply List.ext_getElem
  ·
   simp
  ·
   intro j h1 h4
   have hj : j < l.length := by simpa using h4
   simp only [List.getElem_map, List.getElem_set]
   by_cases ek : k = j
   ·
    subst ek
    rw [if_pos rfl, (List.getElem?_eq_some_iff.1 h3).2]
   ·
    rw [if_neg ek]
    by_cases ei : i = j
    ·
     subst ei
     rw [if_pos rfl, (List.getElem?_eq_some_iff.1 h2).2]
    ·
     rw [if_neg ei]
 refine ⟨h.1.trans ⟨d.1.1, d.1.2.1, d.1.2.2, d.2.1, fun j hj => d.2.2.1 j (Nat.lt_of_lt_of_le hj h.1.size) (by omega) (by omega)⟩, fun x hx => ?_, ?_⟩
 ·
  obtain ⟨j, hj, rfl⟩ := List.mem_iff_getElem.1 hx
  have hj' : j < l.length := by simpa using hj
  rw [List.getElem_set]
  by_cases ek : k = j
  ·
   rw [if_pos ek]; exact ⟨g3, e3⟩
  ·
   rw [if_neg ek, List.getElem_set]
   by_cases ei : i = j
   ·
    rw [if_pos ei]; exact ⟨g2, e2⟩
   ·
    rw [if_neg ei]
    have hm := h.2.1 l[j] (List.getElem_mem hj')
    have hn2 := h.ne (List.getElem?_eq_getElem hj') h2 (Ne.symm ei)
    have hn3 := h.ne (List.getElem?_eq_getElem hj') h3 (Ne.symm ek)
    exact ⟨hm.1, (d.2.2.1 _ (lt_of_block hm.2) hn2 hn3).trans hm.2⟩
 ·
  have h5 : (l.map (·.1)).Pairwise (· ≠ ·) := List.pairwise_map.2 h.2.2
  rw [← hfst] at h5
  exact List.pairwise_map.1 h5
end
def Fro (B : Nat) (l : List Nat) (W : World) (P : World → Prop) : Prop := ∀ W' : World, W.heap.size ≤ W'.heap.size → (∀ j, B ≤ j → j < W.heap.size → j ∉ l → W'.heap[j]? = W.heap[j]?) → P W'
section
variable {B B1 : Nat} {bs : List Nat} {P P' : World → Prop}
theorem Fro.of (h : Fre B1 W P) (hB : B ≤ B1) (hl : ∀ q ∈ bs, q < B1) : Fro B bs W P := fun W' h1 h2 => h W' h1 (fun j hj hj2 _ => h2 j (Nat.le_trans hB hj) hj2 (fun hm => by have := hl j hm; omega))
theorem Fro.at (h : Fro B bs W P) : P W := h W (Nat.le_refl _) (fun _ _ _ _ => rfl)
theorem Fro.imp (h : Fro B bs W P) (hp : ∀ w, P w → P' w) : Fro B bs W P' := fun W' h1 h2 => hp _ (h W' h1 h2)
theorem Fro.fre (h : Fro B bs W P) : Fre B W P := fun W' h1 h2 => h W' h1 (fun j hB hj _ => h2 j hB hj (by simp))
theorem Fro.kx {q : Nat} (h : Fro B bs W P) (hk : KX q W W') (hq : q ∈ bs) : Fro B bs W' P := fun W2 h1 h2 => h W2 (Nat.le_trans hk.2.1 h1) (fun j hB hj hn => (h2 j hB (Nat.lt_of_lt_of_le hj hk.2.1) hn).trans (hk.2.2 j hj (fun e => hn (e ▸ hq))))
theorem Fro.next (h : Fro B bs W P) (hb : Below W.heap.size W W') : Fro B bs W' P := fun W2 h1 h2 => h W2 (Nat.le_trans hb.size h1) (fun j hB hj hn => (h2 j hB (Nat.lt_of_lt_of_le hj hb.size) hn).trans (hb.block j hj))
theorem Fro.dr {q2 q3 : Nat} {T2 T3 : TypeId} {n2 n3 : Nat} (h : Fro B bs W P) (d : Dr q2 q3 T2 T3 n2 n3 W W') (h2 : q2 ∈ bs) (h3 : q3 ∈ bs) : Fro B bs W' P := fun W2 h1 k2 => h W2 (Nat.le_trans d.2.1 h1) (fun j hB hj hn => (k2 j hB (Nat.lt_of_lt_of_le hj d.2.1) hn).trans (d.2.2.1 j hj (fun e => hn (e ▸ h2)) (fun e => hn (e ▸ h3))))
theorem Fro.new (h : Fro B bs W P) {o : Obj} {q : Nat} (hq : q = W.heap.size) : Fro B (bs ++ [q]) (W.alloc o) P := fun W2 h1 h2 => h W2 (Nat.le_trans (by rw [World.size_alloc]; omega) h1) (fun j hB hj hn => (h2 j hB (by rw [World.size_alloc]; omega) (fun hm => by
 rcases List.mem_append.1 hm with hm | hm
 ·
  exact hn hm
 ·
  have := List.mem_singleton.1 hm; omega)).trans ((below1 (w := W) (o := o)).block j hj))
end
end
end Go.Proofs.Ytbccejlemhgioaa
namespace Go.Proofs.Ytbccejlemhgioaa
open Go Go.RowKit Go.ChangeShapes cl
def Lop (w W : World) (l : List (Nat × TypeId × Array Value)) (P : World → Prop) : Prop := Loc w W l ∧ Fro w.heap.size (l.map (·.1)) W P
theorem map_set {l : List (Nat × TypeId × Array Value)} {i q : Nat} {T : TypeId} {cs : Array Value} (hx : l[i]? = some (q, T, cs)) (cs' : Array Value) : (l.set i (q, T, cs')).map (·.1) = l.map (·.1) := by
 apply List.ext_getElem
 ·
  simp
 ·
  intro j h1 h2
  have hj : j < l.length := by simpa using h2
  simp only [List.getElem_map, List.getElem_set]
  by_cases e : i = j
  ·
   subst e
   rw [if_pos rfl, (List.getElem?_eq_some_iff.1 hx).2]
  ·
   rw [if_neg e]
section
variable {w W W' : World} {l : List (Nat × TypeId × Array Value)} {P P' : World → Prop}
theorem Fro.less {B : Nat} {bs cs : List Nat} (h : Fro B bs W P) (hs : ∀ q ∈ cs, q ∈ bs) : Fro B cs W P := fun W' h1 h2 => h W' h1 (fun j hB hj hn => h2 j hB hj (fun hm => hn (hs j hm)))
theorem Lop.nil (w : World) : Lop w w [] (fun _ => True) := ⟨Loc.nil w, fun _ _ _ => trivial⟩
theorem Lop.add (h : Lop w W l P) (T : TypeId) (cs : Array Value) {q : Nat} (hq : q = W.heap.size) : Lop w (W.alloc (.cells cs T)) (l ++ [(q, T, cs)]) P := ⟨h.1.add T cs hq, by rw [List.map_append]; exact h.2.new hq⟩
theorem Lop.call (h : Lop w W l P) (hb : Below W.heap.size W W') : Lop w W' l P := ⟨h.1.call hb, h.2.next hb⟩
theorem Lop.keep (h : Lop w W l P) (hb : Below W.heap.size W W') (f : Fre W.heap.size W' P') : Lop w W' l P' := ⟨h.1.call hb, Fro.of f h.1.1.size h.1.lts⟩
theorem Lop.row (h : Lop w W l P) (i : Nat) {q : Nat} {T : TypeId} {cs : Array Value} (hx : l[i]? = some (q, T, cs)) (cs' : Array Value) : Lop w (W.setRow q cs') (l.set i (q, T, cs')) P := ⟨h.1.row i hx cs', by rw [map_set hx]; exact h.2.kx KX.row (List.mem_map.2 ⟨_, List.mem_of_getElem? hx, rfl⟩)⟩
theorem Lop.cell (h : Lop w W l P) (i : Nat) {q : Nat} {T : TypeId} {cs : Array Value} (hx : l[i]? = some (q, T, cs)) (j : Nat) (u : Value) (cs' : Array Value) (hc : cs.setIfInBounds j u = cs') : Lop w (W.setCell ⟨q, j, none⟩ u) (l.set i (q, T, cs')) P := ⟨h.1.cell i hx j u hc, by rw [map_set hx]; exact h.2.kx KX.cell (List.mem_map.2 ⟨_, List.mem_of_getElem? hx, rfl⟩)⟩
theorem Lop.nm (h : Lop w W l P) : ∃ V, V = W ∧ Lop w V l P := ⟨W, rfl, h⟩
theorem Lop.at (h : Lop w W l P) (i : Nat) {q : Nat} {T : TypeId} {cs : Array Value} (hx : l[i]? = some (q, T, cs)) : W.heap[q]? = some (.cells cs T (0, 0)) := h.1.at i hx
theorem Lop.nq (h : Lop w W l P) (i j : Nat) {p q : Nat} {T T' : TypeId} {cs cs' : Array Value} (hx : l[i]? = some (p, T, cs)) (hy : l[j]? = some (q, T', cs')) (hij : i ≠ j) : p ≠ q := h.1.nq i j hx hy hij
theorem Lop.take (h : Lop w W l P) (n : Nat) : Lop w W (l.take n) P := ⟨h.1.take n, h.2.less (fun q hq => by
 rw [List.map_take] at hq
 exact List.mem_of_mem_take hq)⟩
theorem Lop.two (h : Lop w W l P) (i j : Nat) {q2 q3 : Nat} {T2 T3 : TypeId} {c2 c3 : Array Value} (hx : l[i]? = some (q2, T2, c2)) (hy : l[j]? = some (q3, T3, c3)) (hij : i ≠ j) (A B : Array Value) : ∃ V, V = (W.setRow q2 A).setRow q3 B ∧ W.heap[q2]? = some (.cells c2 T2 (0, 0)) ∧ (W.setRow q2 A).heap[q3]? = some (.cells c3 T3 (0, 0)) ∧ V.heap[q2]? = some (.cells A T2 (0, 0)) ∧ V.heap[q3]? = some (.cells B T3 (0, 0)) ∧ Below w.heap.size w V ∧ Fre w.heap.size V P := by
 have h1 := h.row i hx A
 have hy1 : (l.set i (q2, T2, A))[j]? = some (q3, T3, c3) := by rw [List.getElem?_set_ne hij]; exact hy
 have h2 := h1.row j hy1 B
 have hi := (List.getElem?_eq_some_iff.1 hx).1
 have hj := (List.getElem?_eq_some_iff.1 hy).1
 refine ⟨_, rfl, h.at i hx, h1.at j hy1, h2.at i ?_, h2.at j ?_, h2.1.1, h2.2.fre⟩
 ·
  rw [List.getElem?_set_ne (Ne.symm hij), List.getElem?_set_self hi]
 ·
  rw [List.getElem?_set_self (by rw [List.length_set]; exact hj)]
theorem Lop.drend (h : Lop w W l P) (i k : Nat) {q2 q3 : Nat} {T2 T3 : TypeId} {c2 c3 A2 A3 : Array Value} {n2 n3 : Nat} {a : World} (h2 : l[i]? = some (q2, T2, c2)) (h3 : l[k]? = some (q3, T3, c3)) (hik : i ≠ k) (d : Dr q2 q3 T2 T3 n2 n3 W a) (e2 : a.heap[q2]? = some (.cells A2 T2 (0, 0))) (e3 : a.heap[q3]? = some (.cells A3 T3 (0, 0))) : Below w.heap.size w a ∧ Fre w.heap.size a P :=
 ⟨(h.1.dr i k h2 h3 hik d e2 e3).1, (h.2.dr d (List.mem_map.2 ⟨_, List.mem_of_getElem? h2, rfl⟩) (List.mem_map.2 ⟨_, List.mem_of_getElem? h3, rfl⟩)).fre⟩
end
section
variable {w : World} {q : Nat} {a b c d e f g h : Value} {t : TypeId} {fr : Nat × Nat}
theorem box3 (k : w.heap[q]? = some (.cells #[a, b, c] t fr)) : w.cell? ⟨q, 0, none⟩ = some a ∧ w.cell? ⟨q, 1, none⟩ = some b ∧ w.cell? ⟨q, 2, none⟩ = some c := ⟨boxc k 0 _ rfl, boxc k 1 _ rfl, boxc k 2 _ rfl⟩
theorem box4 (k : w.heap[q]? = some (.cells #[a, b, c, d] t fr)) : w.cell? ⟨q, 0, none⟩ = some a ∧ w.cell? ⟨q, 1, none⟩ = some b ∧ w.cell? ⟨q, 2, none⟩ = some c ∧ w.cell? ⟨q, 3, none⟩ = some d := ⟨boxc k 0 _ rfl, boxc k 1 _ rfl, boxc k 2 _ rfl, boxc k 3 _ rfl⟩
theorem box8 (k : w.heap[q]? = some (.cells #[a, b, c, d, e, f, g, h] t fr)) : w.cell? ⟨q, 0, none⟩ = some a ∧ w.cell? ⟨q, 1, none⟩ = some b ∧ w.cell? ⟨q, 2, none⟩ = some c ∧ w.cell? ⟨q, 3, none⟩ = some d ∧ w.cell? ⟨q, 4, none⟩ = some e ∧ w.cell? ⟨q, 5, none⟩ = some f ∧ w.cell? ⟨q, 6, none⟩ = some g ∧ w.cell? ⟨q, 7, none⟩ = some h := ⟨boxc k 0 _ rfl, boxc k 1 _ rfl, boxc k 2 _ rfl, boxc k 3 _ rfl, boxc k 4 _ rfl, boxc k 5 _ rfl, boxc k 6 _ rfl, boxc k 7 _ rfl⟩
end
def Ts (k2 k3 q2 q3 : Nat) (T2 T3 : TypeId) (A B : Array Value) (i : Nat) (w w' : World) : Prop := if i = k3 then KX q3 w w' ∧ w'.heap[q3]? = some (.cells B T3 (0, 0)) else if i = k2 then KX q2 w w' ∧ w'.heap[q2]? = some (.cells A T2 (0, 0)) else Below w.heap.size w w'
section
variable {k2 k3 q2 q3 i : Nat} {T2 T3 : TypeId} {A B : Array Value} {w w' W : World}
theorem Ts.is3 (h : KX q3 w w') (k : w'.heap[q3]? = some (.cells B T3 (0, 0))) : Ts k2 k3 q2 q3 T2 T3 A B k3 w w' := by unfold Ts; rw [if_pos rfl]; exact ⟨h, k⟩
theorem Ts.is2 (hn : k2 ≠ k3) (h : KX q2 w w') (k : w'.heap[q2]? = some (.cells A T2 (0, 0))) : Ts k2 k3 q2 q3 T2 T3 A B k2 w w' := by unfold Ts; rw [if_neg hn, if_pos rfl]; exact ⟨h, k⟩
theorem Ts.no (h3 : i ≠ k3) (h2 : i ≠ k2) (h : Below w.heap.size w w') : Ts k2 k3 q2 q3 T2 T3 A B i w w' := by unfold Ts; rw [if_neg h3, if_neg h2]; exact h
theorem Ts.keep2 (N : q3 ≠ q2) (hn : k2 ≠ i) (h : w.heap[q2]? = some (.cells A T2 (0, 0))) (t : Ts k2 k3 q2 q3 T2 T3 A B i w w') : w'.heap[q2]? = some (.cells A T2 (0, 0)) := by
 unfold Ts at t
 by_cases h3 : i = k3
 ·
  rw [if_pos h3] at t; exact (t.1.2.2 q2 (lt_of_block h) N.symm).trans h
 ·
  rw [if_neg h3, if_neg (Ne.symm hn)] at t; exact (t.block q2 (lt_of_block h)).trans h
theorem Ts.keep3 (N : q3 ≠ q2) (hn : k3 ≠ i) (h : w.heap[q3]? = some (.cells B T3 (0, 0))) (t : Ts k2 k3 q2 q3 T2 T3 A B i w w') : w'.heap[q3]? = some (.cells B T3 (0, 0)) := by
 unfold Ts at t
 rw [if_neg (Ne.symm hn)] at t
 by_cases h2 : i = k2
 ·
  rw [if_pos h2] at t; exact (t.1.2.2 q3 (lt_of_block h) N).trans h
 ·
  rw [if_neg h2] at t; exact (t.block q3 (lt_of_block h)).trans h
theorem Dr.ts {n2 n3 : Nat} (N : q3 ≠ q2) (s2 : A.size = n2) (s3 : B.size = n3) (h : Dr q2 q3 T2 T3 n2 n3 W w) (t : Ts k2 k3 q2 q3 T2 T3 A B i w w') : Dr q2 q3 T2 T3 n2 n3 W w' := by
 unfold Ts at t
 by_cases h3 : i = k3
 ·
  rw [if_pos h3] at t; exact h.s3 t s3 N
 ·
  rw [if_neg h3] at t
  by_cases h2 : i = k2
  ·
   rw [if_pos h2] at t; exact h.s2 t s2 N
  ·
   rw [if_neg h2] at t; exact h.below t
end
def Tm (k2 k3 q2 q3 : Nat) (T2 T3 : TypeId) (A : Array Value) (n3 : Nat) (i : Nat) (w w' : World) : Prop := if i = k3 then KX q3 w w' ∧ ∃ B : Array Value, B.size = n3 ∧ w'.heap[q3]? = some (.cells B T3 (0, 0)) else if i = k2 then KX q2 w w' ∧ w'.heap[q2]? = some (.cells A T2 (0, 0)) else Below w.heap.size w w'
def GX (N : Nat) (T : TypeId) (C : Array Value) (g : Nat) (w : World) : Prop := N ≤ g ∧ w.heap[g]? = some (.cells C T (0, 0))
section
variable {k2 k3 q2 q3 i n3 N g : Nat} {T T2 T3 : TypeId} {A B C : Array Value} {w w' W : World} {o : Obj}
theorem Tm.is3 (h : KX q3 w w') (hb : B.size = n3) (k : w'.heap[q3]? = some (.cells B T3 (0, 0))) : Tm k2 k3 q2 q3 T2 T3 A n3 k3 w w' := by unfold Tm; rw [if_pos rfl]; exact ⟨h, B, hb, k⟩
theorem Tm.is2 (hn : k2 ≠ k3) (h : KX q2 w w') (k : w'.heap[q2]? = some (.cells A T2 (0, 0))) : Tm k2 k3 q2 q3 T2 T3 A n3 k2 w w' := by unfold Tm; rw [if_neg hn, if_pos rfl]; exact ⟨h, k⟩
theorem Tm.no (h3 : i ≠ k3) (h2 : i ≠ k2) (h : Below w.heap.size w w') : Tm k2 k3 q2 q3 T2 T3 A n3 i w w' := by unfold Tm; rw [if_neg h3, if_neg h2]; exact h
theorem Tm.blk (h2 : g ≠ q2) (h3 : g ≠ q3) (h : w.heap[g]? = some o) (t : Tm k2 k3 q2 q3 T2 T3 A n3 i w w') : w'.heap[g]? = some o := by
 unfold Tm at t
 by_cases e3 : i = k3
 ·
  rw [if_pos e3] at t; exact (t.1.2.2 g (lt_of_block h) h3).trans h
 ·
  rw [if_neg e3] at t
  by_cases e2 : i = k2
  ·
   rw [if_pos e2] at t; exact (t.1.2.2 g (lt_of_block h) h2).trans h
  ·
   rw [if_neg e2] at t; exact (t.block g (lt_of_block h)).trans h
theorem Tm.keep2 (n : q3 ≠ q2) (hn : k2 ≠ i) (h : w.heap[q2]? = some o) (t : Tm k2 k3 q2 q3 T2 T3 A n3 i w w') : w'.heap[q2]? = some o := by
 unfold Tm at t
 by_cases h3 : i = k3
 ·
  rw [if_pos h3] at t; exact (t.1.2.2 q2 (lt_of_block h) n.symm).trans h
 ·
  rw [if_neg h3, if_neg (Ne.symm hn)] at t; exact (t.block q2 (lt_of_block h)).trans h
theorem Tm.keep3 (n : q3 ≠ q2) (hn : k3 ≠ i) (h : w.heap[q3]? = some o) (t : Tm k2 k3 q2 q3 T2 T3 A n3 i w w') : w'.heap[q3]? = some o := by
 unfold Tm at t
 rw [if_neg (Ne.symm hn)] at t
 by_cases h2 : i = k2
 ·
  rw [if_pos h2] at t; exact (t.1.2.2 q3 (lt_of_block h) n).trans h
 ·
  rw [if_neg h2] at t; exact (t.block q3 (lt_of_block h)).trans h
theorem Tm.gx (h2 : q2 < N) (h3 : q3 < N) (h : GX N T C g w) (t : Tm k2 k3 q2 q3 T2 T3 A n3 i w w') : GX N T C g w' := ⟨h.1, t.blk (by have := h.1; omega) (by have := h.1; omega) h.2⟩
theorem Dr.tm {n2 : Nat} (n : q3 ≠ q2) (s2 : A.size = n2) (h : Dr q2 q3 T2 T3 n2 n3 W w) (t : Tm k2 k3 q2 q3 T2 T3 A n3 i w w') : Dr q2 q3 T2 T3 n2 n3 W w' := by
 unfold Tm at t
 by_cases h3 : i = k3
 ·
  rw [if_pos h3] at t
  obtain ⟨hk, B, hb, hc⟩ := t
  exact h.s3 ⟨hk, hc⟩ hb n
 ·
  rw [if_neg h3] at t
  by_cases h2 : i = k2
  ·
   rw [if_pos h2] at t; exact h.s2 t s2 n
  ·
   rw [if_neg h2] at t; exact h.below t
end
theorem rows_one_at {α : Type} {R : Rel α} {B k g : Nat} {W : World} {c : List Value} {x : α} {T : TypeId} (hg : W.heap[g]? = some (.cells c.toArray T (0, 0))) (hB : B ≤ g) (hx : Fre B W (fun V => R V V.heap.size c x)) (hc : c.length = k) : Fre B W (fun V => RowsAt k R V V.heap.size (.slice (some ⟨g, 0, none⟩) 1 1) [x]) := by
 intro V hs h2
 have hgV := (h2 g hB (lt_of_block hg) (by simp)).trans hg
 have hxV := hx V hs h2
 refine ⟨[c], rfl, fun j c' x' hc' hx' => ?_, by simp [hc], _, _, rfl, ⟨(fun e => by cases e), Nat.le_refl 1⟩, show 1 ≤ maxLen by unfold maxLen; decide, fun _ => ⟨g, 0, rfl, lt_of_block hgV, fun j u hj => ?_⟩⟩
 ·
  match j with
  | 0 =>
   simp only [List.getElem?_cons_zero, Option.some.injEq] at hc' hx'
   subst hc'; subst hx'
   exact ⟨hc, hxV⟩
  | j + 1 => simp at hc'
 ·
  rw [Nat.zero_add]
  exact boxc hgV j u (by simpa using hj)
end Go.Proofs.Ytbccejlemhgioaa
namespace Go.Proofs.Ytbccejlemhgioaa
open Go Go.RowKit Go.ChangeShapes cl rx
section
variable {ops : Array Oper} {rest : List Oper} {o : Oper} {a : Act} {w : World} {Q : Exit → Act → World → Prop} {src : Operand} {q : Nat}
theorem stQ (i : Nat) {S : ByteArray} {p c : Int} {x y z : Value} (ho : o.op = .store 48 (.tmp i) src) (hgd : o.guard = none) (hx : a.eval (.tmp i) = .pointer (some ⟨q, 0, none⟩)) (hy : a.eval src = .agg #[.string S, .int .i64 p, .int .i64 c]) (hg : w.heap[q]? = some (.cells #[x, y, z] 48 (0, 0))) (h : wpList Try.prog ops Q rest (a.put o.dst undef) (w.setRow q #[.string S, .int .i64 p, .int .i64 c])) : wpList Try.prog ops Q (o :: rest) a w :=
 wpList_store_row hgd _ (.tmp i) src ho q _ hx hy _ _ hg rdsize rfl (by simp [Value.oneCell']) h
theorem stC (i : Nat) {c1 c2 c3 c4 : Int} {x y z u : Value} (ho : o.op = .store 25 (.tmp i) src) (hgd : o.guard = none) (hx : a.eval (.tmp i) = .pointer (some ⟨q, 0, none⟩)) (hy : a.eval src = .agg #[.int .u64 c1, .int .u64 c2, .int .u64 c3, .int .u64 c4]) (hg : w.heap[q]? = some (.cells #[x, y, z, u] 25 (0, 0))) (h : wpList Try.prog ops Q rest (a.put o.dst undef) (w.setRow q #[.int .u64 c1, .int .u64 c2, .int .u64 c3, .int .u64 c4])) : wpList Try.prog ops Q (o :: rest) a w :=
 wpList_store_row hgd _ (.tmp i) src ho q _ hx hy _ _ hg clsize rfl (by simp [Value.oneCell']) h
theorem stT (i : Nat) {k c1 c2 c3 c4 mn mx : Int} {ko : Option Addr} {kn kc : Nat} {x1 x2 x3 x4 x5 x6 x7 x8 : Value} (ho : o.op = .store 28 (.tmp i) src) (hgd : o.guard = none) (hx : a.eval (.tmp i) = .pointer (some ⟨q, 0, none⟩)) (hy : a.eval src = .agg #[.int .i64 k, .int .u64 c1, .int .u64 c2, .int .u64 c3, .int .u64 c4, .slice ko kn kc, .int .i64 mn, .int .i64 mx]) (hg : w.heap[q]? = some (.cells #[x1, x2, x3, x4, x5, x6, x7, x8] 28 (0, 0))) (h : wpList Try.prog ops Q rest (a.put o.dst undef) (w.setRow q #[.int .i64 k, .int .u64 c1, .int .u64 c2, .int .u64 c3, .int .u64 c4, .slice ko kn kc, .int .i64 mn, .int .i64 mx])) : wpList Try.prog ops Q (o :: rest) a w :=
 wpList_store_row hgd _ (.tmp i) src ho q _ hx hy _ _ hg rsize rfl (by simp [Value.oneCell']) h
end
end Go.Proofs.Ytbccejlemhgioaa
