/- texts put together: Kit, Cells, RowsAt, App, Fre, FrX, RxMath, RxBase. -/
import Derived.BigQuiet
import Derived.ChangeArms
import Derived.Deep.DeepFit
import Derived.Deep.LoopGhost
import Derived.Deep.QuietTactic
import Derived.Deep.SlicePairs
import Derived.IntWalk
import Derived.Laws.AppendOwnNone
import Derived.Laws.CopyOwn
import Derived.Laws.Rows
import Derived.Laws.Tables
import Derived.Lib.AppendStr
import Derived.Lib.Hide
import Derived.Lib.SmallJoins
import Derived.Outline
import Derived.Test.YtmfgplbfojnkdaaRows
import Derived.WalkKit
import Derived.WalkLawsBesides
import Derived.WalkSmall
import Derived.WalkSpells
import Derived.WideShapes
namespace Go.Proofs.Ytmfgplbfojnkdaa.kit
open Go.RowKit
theorem appN {P : Program} {w : World} {ops : Array Oper} {rest : List Oper} {o : Oper} {a : Act} {Q : Exit → Act → World → Prop}
  (s x : Operand) (t : TypeId) (hgd : o.guard = none)
  (ho : o.op = .call { callee := .builtin .append, args := #[s, x], argTypes := #[t, t] })
  (base : Nat) {e : TypeId} {z : Value} {size bytes : Nat} (ht : P.underlying t = some (.slice e)) (hi : (P.info? e).map (fun i => (i.zero, i.size, i.bytes)) = some (some z, size, bytes))
  (hzs : z.cells.size = size) (hsz : 0 < size) (hb1 : 0 < bytes)
  {v : Value} {n : Nat} {xs : List Value} (hown : w.ownsRow base e size v n xs) (hs : a.eval s = v)
  {ao : Option Addr} {m c : Nat} (news : List Value) (hx : a.eval x = .slice ao m c) (hl : news.length = m * size) (hnone : ao = none → m = 0 ∧ c = 0)
  (hnews : ∀ ad, ao = some ad → ∀ j u, news[j]? = some u → w.cell? (ad.add j) = some u) (h1 : ∀ u ∈ news, u.oneCell' = true)
  (hbytes : (n + m) * bytes ≤ 140737488355328) (hbase : base ≤ w.heap.size)
  (h : ∀ v' w', w'.ownsRow base e size v' (n + m) (xs ++ news) → Below base w w' → wpList P ops Q rest (a.put o.dst v') w') :
  wpList P ops Q (o :: rest) a w := by
 obtain ⟨i, hi, hz, hsize, hby⟩ := info_parts hi
 have hle : n + m ≤ (n + m) * bytes := Nat.le_mul_of_pos_right _ hb1
 cases ao with
 | none =>
  obtain ⟨rfl, rfl⟩ := hnone rfl
  obtain rfl : news = [] := List.eq_nil_of_length_eq_zero (by simpa using hl)
  refine wpList_append_own_none hgd s x t ho base e i size ht hi v n xs hs hown hx ?_
  have := h v w (by simpa using hown) (Below.refl _ _)
  exact this
 | some ad =>
  refine wpList_append_own _ hgd s x t ho base e i z size bytes ht hi hz hsize hby hzs hsz v n xs hs hown ad m c news hx hl (hnews ad rfl) h1
   (by unfold maxLen; omega) hbytes hbase fun v' w' r1 r2 _ => h v' w' r1 ?_
  refine (Below.refl base w).grown r2 hbase ?_
  intro k hk
  exact (hown.lt k hk).1
def bytes (s : ByteArray) : List Nat := s.data.toList.map UInt8.toNat
theorem bytes_len (s : ByteArray) : (bytes s).length = s.size := by simp only [bytes, List.length_map, Array.length_toList]; rfl
theorem bytes_lt (s : ByteArray) : ∀ x ∈ bytes s, x < 256 := by
 intro x hx
 obtain ⟨y, _, rfl⟩ := List.mem_map.1 hx
 exact y.toNat_lt
end Go.Proofs.Ytmfgplbfojnkdaa.kit
namespace Go.Proofs.Ytmfgplbfojnkdaa.cl
open Go.RowKit
def Cells (w : World) (B : Nat) (v : Value) (n k : Nat) (vs : List Value) : Prop :=
 vs.length = n * k ∧ ∃ (ao : Option Addr) (cap : Nat), v = .slice ao n cap ∧ ((ao = none → cap = 0) ∧ n ≤ cap) ∧ n ≤ maxLen ∧
  (0 < n → ∃ b off, ao = some ⟨b, off, none⟩ ∧ b < B ∧ ∀ j u, vs[j]? = some u → w.cell? ⟨b, off + j, none⟩ = some u)
theorem Cells.below {w w' : World} {B : Nat} {v : Value} {n k : Nat} {vs : List Value} (h : Cells w B v n k vs) (hb : Below B w w') : Cells w' B v n k vs := by
 obtain ⟨h0, ao, cap, rfl, h1, h3, h2⟩ := h
 refine ⟨h0, ao, cap, rfl, h1, h3, fun hp => ?_⟩
 obtain ⟨b, off, e, hB, hc⟩ := h2 hp
 exact ⟨b, off, e, hB, fun j u hj => by rw [hb.cell (p := ⟨b, off + j, none⟩) hB]; exact hc j u hj⟩
theorem Cells.mono {w : World} {B B' : Nat} {v : Value} {n k : Nat} {vs : List Value} (h : Cells w B v n k vs) (hb : B ≤ B') : Cells w B' v n k vs := by
 obtain ⟨h0, ao, cap, rfl, h1, h3, h2⟩ := h
 refine ⟨h0, ao, cap, rfl, h1, h3, fun hp => ?_⟩
 obtain ⟨b, off, e, hB, hc⟩ := h2 hp
 exact ⟨b, off, e, by omega, hc⟩
theorem Cells.next {W W' : World} {v : Value} {n k : Nat} {vs : List Value} (h : Cells W W.heap.size v n k vs) (hb : Below W.heap.size W W') : Cells W' W'.heap.size v n k vs := (h.below hb).mono hb.size
theorem Cells.form {w : World} {B : Nat} {v : Value} {n k : Nat} {vs : List Value} (h : Cells w B v n k vs) : ∃ ao cap, v = .slice ao n cap ∧ n ≤ cap ∧ n ≤ maxLen := by
 obtain ⟨_, ao, cap, rfl, h1, h3, _⟩ := h
 exact ⟨ao, cap, rfl, h1.2, h3⟩
theorem Cells.nil (w : World) (B k : Nat) : Cells w B (.slice none 0 0) 0 k [] := ⟨by simp, none, 0, rfl, ⟨fun _ => rfl, Nat.le_refl _⟩, by simp, fun h => absurd h (by simp)⟩
theorem Cells.zero {w : World} {B k cap : Nat} {ao : Option Addr} (h : ao = none → cap = 0) : Cells w B (.slice ao 0 cap) 0 k [] := ⟨by simp, ao, cap, rfl, ⟨h, Nat.zero_le _⟩, by simp, fun h => absurd h (by simp)⟩
theorem Cells.own {w : World} {base : Nat} {e : TypeId} {v : Value} {n k : Nat} {vs : List Value} (h : w.ownsRow base e k v n vs) : Cells w w.heap.size v n k vs := by
 have hlt := h.lt
 have hl := h.1
 rcases h.2 with ⟨rfl, rfl⟩ | ⟨g, cap, cur, rfl, hbg, hg, hnc, hcm, hcs, htake⟩
 ·
  obtain rfl : vs = [] := List.eq_nil_of_length_eq_zero (by simpa using hl)
  exact Cells.nil w _ _
 ·
  refine ⟨hl, _, _, rfl, ⟨(fun e => by cases e), hnc⟩, Nat.le_trans hnc hcm, fun _ => ⟨g, 0, rfl, (hlt g rfl).2, fun j u hj => ?_⟩⟩
  have := h.cells (g := g) rfl j u hj
  rwa [Addr.add_lit] at this
theorem Cells.news {w : World} {B : Nat} {ao : Option Addr} {n cap k : Nat} {vs : List Value} (h : Cells w B (.slice ao n cap) n k vs) : (ao = none → n = 0 ∧ cap = 0) ∧ (∀ ad, ao = some ad → ∀ j u, vs[j]? = some u → w.cell? (ad.add j) = some u) := by
 obtain ⟨h0, ao', c, e, ⟨h1, h2⟩, h3, h4⟩ := h
 simp only [Value.slice.injEq] at e
 obtain ⟨rfl, _, rfl⟩ := e
 refine ⟨fun e => ⟨by have := h1 e; omega, h1 e⟩, fun ad e j u hj => ?_⟩
 have hjl : j < vs.length := (List.getElem?_eq_some_iff.1 hj).1
 have hn : 0 < n := by
  rcases Nat.eq_zero_or_pos n with h | h
  ·
   rw [h, Nat.zero_mul] at h0; omega
  ·
   exact h
 obtain ⟨b, o, e2, _, hc⟩ := h4 hn
 rw [e] at e2
 obtain rfl := Option.some.inj e2
 rw [Addr.add_lit]
 exact hc j u hj
theorem Cells.at {w : World} {B b off n cap k : Nat} {vs : List Value} (h : Cells w B (.slice (some ⟨b, off, none⟩) n cap) n k vs) (hn : 0 < n) : b < B ∧ ∀ j u, vs[j]? = some u → w.cell? ⟨b, off + j, none⟩ = some u := by
 obtain ⟨h0, ao', c, e, ⟨h1, h2⟩, h3, h4⟩ := h
 simp only [Value.slice.injEq] at e
 obtain ⟨rfl, _, rfl⟩ := e
 obtain ⟨b', o', e2, h5, hc⟩ := h4 hn
 simp only [Option.some.injEq, Addr.mk.injEq] at e2
 obtain ⟨rfl, rfl, _⟩ := e2
 exact ⟨h5, hc⟩
theorem cells_lit (W : World) (n k : Nat) (vs : List Value) (arr : Array Value) (t : TypeId) (harr : arr.toList = vs) (hl : vs.length = n * k) (hn : n ≤ maxLen) :
  Cells (W.alloc (.cells arr t)) (W.alloc (.cells arr t)).heap.size (.slice (some ⟨W.heap.size, 0, none⟩) n n) n k vs := by
 refine ⟨hl, _, _, rfl, ⟨(fun e => by cases e), Nat.le_refl _⟩, hn, fun _ => ⟨_, _, rfl, by simp, fun j u hj => ?_⟩⟩
 rw [Nat.zero_add, World.cell?_alloc_at _ _ _ _ rfl, ← Array.getElem?_toList, harr]
 exact hj
def strs (l : List ByteArray) : List Value := l.map Value.string
theorem strs_len (l : List ByteArray) : (strs l).length = l.length := by simp [strs]
theorem strs_take (a : List ByteArray) (n : Nat) : (strs a).take n = strs (a.take n) := by simp [strs]
theorem strs_drop (a : List ByteArray) (n : Nat) : (strs a).drop n = strs (a.drop n) := by simp [strs]
theorem strs_get {l : List ByteArray} {j : Nat} (hj : j < l.length) : (strs l)[j]? = some (.string (l.getD j .empty)) := by simp [strs, List.getD, hj]
abbrev Strs (w : World) (B : Nat) (v : Value) (l : List ByteArray) : Prop := Cells w B v l.length 1 (strs l)
theorem Strs.cell {w : World} {B b off n cap : Nat} {l : List ByteArray} (h : Strs w B (.slice (some ⟨b, off, none⟩) n cap) l) (hn : n = l.length) {j : Nat} (hj : j < n) : b < B ∧ w.cell? ⟨b, off + j, none⟩ = some (.string (l.getD j .empty)) := by
 subst hn
 obtain ⟨hB, hc⟩ := h.at (by omega)
 exact ⟨hB, hc j _ (strs_get hj)⟩
theorem Cells.drop {w : World} {B n cap k i : Nat} {ao : Option Addr} {vs : List Value} (h : Cells w B (.slice ao n cap) n k vs) (hi : i ≤ n) :
  Cells w B (.slice (Option.map (fun x => x.add (i * k)) ao) (n - i) (cap - i)) (n - i) k (vs.drop (i * k)) := by
 obtain ⟨h0, ao', c, e, ⟨h1, h2⟩, h3, h4⟩ := h
 simp only [Value.slice.injEq] at e
 obtain ⟨rfl, _, rfl⟩ := e
 refine ⟨by rw [List.length_drop, h0, Nat.sub_mul], _, _, rfl, ⟨fun e => ?_, by omega⟩, by omega, fun hp => ?_⟩
 ·
  cases ao with
  | none => have := h1 rfl; omega
  | some a => cases e
 ·
  obtain ⟨b, off, rfl, hB, hc⟩ := h4 (by omega)
  refine ⟨b, off + i * k, ?_, hB, fun j u hj => ?_⟩
  ·
   simp only [Option.map_some, Addr.add_lit]
  ·
   rw [List.getElem?_drop] at hj
   rw [Nat.add_assoc]; exact hc _ u hj
theorem Strs.drop {w : World} {B n cap i : Nat} {ao : Option Addr} {l : List ByteArray} (h : Strs w B (.slice ao n cap) l) (hn : n = l.length) (hi : i ≤ n) :
  Strs w B (.slice (Option.map (fun x => x.add i) ao) (n - i) (cap - i)) (l.drop i) := by
 subst hn
 have := Cells.drop h hi
 rw [Nat.mul_one, strs_drop] at this
 unfold Strs
 rw [List.length_drop]
 exact this
theorem Strs.form' {w : World} {B n : Nat} {v : Value} {l : List ByteArray} (h : Strs w B v l) (hn : n = l.length) : ∃ ao cap, v = .slice ao n cap ∧ n ≤ cap := by
 subst hn
 obtain ⟨ao, cap, rfl, h1, _⟩ := h.form
 exact ⟨ao, cap, rfl, h1⟩
theorem Strs.take {w : World} {B n cap m : Nat} {ao : Option Addr} {l : List ByteArray} (h : Strs w B (.slice ao n cap) l) (hn : n = l.length) (hm : m ≤ n) :
  Strs w B (.slice ao m cap) (l.take m) := by
 subst hn
 obtain ⟨h0, ao', c, e, ⟨h1, h2⟩, h3, h4⟩ := h
 simp only [Value.slice.injEq] at e
 obtain ⟨rfl, _, rfl⟩ := e
 have hl : (l.take m).length = m := by rw [List.length_take]; omega
 refine ⟨by rw [strs_len, Nat.mul_one], _, _, by rw [hl], ⟨h1, by omega⟩, by omega, fun hp => ?_⟩
 obtain ⟨b, off, rfl, hB, hc⟩ := h4 (by omega)
 refine ⟨b, off, rfl, hB, fun j u hj => hc j u ?_⟩
 rw [← strs_take, List.getElem?_take] at hj
 split at hj
 ·
  exact hj
 ·
  cases hj
end Go.Proofs.Ytmfgplbfojnkdaa.cl
namespace Go.Proofs.Ytmfgplbfojnkdaa.cl
open Go.RowKit Go.WideShapes Go.ChangeShapes
abbrev Rel (α : Type) := World → Nat → List Value → α → Prop
def Steady {α : Type} (R : Rel α) : Prop := ∀ (w w' : World) (B B' : Nat) (c : List Value) (x : α), R w B c x → Below B w w' → B ≤ B' → R w' B' c x
def RowsAt {α : Type} (k : Nat) (R : Rel α) (w : World) (B : Nat) (v : Value) (l : List α) : Prop :=
 ∃ cs : List (List Value), cs.length = l.length ∧ (∀ (j : Nat) (c : List Value) (x : α), cs[j]? = some c → l[j]? = some x → c.length = k ∧ R w B c x) ∧ Cells w B v l.length k cs.flatten
theorem flat_len {k : Nat} : ∀ cs : List (List Value), (∀ c ∈ cs, c.length = k) → cs.flatten.length = cs.length * k := by
 intro cs
 induction cs with
 | nil => intro _; simp
 | cons c cs ih =>
  intro h
  rw [List.flatten_cons, List.length_append, ih (fun x hx => h x (List.mem_cons_of_mem _ hx)), h c List.mem_cons_self, List.length_cons, Nat.succ_mul]; omega
theorem flat_get {k : Nat} : ∀ (cs : List (List Value)), (∀ c ∈ cs, c.length = k) → ∀ (j : Nat) (c : List Value) (i : Nat), cs[j]? = some c → i < k → cs.flatten[j * k + i]? = c[i]? := by
 intro cs
 induction cs with
 | nil => intro _ j c i h; simp at h
 | cons a cs ih =>
  intro h j c i hj hi
  have ha : a.length = k := h a List.mem_cons_self
  rw [List.flatten_cons]
  cases j with
  | zero =>
   simp only [List.getElem?_cons_zero, Option.some.injEq] at hj
   subst hj
   rw [Nat.zero_mul, Nat.zero_add, List.getElem?_append_left (by omega)]
  | succ j =>
   simp only [List.getElem?_cons_succ] at hj
   rw [Nat.succ_mul, List.getElem?_append_right (by omega), show j * k + k + i - a.length = j * k + i by omega]
   exact ih (fun x hx => h x (List.mem_cons_of_mem _ hx)) j c i hj hi
section
variable {α : Type} {k : Nat} {R : Rel α} {w w' : World} {B B' : Nat} {v : Value} {l : List α}
theorem RowsAt.len {cs : List (List Value)} (h0 : cs.length = l.length) (h : ∀ (j : Nat) (c : List Value) (x : α), cs[j]? = some c → l[j]? = some x → c.length = k ∧ R w B c x) : ∀ c ∈ cs, c.length = k := by
 intro c hc
 obtain ⟨j, hj, rfl⟩ := List.mem_iff_getElem.1 hc
 exact (h j _ l[j] (List.getElem?_eq_getElem hj) (List.getElem?_eq_getElem (by omega))).1
theorem RowsAt.below (hR : Steady R) (h : RowsAt k R w B v l) (hb : Below B w w') (hB : B ≤ B') : RowsAt k R w' B' v l := by
 obtain ⟨cs, h0, h1, h2⟩ := h
 exact ⟨cs, h0, fun j c x hc hx => ⟨(h1 j c x hc hx).1, hR _ _ _ _ _ _ (h1 j c x hc hx).2 hb hB⟩, (h2.below hb).mono hB⟩
theorem RowsAt.next (hR : Steady R) (h : RowsAt k R w w.heap.size v l) (hb : Below w.heap.size w w') : RowsAt k R w' w'.heap.size v l := h.below hR hb hb.size
theorem RowsAt.mono (hR : Steady R) (h : RowsAt k R w B v l) (hB : B ≤ B') : RowsAt k R w B' v l := h.below hR (Below.refl _ _) hB
theorem RowsAt.form (h : RowsAt k R w B v l) : ∃ ao cap, v = .slice ao l.length cap ∧ l.length ≤ cap ∧ l.length ≤ maxLen := h.choose_spec.2.2.form
theorem RowsAt.form' (h : RowsAt k R w B v l) {n : Nat} (hn : n = l.length) : ∃ ao cap, v = .slice ao n cap ∧ n ≤ cap ∧ n ≤ maxLen := by subst hn; exact h.form
theorem RowsAt.nil (w : World) (B : Nat) : RowsAt k R w B (.slice none 0 0) [] := ⟨[], rfl, fun j c x hc => by simp at hc, Cells.nil _ _ _⟩
theorem RowsAt.get {ao : Option Addr} {n cap : Nat} (h : RowsAt k R w B (.slice ao n cap) l) (hn : n = l.length) {j : Nat} (hj : j < n) (d : α) :
  ∃ b off c, ao = some ⟨b, off, none⟩ ∧ b < B ∧ c.length = k ∧ R w B c (l.getD j d) ∧ ∀ (i : Nat) u, c[i]? = some u → w.cell? ⟨b, off + j * k + i, none⟩ = some u := by
 subst hn
 obtain ⟨cs, h0, h1, h2⟩ := h
 have hk := RowsAt.len h0 h1
 obtain ⟨_, ao', c', e, _, _, h4⟩ := h2
 simp only [Value.slice.injEq] at e
 obtain ⟨rfl, _, rfl⟩ := e
 obtain ⟨b, off, rfl, hB, hc⟩ := h4 (by omega)
 have hcj : cs[j]? = some cs[j] := List.getElem?_eq_getElem (by omega)
 have hlj : l[j]? = some l[j] := List.getElem?_eq_getElem hj
 have e : l.getD j d = l[j] := by simp [List.getD, hlj]
 obtain ⟨g1, g2⟩ := h1 j _ _ hcj hlj
 refine ⟨b, off, cs[j], rfl, hB, g1, by rw [e]; exact g2, fun i u hu => ?_⟩
 have hi : i < k := by have := (List.getElem?_eq_some_iff.1 hu).1; omega
 rw [Nat.add_assoc]
 exact hc _ u (by rw [flat_get cs hk j _ i hcj hi]; exact hu)
theorem RowsAt.own {base : Nat} {e : TypeId} {n : Nat} {cs : List (List Value)} (hn : n = l.length) (h0 : cs.length = l.length) (h1 : ∀ (j : Nat) (c : List Value) (x : α), cs[j]? = some c → l[j]? = some x → c.length = k ∧ R w w.heap.size c x) (h : w.ownsRow base e k v n cs.flatten) : RowsAt k R w w.heap.size v l := by
 subst hn; exact ⟨cs, h0, h1, Cells.own h⟩
end
end Go.Proofs.Ytmfgplbfojnkdaa.cl
namespace Go.Proofs.Ytmfgplbfojnkdaa
open Go.RowKit Go.ChangeShapes
theorem own_stay {B : Nat} {e : TypeId} {k : Nat} {v : Value} {n : Nat} {xs : List Value} {w w' : World} (h : w.ownsRow B e k v n xs) (hb : Below w.heap.size w w') : w'.ownsRow B e k v n xs :=
 h.kept (row := none) ⟨hb.os, hb.tape, hb.output, hb.size, fun i hi _ => hb.block i hi⟩ (by cases v.ownBlock <;> simp)
theorem app1g {P : Program} {w : World} {ops : Array Oper} {rest : List Oper} {o : Oper} {a : Act} {Q : Exit → Act → World → Prop} {cs : Array Value} {e' : TypeId}
  (s x : Operand) (t : TypeId) (hgd : o.guard = none)
  (ho : o.op = .call { callee := .builtin .append, args := #[s, x], argTypes := #[t, t] })
  (base : Nat) {e : TypeId} {z : Value} {size bytes : Nat} (ht : P.underlying t = some (.slice e)) (hi : (P.info? e).map (fun i => (i.zero, i.size, i.bytes)) = some (some z, size, bytes))
  (hzs : z.cells.size = size) (hsz : 0 < size) (hb1 : 0 < bytes)
  {v : Value} {n : Nat} {xs : List Value} {c : Nat} (hown : w.ownsRow base e size v n xs) (hs : a.eval s = v) (hx : a.eval x = .slice (some ⟨w.heap.size, 0, none⟩) 1 c)
  (hcs : cs.size = size) (h1 : ∀ u ∈ cs.toList, u.oneCell' = true) (hbytes : (n + 1) * bytes ≤ 140737488355328) (hbase : base ≤ w.heap.size)
  (h : ∀ v' w', w'.ownsRow base e size v' (n + 1) (xs ++ cs.toList) → (w.alloc (.cells cs e')).grownBy w' v.ownBlock → wpList P ops Q rest (a.put o.dst v') w') :
  wpList P ops Q (o :: rest) a (w.alloc (.cells cs e')) := by
 obtain ⟨i, hi, hz, hsize, hby⟩ := info_parts hi
 have hle : n + 1 ≤ (n + 1) * bytes := Nat.le_mul_of_pos_right _ hb1
 refine wpList_append_own _ hgd s x t ho base e i z size bytes ht hi hz hsize hby hzs hsz v n xs hs (hown.alloc _) ⟨w.heap.size, 0, none⟩ 1 c cs.toList hx (by simp [hcs]) ?_ h1
  (by unfold maxLen; omega) hbytes (by simp; omega) fun v' w' r1 r2 _ => h v' w' r1 r2
 intro j u hj
 rw [Array.getElem?_toList] at hj
 rw [Addr.add_lit, Nat.zero_add, World.cell?_alloc_at _ _ _ _ rfl]
 exact hj
theorem grown_below {w w' : World} {B k n : Nat} {e : TypeId} {v : Value} {xs : List Value} (ho : w.ownsRow B e k v n xs) (hB : B ≤ w.heap.size) (hg : w.grownBy w' v.ownBlock) : Below B w w' :=
 (Below.refl B w).grown hg hB (fun k hk => (ho.lt k hk).1)
end Go.Proofs.Ytmfgplbfojnkdaa
namespace Go.Proofs.Ytmfgplbfojnkdaa
open Go Go.RowKit Go.ChangeShapes cl
theorem below1 {w : World} {o : Obj} : Below w.heap.size w (w.alloc o) := (Below.refl _ _).alloc (Nat.le_refl _) _
theorem boxc {w : World} {q : Nat} {cs : Array Value} {t : TypeId} {fr : Nat × Nat} (h : w.heap[q]? = some (.cells cs t fr)) (i : Nat) (u : Value) (hu : cs[i]? = some u) : w.cell? ⟨q, i, none⟩ = some u := by simp [World.cell?, h, hu]
theorem boxf {w : World} {q : Nat} {cs : Array Value} {t : TypeId} (h : w.heap[q]? = some (.cells cs t (0, 0))) (i : Nat) : w.frozen? ⟨q, i, none⟩ = false := by simp [World.frozen?, h]
def FreA (B : Nat) (av : Option Nat) (W : World) (P : World → Prop) : Prop :=
 ∀ W', W.heap.size ≤ W'.heap.size → (∀ j, B ≤ j → j < W.heap.size → some j ≠ av → W'.heap[j]? = W.heap[j]?) → P W'
def Fre (B : Nat) (W : World) (P : World → Prop) : Prop := FreA B none W P
section
variable {B B' : Nat} {av av' : Option Nat} {W W' : World} {P P' : World → Prop}
theorem FreA.at (h : FreA B av W P) : P W := h W (Nat.le_refl _) (fun _ _ _ _ => rfl)
theorem FreA.low (h : FreA B av W P) (hB : B' ≤ B) : FreA B' av W P := fun W' h1 h2 => h W' h1 (fun j hj => h2 j (Nat.le_trans hB hj))
theorem FreA.imp (h : FreA B av W P) (hp : ∀ w, P w → P' w) : FreA B av W P' := fun W' h1 h2 => hp _ (h W' h1 h2)
theorem FreA.step (h : FreA B av W P) (hs : W.heap.size ≤ W'.heap.size) (hk : ∀ j, B ≤ j → j < W.heap.size → some j ≠ av → W'.heap[j]? = W.heap[j]?) (hav : av' = av ∨ ∀ b, av' = some b → W.heap.size ≤ b) : FreA B av' W' P := by
 intro W2 h1 h2
 refine h W2 (Nat.le_trans hs h1) (fun j hB hj hn => (h2 j hB (Nat.lt_of_lt_of_le hj hs) ?_).trans (hk j hB hj hn))
 rcases hav with rfl | hav
 ·
  exact hn
 ·
  intro e
  have := hav j e.symm
  omega
theorem FreA.next (h : FreA B av W P) (hb : Below W.heap.size W W') : FreA B av W' P := h.step hb.size (fun j _ hj _ => hb.block j hj) (Or.inl rfl)
theorem FreA.grown (h : FreA B av W P) (hg : W.grownBy W' av) (hav : av' = av ∨ ∀ b, av' = some b → W.heap.size ≤ b) : FreA B av' W' P := h.step hg.size (fun j _ hj hn => hg.block j hj hn) hav
theorem FreA.off (h : FreA B none W P) (hav : ∀ b, av = some b → b < B ∨ W.heap.size ≤ b) : FreA B av W P := by
 intro W2 h1 h2
 refine h W2 h1 (fun j hB hj _ => h2 j hB hj ?_)
 intro e
 rcases hav j e.symm with h | h <;> omega
theorem FreA.none' (h : FreA B av W P) : FreA B none W P := fun W2 h1 h2 => h W2 h1 (fun j hB hj _ => h2 j hB hj (by simp))
end
theorem own_fre {B k n : Nat} {T : TypeId} {v : Value} {xs : List Value} {W W' : World} (h : W.ownsRow B T k v n xs) (hk : ∀ j, B ≤ j → j < W.heap.size → W'.heap[j]? = W.heap[j]?) : W'.ownsRow B T k v n xs := by
 refine ⟨h.1, ?_⟩
 rcases h.2 with h | ⟨g, cap, cur, hv, hb, hg, r⟩
 ·
  exact Or.inl h
 ·
  exact Or.inr ⟨g, cap, cur, hv, hb, by rw [hk g hb (lt_of_block hg)]; exact hg, r⟩
theorem RowsAt.fre {α : Type} {B k n : Nat} {T : TypeId} {R : Rel α} {v : Value} {cs : List (List Value)} {l : List α} {W : World} (h0 : cs.length = l.length) (hn : n = l.length)
  (h1 : ∀ (j : Nat) (c : List Value) (x : α), cs[j]? = some c → l[j]? = some x → FreA B v.ownBlock W (fun w => c.length = k ∧ R w w.heap.size c x)) (ho : W.ownsRow B T k v n cs.flatten) : Fre B W (fun w => RowsAt k R w w.heap.size v l) := by
 intro W' hs hk
 refine RowsAt.own (e := T) (base := B) (n := n) hn h0 (fun j c x hc hx => h1 j c x hc hx W' hs (fun j hB hj _ => hk j hB hj (by simp))) (own_fre ho (fun j hB hj => hk j hB hj (by simp)))
theorem snoc_fre {α : Type} {Q : List Value → α → Prop} {cs : List (List Value)} {L : List α} {c : List Value} {x : α} (h0 : cs.length = L.length) (h1 : ∀ (j : Nat) (c : List Value) (x : α), cs[j]? = some c → L[j]? = some x → Q c x) (hx : Q c x) :
  ∀ (j : Nat) (c' : List Value) (x' : α), (cs ++ [c])[j]? = some c' → (L ++ [x])[j]? = some x' → Q c' x' := by
 intro j c' x' hc' hx'
 rcases Nat.lt_or_ge j cs.length with h | h
 ·
  rw [List.getElem?_append_left h] at hc'
  rw [List.getElem?_append_left (by omega)] at hx'
  exact h1 j c' x' hc' hx'
 ·
  have hj : j = cs.length := by
   have := (List.getElem?_eq_some_iff.1 hc').1
   simp at this; omega
  subst hj
  rw [List.getElem?_append_right (Nat.le_refl _), Nat.sub_self] at hc'
  rw [List.getElem?_append_right (by omega), h0, Nat.sub_self] at hx'
  cases hc'
  cases hx'
  exact hx
theorem run_append_blk {P : Program} (w : World) (base : Nat) (t ty e : TypeId) (i : TypeInfo) (z : Value) (size bytes : Nat) (ht : P.underlying t = some (.slice e)) (hi : P.info? e = some i) (hz : i.zero = some z)
  (hsize : i.size = size) (hby : i.bytes = bytes) (hzs : z.cells.size = size) (hsz : 0 < size)
  (v : Value) (n : Nat) (xs : List Value) (hown : w.ownsRow base e size v n xs)
  (a : Addr) (m c : Nat) (news : List Value) (hl : news.length = m * size) (hnews : ∀ j u, news[j]? = some u → w.cell? (a.add j) = some u) (h1 : ∀ u ∈ news, u.oneCell' = true)
  (h63 : n + m ≤ maxLen) (hbytes : (n + m) * bytes ≤ 140737488355328) (hbase : base ≤ w.heap.size) :
  ∃ v' w', (Builtin.append_ #[t, t] ty #[v, .slice (some a) m c]).run P w = .ok v' w' ∧ w'.ownsRow base e size v' (n + m) (xs ++ news) ∧ w.grownBy w' v.ownBlock ∧
   (v'.ownBlock = v.ownBlock ∨ ∀ b, v'.ownBlock = some b → w.heap.size ≤ b) := by
 obtain ⟨v', w', hr, h2, h3, h4⟩ := run_append_own (P := P) w base t ty e i z size bytes ht hi hz hsize hby hzs hsz v n xs hown a m c news hl hnews h1 h63 hbytes hbase
 refine ⟨v', w', hr, h2, h3, ?_⟩
 rcases hown.2 with ⟨rfl, rfl⟩ | ⟨g, cap, cur, rfl, hbg, hg, hnc, hcm, hcs, htake⟩
 ·
  have hx : xs = [] := List.eq_nil_of_length_eq_zero (by simpa using hown.1)
  subst hx
  obtain ⟨v2, w2, hr2, g2, _, _⟩ := run_append_own (P := P) w w.heap.size t ty e i z size bytes ht hi hz hsize hby hzs hsz (.slice none 0 0) 0 [] (World.ownsRow_nil _ _ _ _) a m c news hl hnews h1 h63 hbytes (Nat.le_refl _)
  rw [hr] at hr2
  simp only [Result.ok.injEq] at hr2
  obtain ⟨rfl, rfl⟩ := hr2
  refine Or.inr (fun b hb => ?_)
  rcases g2.2 with ⟨rfl, _⟩ | ⟨g, cap, cur, rfl, hbg, _⟩
  ·
   simp [Value.ownBlock] at hb
  ·
   simp only [Value.ownBlock, Option.some.injEq] at hb
   omega
 ·
  subst hsize
  subst hby
  by_cases hroom : n + m ≤ cap
  ·
   have hfit : n * i.size + news.length ≤ cur.size := by rw [hl, hcs, ← Nat.add_mul]; exact Nat.mul_le_mul_right _ hroom
   have hr2 := run_append_room (P := P) w t ty e i ht hi g n cap cur hg a m c news hl hnews h1 hroom hfit
   rw [hr] at hr2
   simp only [Result.ok.injEq] at hr2
   obtain ⟨rfl, rfl⟩ := hr2
   exact Or.inl rfl
  ·
   have hsmall : n + m ≤ 9223372036854775807 := by simp only [maxLen] at h63; omega
   have holds : ∀ j u, xs[j]? = some u → w.cell? ((⟨g, 0, none⟩ : Addr).add j) = some u := hown.cells (g := g) rfl
   have hr2 := run_append_grow (P := P) w t ty e i z ht hi hz ⟨g, 0, none⟩ n cap xs hown.1 holds a m c news hl hnews (by omega) (by omega) (growslice_fits (by omega) hbytes)
   rw [hr] at hr2
   simp only [Result.ok.injEq] at hr2
   obtain ⟨rfl, rfl⟩ := hr2
   refine Or.inr (fun b hb => ?_)
   simp only [Value.ownBlock, Option.some.injEq] at hb
   omega
namespace kit
theorem app1k {P : Program} {w : World} {ops : Array Oper} {rest : List Oper} {o : Oper} {a : Act} {Q : Exit → Act → World → Prop} {cs : Array Value} {e' : TypeId} (B : Nat) (hB : B = w.heap.size)
  (s x : Operand) (t : TypeId) (hgd : o.guard = none)
  (ho : o.op = .call { callee := .builtin .append, args := #[s, x], argTypes := #[t, t] })
  (base : Nat) {e : TypeId} {z : Value} {size bytes : Nat} (ht : P.underlying t = some (.slice e)) (hi : (P.info? e).map (fun i => (i.zero, i.size, i.bytes)) = some (some z, size, bytes))
  (hzs : z.cells.size = size) (hsz : 0 < size) (hb1 : 0 < bytes)
  {v : Value} {n : Nat} {xs : List Value} {c : Nat} (hown : w.ownsRow base e size v n xs) (hs : a.eval s = v) (hx : a.eval x = .slice (some ⟨B, 0, none⟩) 1 c)
  (hcs : cs.size = size) (h1 : ∀ u ∈ cs.toList, u.oneCell' = true) (hbytes : (n + 1) * bytes ≤ 140737488355328) (hbase : base ≤ w.heap.size)
  (h : ∀ v' w', w'.ownsRow base e size v' (n + 1) (xs ++ cs.toList) → (w.alloc (.cells cs e')).grownBy w' v.ownBlock → (v'.ownBlock = v.ownBlock ∨ ∀ b, v'.ownBlock = some b → (w.alloc (.cells cs e')).heap.size ≤ b) → wpList P ops Q rest (a.put o.dst v') w') :
  wpList P ops Q (o :: rest) a (w.alloc (.cells cs e')) := by
 subst hB
 obtain ⟨i, hi, hz, hsize, hby⟩ := info_parts hi
 have hle : n + 1 ≤ (n + 1) * bytes := Nat.le_mul_of_pos_right _ hb1
 refine wpList_plain hgd fun _ hK => ?_
 obtain ⟨v', w', hr, h2, h3, h4⟩ := run_append_blk (P := P) (w.alloc (.cells cs e')) base t o.type e i z size bytes ht hi hz hsize hby hzs hsz v n xs (hown.alloc _) ⟨w.heap.size, 0, none⟩ 1 c cs.toList (by simp [hcs]) (by
  intro j u hj
  rw [Array.getElem?_toList] at hj
  rw [Addr.add_lit, Nat.zero_add]
  exact boxc (heap_alloc_new w _) j u hj) h1 (by unfold maxLen; omega) hbytes (by simp; omega)
 unfold Oper.wp execOp
 simp only [ho, resolve, invoke, builtin, Sem.run_bind, Sem.run_pure, Result.andThen_ok, List.map_toArray, List.map_cons, List.map_nil, hs, hx, hr]
 refine hK _ _ (h v' w' h2 h3 h4)
end kit
end Go.Proofs.Ytmfgplbfojnkdaa
namespace Go.Proofs.Ytmfgplbfojnkdaa
open Go Go.RowKit Go.ChangeShapes cl
theorem own_slice {w : World} {B n k : Nat} {e : TypeId} {v : Value} {xs : List Value} (h : w.ownsRow B e k v n xs) : ∃ ao cap, v = .slice ao n cap := by
 rcases h.2 with ⟨rfl, rfl⟩ | ⟨g, cap, cur, rfl, _⟩ <;> exact ⟨_, _, rfl⟩
theorem app_below {X w3 : World} {B k n : Nat} {T : TypeId} {v : Value} {xs : List Value} {o : Obj} (ho : X.ownsRow B T k v n xs) (hB : B ≤ X.heap.size) (hg : (X.alloc o).grownBy w3 v.ownBlock) : Below B X w3 :=
 ((below1 (w := X) (o := o)).mono hB).trans (grown_below (ho.alloc o) (Nat.le_trans hB (by rw [World.size_alloc]; omega)) hg)
theorem own_lt {w : World} {B n k : Nat} {e : TypeId} {v : Value} {xs : List Value} (h : w.ownsRow B e k v n xs) : ∀ b, v.ownBlock = some b → B ≤ b ∧ b < w.heap.size := by
 intro b hb
 rcases h.2 with ⟨rfl, _⟩ | ⟨g, cap, cur, rfl, hB, hg, _⟩
 ·
  simp [Value.ownBlock] at hb
 ·
  simp only [Value.ownBlock, Option.some.injEq] at hb
  subst hb
  exact ⟨hB, lt_of_block hg⟩
def FrX (q : Nat) (av : Option Nat) (W : World) (P : World → Prop) : Prop :=
 ∀ W', (W'.os = W.os ∧ W'.tape = W.tape ∧ W'.output = W.output) → W.heap.size ≤ W'.heap.size → (∀ j, j < W.heap.size → j ≠ q → some j ≠ av → W'.heap[j]? = W.heap[j]?) → P W'
def KX (q : Nat) (W W' : World) : Prop := (W'.os = W.os ∧ W'.tape = W.tape ∧ W'.output = W.output) ∧ W.heap.size ≤ W'.heap.size ∧ ∀ j, j < W.heap.size → j ≠ q → W'.heap[j]? = W.heap[j]?
section
variable {q : Nat} {av av' : Option Nat} {W W' W2 : World} {P P' : World → Prop}
theorem FrX.at (h : FrX q av W P) : P W := h W ⟨rfl, rfl, rfl⟩ (Nat.le_refl _) (fun _ _ _ _ => rfl)
theorem FrX.imp (h : FrX q av W P) (hp : ∀ w, P w → P' w) : FrX q av W P' := fun W' h0 h1 h2 => hp _ (h W' h0 h1 h2)
theorem FrX.next (h : FrX q av W P) (hb : Below W.heap.size W W') : FrX q av W' P :=
 fun W2 h0 h1 h2 => h W2 ⟨h0.1.trans hb.os, h0.2.1.trans hb.tape, h0.2.2.trans hb.output⟩ (Nat.le_trans hb.size h1) (fun j hj hq hn => (h2 j (Nat.lt_of_lt_of_le hj hb.size) hq hn).trans (hb.block j hj))
theorem FrX.grown (h : FrX q av W P) (hg : W.grownBy W' av) (hav : av' = av ∨ ∀ b, av' = some b → W.heap.size ≤ b) : FrX q av' W' P := by
 intro W2 h0 h1 h2
 refine h W2 ⟨h0.1.trans hg.os, h0.2.1.trans hg.tape, h0.2.2.trans hg.output⟩ (Nat.le_trans hg.size h1) (fun j hj hq hn => (h2 j (Nat.lt_of_lt_of_le hj hg.size) hq ?_).trans (hg.block j hj hn))
 rcases hav with rfl | hav
 ·
  exact hn
 ·
  intro e
  have := hav j e.symm
  omega
theorem FrX.of {B : Nat} (h : Fre B W P) (hq : q < B) (hav : ∀ b, av = some b → b < B) : FrX q av W P := by
 intro W2 _ h1 h2
 refine h W2 h1 (fun j hB hj _ => h2 j hj (by omega) ?_)
 intro e
 have := hav j e.symm
 omega
theorem FrX.off (h : FrX q none W P) (hk : KX q W W') (hav : ∀ b, av = some b → W.heap.size ≤ b) : FrX q av W' P := by
 intro W2 h0 h1 h2
 refine h W2 ⟨h0.1.trans hk.1.1, h0.2.1.trans hk.1.2.1, h0.2.2.trans hk.1.2.2⟩ (Nat.le_trans hk.2.1 h1) (fun j hj hq _ => (h2 j (Nat.lt_of_lt_of_le hj hk.2.1) hq ?_).trans (hk.2.2 j hj hq))
 intro e
 have := hav j e.symm
 omega
theorem KX.refl : KX q W W := ⟨⟨rfl, rfl, rfl⟩, Nat.le_refl _, fun _ _ _ => rfl⟩
theorem KX.of (hb : Below W.heap.size W W') : KX q W W' := ⟨⟨hb.os, hb.tape, hb.output⟩, hb.size, fun j hj _ => hb.block j hj⟩
theorem KX.trans (h : KX q W W') (k : KX q W' W2) : KX q W W2 :=
 ⟨⟨k.1.1.trans h.1.1, k.1.2.1.trans h.1.2.1, k.1.2.2.trans h.1.2.2⟩, Nat.le_trans h.2.1 k.2.1, fun j hj hq => (k.2.2 j (Nat.lt_of_lt_of_le hj h.2.1) hq).trans (h.2.2 j hj hq)⟩
theorem KX.next (h : KX q W W') (hb : Below W'.heap.size W' W2) : KX q W W2 := h.trans (KX.of hb)
theorem KX.trans' {p : Nat} (h : KX q W W') (k : KX p W' W2) (hp : W.heap.size ≤ p) : KX q W W2 :=
 ⟨⟨k.1.1.trans h.1.1, k.1.2.1.trans h.1.2.1, k.1.2.2.trans h.1.2.2⟩, Nat.le_trans h.2.1 k.2.1, fun j hj hq => (k.2.2 j (Nat.lt_of_lt_of_le hj h.2.1) (by omega)).trans (h.2.2 j hj hq)⟩
theorem KX.row {cs : Array Value} : KX q W (W.setRow q cs) := ⟨⟨rfl, rfl, rfl⟩, by rw [setRow_size]; exact Nat.le_refl _, fun j _ hq => setRow_other _ _ _ _ hq⟩
theorem KX.cell {i : Nat} {u : Value} : KX q W (W.setCell ⟨q, i, none⟩ u) := ⟨⟨rfl, rfl, rfl⟩, by rw [World.size_setCell]; exact Nat.le_refl _, fun j _ hq => heap_setCell_other _ _ _ _ hq⟩
theorem FrX.kept (h : FrX q none W P) (hk : KX q W W') : FrX q none W' P := h.off hk (fun b hb => by cases hb)
end
theorem own_kx {w w' : World} {B q k n : Nat} {T : TypeId} {v : Value} {xs : List Value} (h : w.ownsRow B T k v n xs) (hk : KX q w w') (hq : q < B) : w'.ownsRow B T k v n xs := by
 refine ⟨h.1, ?_⟩
 rcases h.2 with h | ⟨g, cap, cur, hv, hb, hg, r⟩
 ·
  exact Or.inl h
 ·
  exact Or.inr ⟨g, cap, cur, hv, hb, (hk.2.2 g (lt_of_block hg) (by omega)).trans hg, r⟩
theorem own_lit {W : World} {k : Nat} {arr : Array Value} {T : TypeId} (hk : arr.size = k) : (W.alloc (.cells arr T)).ownsRow W.heap.size T k (.slice (some ⟨W.heap.size, 0, none⟩) 1 1) 1 arr.toList := by
 refine ⟨by simp [hk], Or.inr ⟨W.heap.size, 1, arr, rfl, Nat.le_refl _, heap_alloc_new _ _, Nat.le_refl _, by unfold maxLen; omega, by simp [hk], ?_⟩⟩
 rw [Nat.one_mul, ← hk, ← Array.length_toList]; exact List.take_length
theorem Fre.kx {B q : Nat} {W W' : World} {P : World → Prop} (h : Fre B W P) (hk : KX q W W') (hq : q < B) : Fre B W' P :=
 FreA.step h hk.2.1 (fun j hB hj _ => hk.2.2 j hj (by omega)) (Or.inl rfl)
theorem rows_one {α : Type} {R : Rel α} {B k : Nat} {W : World} {c : List Value} {x : α} {T : TypeId} (hx : Fre B W (fun V => R V V.heap.size c x)) (hc : c.length = k) (hB : B ≤ W.heap.size) :
  Fre B (W.alloc (.cells c.toArray T)) (fun V => RowsAt k R V V.heap.size (.slice (some ⟨W.heap.size, 0, none⟩) 1 1) [x]) := by
 have h1 := own_lit (W := W) (k := k) (arr := c.toArray) (T := T) (by simp [hc])
 have hx2 := FreA.next hx (below1 (o := .cells c.toArray T))
 intro V hs h2
 have h3 : V.ownsRow W.heap.size T k (.slice (some ⟨W.heap.size, 0, none⟩) 1 1) 1 c := own_fre (by simpa using h1) (fun j hj hl => h2 j (by omega) hl (by simp))
 refine RowsAt.own (n := 1) (cs := [c]) rfl rfl (fun j c' x' hc' hx' => ?_) (by simpa using h3)
 cases j with
 | zero =>
  simp only [List.getElem?_cons_zero, Option.some.injEq] at hc' hx'
  subst hc'; subst hx'
  exact ⟨hc, hx2 V hs h2⟩
 | succ j => simp at hc'
end Go.Proofs.Ytmfgplbfojnkdaa
namespace Go.Proofs.Ytmfgplbfojnkdaa.rx
structure Cls where
 a : Nat
 b : Nat
 c : Nat
 d : Nat
deriving DecidableEq
namespace Cls
def zero : Cls := ⟨0, 0, 0, 0⟩
def one (x : Nat) : Cls := if x < 64 then ⟨2 ^ x, 0, 0, 0⟩ else if x < 128 then ⟨0, 2 ^ (x - 64), 0, 0⟩ else if x < 192 then ⟨0, 0, 2 ^ (x - 128), 0⟩ else ⟨0, 0, 0, 2 ^ (x - 192)⟩
def wd (k : Cls) (x : Nat) : Nat := if x < 64 then k.a else if x < 128 then k.b else if x < 192 then k.c else k.d
def has (k : Cls) (x : Nat) : Bool := (k.wd x).testBit (x % 64)
def or (k l : Cls) : Cls := ⟨k.a ||| l.a, k.b ||| l.b, k.c ||| l.c, k.d ||| l.d⟩
end Cls
inductive Pat where
 | mk (k : Int) (cl : Cls) (ks : List Pat) (mn mx : Int)
instance : Inhabited Pat := ⟨.mk 0 .zero [] 0 0⟩
namespace Pat
def k : Pat → Int | mk k _ _ _ _ => k
def cl : Pat → Cls | mk _ c _ _ _ => c
def ks : Pat → List Pat | mk _ _ l _ _ => l
def mn : Pat → Int | mk _ _ _ n _ => n
def mx : Pat → Int | mk _ _ _ _ n => n
def zero : Pat := .mk 0 .zero [] 0 0
def ofCls (c : Cls) : Pat := .mk 2 c [] 0 0
def flat (kind : Int) (l : List Pat) : List Pat := l.flatMap (fun x => if x.k = kind then x.ks else [x])
def gather (kind : Int) (l : List Pat) : Pat := match flat kind l with
 | [] => .mk 1 .zero [] 0 0
 | [x] => x
 | l => .mk kind .zero l 0 0
end Pat
structure St where
 p : Nat
 dp : Int
 wr : Int
 co : Int
deriving DecidableEq
namespace St
def fail (at' co : Int) (t : St) : St := if t.co = 0 then { t with wr := at', co := co } else t
def fwd (t : St) : St := { t with p := t.p + 1 }
end St
section
variable (s : List Nat)
def nxt (t : St) : Option Nat := if t.co = 0 then s[t.p]? else none
def meets (c : Nat) (t : St) : Bool × St := if nxt s t = some c then (true, t.fwd) else (false, t)
def often (t : St) : (Int × Int × Bool) × St :=
 if nxt s t = some 42 then ((0, -1, true), t.fwd) else if nxt s t = some 43 then ((1, -1, true), t.fwd) else if nxt s t = some 63 then ((0, 1, true), t.fwd) else ((0, 0, false), t)
def many (x : Pat) (o : Int × Int × Bool) : Pat := if o.2.2 = false then x else if o.1 = 1 ∧ o.2.1 = 1 then x else .mk 5 .zero [x] o.1 o.2.1
variable (O : St → Pat × St)
def part (t : St) : Pat × St := let r := O t; let o := often s r.2; (many r.1 o.1, o.2)
def parts : Nat → St → List Pat → List Pat × St
 | 0, t, l => (l, t)
 | f + 1, t, l => match nxt s t with
  | none => (l, t)
  | some c => if c = 124 ∨ c = 41 then (l, t) else
   let r := part s O t
   parts f r.2 (if r.1.k ≠ 1 then l ++ [r.1] else l)
def row (t : St) : Pat × St := let r := parts s O (s.length + 1) t []; (Pat.gather 3 r.1, r.2)
def rowsL : Nat → St → List Pat → List Pat × St
 | 0, t, l => (l, t)
 | f + 1, t, l => let m := meets s 124 t
  if m.1 = true then let r := row s O m.2; rowsL f r.2 (l ++ [r.1]) else (l, t)
def rows (t : St) : Pat × St := let r := row s O t; let q := rowsL s O (s.length + 1) r.2 [r.1]; (Pat.gather 4 q.1, q.2)
def parse : Pat × Int × Int :=
 if 60 < s.length then (.zero, 0, 4) else
 let r := rows s O ⟨0, 0, 0, 0⟩
 let t := if r.2.co = 0 ∧ r.2.p < s.length then r.2.fail r.2.p 9 else r.2
 if t.co ≠ 0 then (.zero, t.wr, t.co) else (r.1, 0, 0)
end
end Go.Proofs.Ytmfgplbfojnkdaa.rx
namespace Go.Proofs.Ytmfgplbfojnkdaa
open Go Go.RowKit Go.ChangeShapes cl rx
def rxR : Nat → Rel Pat
 | 0 => fun _ _ _ _ => False
 | d + 1 => fun w B c x => ∃ (ko : Option Addr) (kn kc : Nat), c = [.int .i64 x.k, .int .u64 x.cl.a, .int .u64 x.cl.b, .int .u64 x.cl.c, .int .u64 x.cl.d, .slice ko kn kc, .int .i64 x.mn, .int .i64 x.mx] ∧ RowsAt 8 (rxR d) w B (.slice ko kn kc) x.ks
theorem rxR_steady : ∀ d, Steady (rxR d)
 | 0 => fun _ _ _ _ _ _ h _ _ => h.elim
 | d + 1 => fun _ _ _ _ _ _ ⟨ko, kn, kc, e, hk⟩ hb hB => ⟨ko, kn, kc, e, hk.below (rxR_steady d) hb hB⟩
theorem rx_form : ∀ {d : Nat} {w : World} {B : Nat} {c : List Value} {x : Pat}, rxR d w B c x → ∃ (ko : Option Addr) (kn kc : Nat), c = [.int .i64 x.k, .int .u64 x.cl.a, .int .u64 x.cl.b, .int .u64 x.cl.c, .int .u64 x.cl.d, .slice ko kn kc, .int .i64 x.mn, .int .i64 x.mx]
 | 0, _, _, _, _, h => h.elim
 | _ + 1, _, _, _, _, ⟨ko, kn, kc, e, _⟩ => ⟨ko, kn, kc, e⟩
theorem rxrows_imp {α : Type} {k : Nat} {R R' : Rel α} {w : World} {B : Nat} {v : Value} {l : List α} (h : RowsAt k R w B v l) (hi : ∀ c x, R w B c x → R' w B c x) : RowsAt k R' w B v l := by
 obtain ⟨cs, h0, h1, h2⟩ := h
 exact ⟨cs, h0, fun j c x hc hx => ⟨(h1 j c x hc hx).1, hi _ _ (h1 j c x hc hx).2⟩, h2⟩
theorem rxR_up : ∀ (d : Nat) (w : World) (B : Nat) (c : List Value) (x : Pat), rxR d w B c x → rxR (d + 1) w B c x
 | 0, _, _, _, _, h => h.elim
 | d + 1, w, B, _, _, ⟨ko, kn, kc, e, hk⟩ => ⟨ko, kn, kc, e, rxrows_imp hk (fun c x h => rxR_up d w B c x h)⟩
theorem rxR_le {d e : Nat} (h : d ≤ e) {w : World} {B : Nat} {c : List Value} {x : Pat} (hc : rxR d w B c x) : rxR e w B c x := by
 induction h with
 | refl => exact hc
 | step _ ih => exact rxR_up _ _ _ _ _ ih
theorem infoRx : (Try.prog.info? 27).map (fun i => (i.zero, i.size, i.bytes)) = some (some (.agg #[.int .i64 0, .int .u64 0, .int .u64 0, .int .u64 0, .int .u64 0, .slice none 0 0, .int .i64 0, .int .i64 0]), 8, 80) := by kernel_rfl
theorem rsize : (Try.prog.info? 27).map (·.size) = some 8 := by kernel_rfl
theorem clsize : (Try.prog.info? 24).map (·.size) = some 4 := by kernel_rfl
def Rd (q : Nat) (S : ByteArray) (t : St) (W : World) : Prop := W.heap[q]? = some (.cells #[.string S, .int .i64 (t.p : Int), .int .i64 t.dp, .int .i64 t.wr, .int .i64 t.co] 90)
theorem Rd.next {q : Nat} {S : ByteArray} {t : St} {W W' : World} (h : Rd q S t W) (hb : Below W.heap.size W W') : Rd q S t W' := (hb.block q (lt_of_block h)).trans h
theorem Rd.keep {q p : Nat} {S : ByteArray} {t : St} {W W' : World} (h : Rd q S t W) (hk : KX p W W') (hp : q ≠ p) : Rd q S t W' := (hk.2.2 q (lt_of_block h) hp).trans h
def RK (q : Nat) (S : ByteArray) (t : St) (w w' : World) : Prop := Rd q S t w' ∧ KX q w w'
theorem byte_at {S : ByteArray} {p : Nat} (h : p < S.size) : (kit.bytes S)[p]? = some (S[p]'h).toNat := by
 have hl : (kit.bytes S).length = S.size := by simp [kit.bytes]
 rw [List.getElem?_eq_getElem (by omega)]
 simp [kit.bytes]
 rfl
theorem byte_no {S : ByteArray} {p : Nat} (h : S.size ≤ p) : (kit.bytes S)[p]? = none := by
 have hl : (kit.bytes S).length = S.size := by simp [kit.bytes]
 exact List.getElem?_eq_none (by omega)
end Go.Proofs.Ytmfgplbfojnkdaa
