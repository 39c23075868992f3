/- texts put together: Kit, Cells, Copy, Tab, SymCnt0, Labels. -/
import Derived.BigQuiet
import Derived.ChangeArms
import Derived.Deep.DeepFit
import Derived.Deep.LoopGhost
import Derived.Deep.QuietTactic
import Derived.Deep.SlicePairs
import Derived.IntWalk
import Derived.Laws.AppendOwnNone
import Derived.Laws.CopyOwn
import Derived.Laws.CopyRow
import Derived.Lib.Hide
import Derived.Outline
import Derived.WalkKit
import Derived.WalkLawsBesides
import Derived.WalkSmall
import Derived.WalkSpells
import Derived.WideShapes
namespace Go.Proofs.Ytegjpiggjcfoaaa.kit
open Go.RowKit
theorem app1 {P : Program} {w : World} {ops : Array Oper} {rest : List Oper} {o : Oper} {a : Act} {Q : Exit → Act → World → Prop} {cs : Array Value} {e' : TypeId}
  (s x : Operand) (t : TypeId) (hgd : o.guard = none)
  (ho : o.op = .call { callee := .builtin .append, args := #[s, x], argTypes := #[t, t] })
  (base : Nat) {e : TypeId} {z : Value} {size bytes : Nat} (ht : P.underlying t = some (.slice e)) (hi : (P.info? e).map (fun i => (i.zero, i.size, i.bytes)) = some (some z, size, bytes))
  (hzs : z.cells.size = size) (hsz : 0 < size) (hb1 : 0 < bytes)
  {v : Value} {n : Nat} {xs : List Value} {c : Nat} (hown : w.ownsRow base e size v n xs) (hs : a.eval s = v) (hx : a.eval x = .slice (some ⟨w.heap.size, 0, none⟩) 1 c)
  (hcs : cs.size = size) (h1 : ∀ u ∈ cs.toList, u.oneCell' = true) (hbytes : (n + 1) * bytes ≤ 140737488355328) (hbase : base ≤ w.heap.size)
  (h : ∀ v' w', w'.ownsRow base e size v' (n + 1) (xs ++ cs.toList) → Below base w w' → wpList P ops Q rest (a.put o.dst v') w') :
  wpList P ops Q (o :: rest) a (w.alloc (.cells cs e')) := by
 obtain ⟨i, hi, hz, hsize, hby⟩ := info_parts hi
 have hle : n + 1 ≤ (n + 1) * bytes := Nat.le_mul_of_pos_right _ hb1
 refine wpList_append_own _ hgd s x t ho base e i z size bytes ht hi hz hsize hby hzs hsz v n xs hs (hown.alloc _) ⟨w.heap.size, 0, none⟩ 1 c cs.toList hx (by simp [hcs]) ?_ h1
  (by unfold maxLen; omega) hbytes (by simp; omega) fun v' w' r1 r2 _ => h v' w' r1 ?_
 ·
  intro j u hj
  have hl : j < cs.size := by
   have := (List.getElem?_eq_some_iff.1 hj).1
   simpa using this
  rw [Array.getElem?_toList] at hj
  have ha : (⟨w.heap.size, 0, none⟩ : Addr).add j = ⟨w.heap.size, j, none⟩ := by rw [Addr.add_lit, Nat.zero_add]
  rw [ha, World.cell?_alloc_at _ _ _ _ rfl]
  exact hj
 ·
  refine ((Below.refl base w).alloc hbase _).grown r2 (by simp; omega) ?_
  intro k hk
  exact (hown.lt k hk).1
theorem appN {P : Program} {w : World} {ops : Array Oper} {rest : List Oper} {o : Oper} {a : Act} {Q : Exit → Act → World → Prop}
  (s x : Operand) (t : TypeId) (hgd : o.guard = none)
  (ho : o.op = .call { callee := .builtin .append, args := #[s, x], argTypes := #[t, t] })
  (base : Nat) {e : TypeId} {z : Value} {size bytes : Nat} (ht : P.underlying t = some (.slice e)) (hi : (P.info? e).map (fun i => (i.zero, i.size, i.bytes)) = some (some z, size, bytes))
  (hzs : z.cells.size = size) (hsz : 0 < size) (hb1 : 0 < bytes)
  {v : Value} {n : Nat} {xs : List Value} (hown : w.ownsRow base e size v n xs) (hs : a.eval s = v)
  {ao : Option Addr} {m c : Nat} (news : List Value) (hx : a.eval x = .slice ao m c) (hl : news.length = m * size) (hnone : ao = none → m = 0 ∧ c = 0)
  (hnews : ∀ ad, ao = some ad → ∀ j u, news[j]? = some u → w.cell? (ad.add j) = some u) (h1 : ∀ u ∈ news, u.oneCell' = true)
  (hbytes : (n + m) * bytes ≤ 140737488355328) (hbase : base ≤ w.heap.size)
  (h : ∀ v' w', w'.ownsRow base e size v' (n + m) (xs ++ news) → Below base w w' → wpList P ops Q rest (a.put o.dst v') w') :
  wpList P ops Q (o :: rest) a w := by
 obtain ⟨i, hi, hz, hsize, hby⟩ := info_parts hi
 have hle : n + m ≤ (n + m) * bytes := Nat.le_mul_of_pos_right _ hb1
 cases ao with
 | none =>
  obtain ⟨rfl, rfl⟩ := hnone rfl
  obtain rfl : news = [] := List.eq_nil_of_length_eq_zero (by simpa using hl)
  refine wpList_append_own_none hgd s x t ho base e i size ht hi v n xs hs hown hx ?_
  have := h v w (by simpa using hown) (Below.refl _ _)
  exact this
 | some ad =>
  refine wpList_append_own _ hgd s x t ho base e i z size bytes ht hi hz hsize hby hzs hsz v n xs hs hown ad m c news hx hl (hnews ad rfl) h1
   (by unfold maxLen; omega) hbytes hbase fun v' w' r1 r2 _ => h v' w' r1 ?_
  refine (Below.refl base w).grown r2 hbase ?_
  intro k hk
  exact (hown.lt k hk).1
def str (l : List Nat) : ByteArray := ⟨(l.map UInt8.ofNat).toArray⟩
theorem str_size (l : List Nat) : (str l).size = l.length := by simp [str, ByteArray.size]
def bytes (s : ByteArray) : List Nat := s.data.toList.map UInt8.toNat
theorem bytes_len (s : ByteArray) : (bytes s).length = s.size := by simp only [bytes, List.length_map, Array.length_toList]; rfl
theorem bytes_lt (s : ByteArray) : ∀ x ∈ bytes s, x < 256 := by
 intro x hx
 obtain ⟨y, _, rfl⟩ := List.mem_map.1 hx
 exact y.toNat_lt
theorem bytes_get (s : ByteArray) (k : Nat) (h : k < s.size) : (bytes s)[k]? = some s[k].toNat := by
 have h2 : k < s.data.size := h
 simp only [bytes, List.getElem?_map, Array.getElem?_toList, Option.map_eq_some_iff]
 exact ⟨s[k], Array.getElem?_eq_getElem h2, rfl⟩
theorem bytes_drop (s : ByteArray) (k : Nat) (h : k < s.size) : (bytes s).drop k = s[k].toNat :: (bytes s).drop (k + 1) := by
 have h2 : k < (bytes s).length := by rw [bytes_len]; exact h
 rw [List.drop_eq_getElem_cons h2]
 congr 1
 have := bytes_get s k h
 rw [List.getElem?_eq_getElem h2] at this
 exact Option.some.inj this
theorem str_bytes (s : ByteArray) : str (bytes s) = s := by
 have : (fun x : UInt8 => UInt8.ofNat x.toNat) = id := funext fun x => by simp
 simp only [str, bytes, List.map_map, Function.comp_def]
 rw [this]; simp
theorem bytes_str (l : List Nat) (h : ∀ x ∈ l, x < 256) : bytes (str l) = l := by
 simp only [str, bytes, List.map_map]
 conv => rhs; rw [← List.map_id l]
 exact List.map_congr_left fun x hx => by simpa using Nat.mod_eq_of_lt (h x hx)
theorem bytes_inj {s t : ByteArray} (h : bytes s = bytes t) : s = t := by rw [← str_bytes s, h, str_bytes]
theorem ne_empty {s : ByteArray} (h : 0 < s.size) : s.toList.isEmpty = false ∧ ¬ s.toList = [] ∧ ¬ s = ByteArray.empty := by
 have hl : s.data.toList.length = s.size := by rw [Array.length_toList]; rfl
 have hne : s.data.toList ≠ [] := fun e => by rw [e] at hl; simp at hl; omega
 refine ⟨?_, by rw [ByteArray.toList_eq]; exact hne, fun e => by subst e; simp at h⟩
 rw [ByteArray.toList_eq]
 cases hd : s.data.toList with
 | nil => exact absurd hd hne
 | cons x r => rfl
def u8s (l : List Nat) : List Value := l.map fun x : Nat => .int .u8 (x : Int)
theorem u8s_len (l : List Nat) : (u8s l).length = l.length := by simp [u8s]
theorem u8s_app (l r : List Nat) : u8s (l ++ r) = u8s l ++ u8s r := by simp [u8s]
theorem foldl_push (l : List Int) (s : ByteArray) : (l.foldl (fun r n => r.push (UInt8.ofNat n.toNat)) s) = ⟨s.data ++ (l.map fun n => UInt8.ofNat n.toNat).toArray⟩ := by
 induction l generalizing s with
 | nil => simp
 | cons x l ih => simp only [List.foldl_cons, ih, List.map_cons]; congr 1; simp [ByteArray.push]
theorem foldl_str (l : List Nat) : ((l.map (fun n : Nat => (n : Int))).foldl (fun r n => r.push (UInt8.ofNat n.toNat)) ByteArray.empty) = str l := by
 rw [foldl_push]; simp [str, ByteArray.empty, ByteArray.emptyWithCapacity, Function.comp_def]; rfl
theorem run_string {P : Program} {w : World} {base : Nat} {v : Value} {l : List Nat} {src dst e : TypeId}
  (hs : P.underlying src = some (.slice e)) (he : P.underlying e = some (.int .u8)) (hd : P.underlying dst = some .string)
  (hown : w.ownsRow base e 1 v l.length (u8s l)) :
  (convert src dst v).run P w = .ok (.string (str l)) w := by
 rcases hown.2 with ⟨rfl, hx⟩ | ⟨g, cap, cur, rfl, hbg, hg, hnc, hcm, hcs, htake⟩
 ·
  obtain rfl : l = [] := List.eq_nil_of_length_eq_zero hx
  rw [run_convert_bytes_string w src dst e _ _ _ hs he hd]
  rfl
 ·
  rw [run_convert_bytes_string w src dst e _ _ _ hs he hd, ← foldl_str]
  refine run_bytesToString w _ _ _ _ ?_
  have h := run_loadCells_list (P := P) (w := w) ⟨g, 0, none⟩ (u8s l) (fun j u hj => hown.cells (g := g) rfl j u hj)
  rw [u8s_len] at h
  rw [h]
  simp [u8s]
theorem str_app (a b : List Nat) : str (a ++ b) = str a ++ str b := by
 apply ByteArray.ext
 simp [str]
end Go.Proofs.Ytegjpiggjcfoaaa.kit
namespace Go.Proofs.Ytegjpiggjcfoaaa.cl
open Go.RowKit
def Cells (w : World) (B : Nat) (v : Value) (n k : Nat) (vs : List Value) : Prop :=
 vs.length = n * k ∧ ∃ (ao : Option Addr) (cap : Nat), v = .slice ao n cap ∧ ((ao = none → cap = 0) ∧ n ≤ cap) ∧ n ≤ maxLen ∧
  (0 < n → ∃ b off, ao = some ⟨b, off, none⟩ ∧ b < B ∧ ∀ j u, vs[j]? = some u → w.cell? ⟨b, off + j, none⟩ = some u)
theorem Cells.below {w w' : World} {B : Nat} {v : Value} {n k : Nat} {vs : List Value} (h : Cells w B v n k vs) (hb : Below B w w') : Cells w' B v n k vs := by
 obtain ⟨h0, ao, cap, rfl, h1, h3, h2⟩ := h
 refine ⟨h0, ao, cap, rfl, h1, h3, fun hp => ?_⟩
 obtain ⟨b, off, e, hB, hc⟩ := h2 hp
 exact ⟨b, off, e, hB, fun j u hj => by rw [hb.cell (p := ⟨b, off + j, none⟩) hB]; exact hc j u hj⟩
theorem Cells.mono {w : World} {B B' : Nat} {v : Value} {n k : Nat} {vs : List Value} (h : Cells w B v n k vs) (hb : B ≤ B') : Cells w B' v n k vs := by
 obtain ⟨h0, ao, cap, rfl, h1, h3, h2⟩ := h
 refine ⟨h0, ao, cap, rfl, h1, h3, fun hp => ?_⟩
 obtain ⟨b, off, e, hB, hc⟩ := h2 hp
 exact ⟨b, off, e, by omega, hc⟩
theorem Cells.next {W W' : World} {v : Value} {n k : Nat} {vs : List Value} (h : Cells W W.heap.size v n k vs) (hb : Below W.heap.size W W') : Cells W' W'.heap.size v n k vs := (h.below hb).mono hb.size
theorem Cells.form {w : World} {B : Nat} {v : Value} {n k : Nat} {vs : List Value} (h : Cells w B v n k vs) : ∃ ao cap, v = .slice ao n cap ∧ n ≤ cap ∧ n ≤ maxLen := by
 obtain ⟨_, ao, cap, rfl, h1, h3, _⟩ := h
 exact ⟨ao, cap, rfl, h1.2, h3⟩
theorem Cells.nil (w : World) (B k : Nat) : Cells w B (.slice none 0 0) 0 k [] := ⟨by simp, none, 0, rfl, ⟨fun _ => rfl, Nat.le_refl _⟩, by simp, fun h => absurd h (by simp)⟩
theorem Cells.zero {w : World} {B k cap : Nat} {ao : Option Addr} (h : ao = none → cap = 0) : Cells w B (.slice ao 0 cap) 0 k [] := ⟨by simp, ao, cap, rfl, ⟨h, Nat.zero_le _⟩, by simp, fun h => absurd h (by simp)⟩
theorem Cells.own {w : World} {base : Nat} {e : TypeId} {v : Value} {n k : Nat} {vs : List Value} (h : w.ownsRow base e k v n vs) : Cells w w.heap.size v n k vs := by
 have hlt := h.lt
 have hl := h.1
 rcases h.2 with ⟨rfl, rfl⟩ | ⟨g, cap, cur, rfl, hbg, hg, hnc, hcm, hcs, htake⟩
 ·
  obtain rfl : vs = [] := List.eq_nil_of_length_eq_zero (by simpa using hl)
  exact Cells.nil w _ _
 ·
  refine ⟨hl, _, _, rfl, ⟨(fun e => by cases e), hnc⟩, Nat.le_trans hnc hcm, fun _ => ⟨g, 0, rfl, (hlt g rfl).2, fun j u hj => ?_⟩⟩
  have := h.cells (g := g) rfl j u hj
  rwa [Addr.add_lit] at this
theorem Cells.news {w : World} {B : Nat} {ao : Option Addr} {n cap k : Nat} {vs : List Value} (h : Cells w B (.slice ao n cap) n k vs) : (ao = none → n = 0 ∧ cap = 0) ∧ (∀ ad, ao = some ad → ∀ j u, vs[j]? = some u → w.cell? (ad.add j) = some u) := by
 obtain ⟨h0, ao', c, e, ⟨h1, h2⟩, h3, h4⟩ := h
 simp only [Value.slice.injEq] at e
 obtain ⟨rfl, _, rfl⟩ := e
 refine ⟨fun e => ⟨by have := h1 e; omega, h1 e⟩, fun ad e j u hj => ?_⟩
 have hjl : j < vs.length := (List.getElem?_eq_some_iff.1 hj).1
 have hn : 0 < n := by
  rcases Nat.eq_zero_or_pos n with h | h
  ·
   rw [h, Nat.zero_mul] at h0; omega
  ·
   exact h
 obtain ⟨b, o, e2, _, hc⟩ := h4 hn
 rw [e] at e2
 obtain rfl := Option.some.inj e2
 rw [Addr.add_lit]
 exact hc j u hj
theorem Cells.news' {w : World} {B : Nat} {ao : Option Addr} {n n' cap k : Nat} {vs : List Value} (h : Cells w B (.slice ao n cap) n' k vs) : (ao = none → n = 0 ∧ cap = 0) ∧ (∀ ad, ao = some ad → ∀ j u, vs[j]? = some u → w.cell? (ad.add j) = some u) := by
 obtain rfl : n = n' := by
  obtain ⟨_, _, e, _⟩ := h.form
  simp only [Value.slice.injEq] at e
  exact e.2.1
 exact h.news
theorem Cells.at {w : World} {B b off n cap k : Nat} {vs : List Value} (h : Cells w B (.slice (some ⟨b, off, none⟩) n cap) n k vs) (hn : 0 < n) : b < B ∧ ∀ j u, vs[j]? = some u → w.cell? ⟨b, off + j, none⟩ = some u := by
 obtain ⟨h0, ao', c, e, ⟨h1, h2⟩, h3, h4⟩ := h
 simp only [Value.slice.injEq] at e
 obtain ⟨rfl, _, rfl⟩ := e
 obtain ⟨b', o', e2, h5, hc⟩ := h4 hn
 simp only [Option.some.injEq, Addr.mk.injEq] at e2
 obtain ⟨rfl, rfl, _⟩ := e2
 exact ⟨h5, hc⟩
theorem Cells.cut {w : World} {B b off n cap k i m : Nat} {vs : List Value} (h : Cells w B (.slice (some ⟨b, off, none⟩) n cap) n k vs) (hm : i + m ≤ n) :
  Cells w B (.slice (some ⟨b, off + i * k, none⟩) m (cap - i)) m k ((vs.drop (i * k)).take (m * k)) := by
 have hf := h.form
 obtain ⟨_, _, e, hc, hx⟩ := hf
 simp only [Value.slice.injEq] at e
 obtain ⟨_, _, rfl⟩ := e
 have h0 := h.1
 have hmul : i * k + m * k ≤ n * k := by rw [← Nat.add_mul]; exact Nat.mul_le_mul_right _ hm
 refine ⟨by rw [List.length_take, List.length_drop]; omega, _, _, rfl, ⟨(fun e => by cases e), by omega⟩, by omega, fun hp => ?_⟩
 obtain ⟨hB, hcell⟩ := h.at (by omega)
 refine ⟨_, _, rfl, hB, fun j u hj => ?_⟩
 rw [Nat.add_assoc]
 refine hcell _ u ?_
 rw [List.getElem?_take] at hj
 split at hj
 ·
  rwa [List.getElem?_drop] at hj
 ·
  cases hj
theorem cells_lit (W : World) (n k : Nat) (vs : List Value) (arr : Array Value) (t : TypeId) (harr : arr.toList = vs) (hl : vs.length = n * k) (hn : n ≤ maxLen) :
  Cells (W.alloc (.cells arr t)) (W.alloc (.cells arr t)).heap.size (.slice (some ⟨W.heap.size, 0, none⟩) n n) n k vs := by
 refine ⟨hl, _, _, rfl, ⟨(fun e => by cases e), Nat.le_refl _⟩, hn, fun _ => ⟨_, _, rfl, by simp, fun j u hj => ?_⟩⟩
 rw [Nat.zero_add, World.cell?_alloc_at _ _ _ _ rfl, ← Array.getElem?_toList, harr]
 exact hj
theorem own_none {w W : World} (t : TypeId) (h : w.heap.size ≤ W.heap.size) (k : Nat) : (W.alloc (.cells #[] t)).ownsRow w.heap.size t k (.slice (some ⟨W.heap.size, 0, none⟩) 0 0) 0 [] := by
 refine ⟨by simp, Or.inr ⟨W.heap.size, 0, #[], rfl, h, ?_, Nat.le_refl _, Nat.zero_le _, by simp, by simp⟩⟩
 show (W.heap.push _)[W.heap.size]? = _
 simp
def strs (l : List ByteArray) : List Value := l.map Value.string
theorem strs_len (l : List ByteArray) : (strs l).length = l.length := by simp [strs]
theorem strs_take (a : List ByteArray) (n : Nat) : (strs a).take n = strs (a.take n) := by simp [strs]
theorem strs_drop (a : List ByteArray) (n : Nat) : (strs a).drop n = strs (a.drop n) := by simp [strs]
theorem strs_get {l : List ByteArray} {j : Nat} (hj : j < l.length) : (strs l)[j]? = some (.string (l.getD j .empty)) := by simp [strs, List.getD, hj]
abbrev Strs (w : World) (B : Nat) (v : Value) (l : List ByteArray) : Prop := Cells w B v l.length 1 (strs l)
theorem Strs.cell {w : World} {B b off n cap : Nat} {l : List ByteArray} (h : Strs w B (.slice (some ⟨b, off, none⟩) n cap) l) (hn : n = l.length) {j : Nat} (hj : j < n) : b < B ∧ w.cell? ⟨b, off + j, none⟩ = some (.string (l.getD j .empty)) := by
 subst hn
 obtain ⟨hB, hc⟩ := h.at (by omega)
 exact ⟨hB, hc j _ (strs_get hj)⟩
theorem Cells.drop {w : World} {B n cap k i : Nat} {ao : Option Addr} {vs : List Value} (h : Cells w B (.slice ao n cap) n k vs) (hi : i ≤ n) :
  Cells w B (.slice (Option.map (fun x => x.add (i * k)) ao) (n - i) (cap - i)) (n - i) k (vs.drop (i * k)) := by
 obtain ⟨h0, ao', c, e, ⟨h1, h2⟩, h3, h4⟩ := h
 simp only [Value.slice.injEq] at e
 obtain ⟨rfl, _, rfl⟩ := e
 refine ⟨by rw [List.length_drop, h0, Nat.sub_mul], _, _, rfl, ⟨fun e => ?_, by omega⟩, by omega, fun hp => ?_⟩
 ·
  cases ao with
  | none => have := h1 rfl; omega
  | some a => cases e
 ·
  obtain ⟨b, off, rfl, hB, hc⟩ := h4 (by omega)
  refine ⟨b, off + i * k, ?_, hB, fun j u hj => ?_⟩
  ·
   simp only [Option.map_some, Addr.add_lit]
  ·
   rw [List.getElem?_drop] at hj
   rw [Nat.add_assoc]; exact hc _ u hj
theorem Strs.drop {w : World} {B n cap i : Nat} {ao : Option Addr} {l : List ByteArray} (h : Strs w B (.slice ao n cap) l) (hn : n = l.length) (hi : i ≤ n) :
  Strs w B (.slice (Option.map (fun x => x.add i) ao) (n - i) (cap - i)) (l.drop i) := by
 subst hn
 have := Cells.drop h hi
 rw [Nat.mul_one, strs_drop] at this
 unfold Strs
 rw [List.length_drop]
 exact this
theorem Strs.form' {w : World} {B n : Nat} {v : Value} {l : List ByteArray} (h : Strs w B v l) (hn : n = l.length) : ∃ ao cap, v = .slice ao n cap ∧ n ≤ cap := by
 subst hn
 obtain ⟨ao, cap, rfl, h1, _⟩ := h.form
 exact ⟨ao, cap, rfl, h1⟩
theorem three {w w2 : World} {x y z : Value} {t : TypeId} (hb : Below (w.alloc (.cells #[x, y, z] t)).heap.size (w.alloc (.cells #[x, y, z] t)) w2) :
  w2.cell? ⟨w.heap.size, 0, none⟩ = some x ∧ w2.cell? ⟨w.heap.size, 1, none⟩ = some y ∧ w2.cell? ⟨w.heap.size, 2, none⟩ = some z ∧ w2.frozen? ⟨w.heap.size, 0, none⟩ = false ∧ w2.frozen? ⟨w.heap.size, 1, none⟩ = false ∧ w2.frozen? ⟨w.heap.size, 2, none⟩ = false ∧ w.heap.size < w2.heap.size := by
 have hs : w.heap.size < (w.alloc (.cells #[x, y, z] t)).heap.size := by simp
 have c : ∀ (k : Nat) (u : Value), (#[x, y, z] : Array Value)[k]? = some u → w2.cell? ⟨w.heap.size, k, none⟩ = some u := fun k u hu =>
  (hb.cell (p := ⟨w.heap.size, k, none⟩) hs).trans (by rw [World.cell?_alloc_at _ _ _ _ rfl]; exact hu)
 have f : ∀ k : Nat, w2.frozen? ⟨w.heap.size, k, none⟩ = false := fun k => (hb.frozen (p := ⟨w.heap.size, k, none⟩) hs).trans (World.frozen?_alloc_at _ _ _ _ rfl)
 exact ⟨c 0 x rfl, c 1 y rfl, c 2 z rfl, f 0, f 1, f 2, by have := hb.size; simp at this; omega⟩
theorem Strs.take {w : World} {B n cap m : Nat} {ao : Option Addr} {l : List ByteArray} (h : Strs w B (.slice ao n cap) l) (hn : n = l.length) (hm : m ≤ n) :
  Strs w B (.slice ao m cap) (l.take m) := by
 subst hn
 obtain ⟨h0, ao', c, e, ⟨h1, h2⟩, h3, h4⟩ := h
 simp only [Value.slice.injEq] at e
 obtain ⟨rfl, _, rfl⟩ := e
 have hl : (l.take m).length = m := by rw [List.length_take]; omega
 refine ⟨by rw [strs_len, Nat.mul_one], _, _, by rw [hl], ⟨h1, by omega⟩, by omega, fun hp => ?_⟩
 obtain ⟨b, off, rfl, hB, hc⟩ := h4 (by omega)
 refine ⟨b, off, rfl, hB, fun j u hj => hc j u ?_⟩
 rw [← strs_take, List.getElem?_take] at hj
 split at hj
 ·
  exact hj
 ·
  cases hj
end Go.Proofs.Ytegjpiggjcfoaaa.cl
namespace Go.Proofs.Ytegjpiggjcfoaaa.kit
open Go.RowKit
theorem run_copy_k {P : Program} (w : World) (dT sT ty elem : TypeId) (g o dLen dCap : Nat) (a : Addr) (sLen sCap k : Nat) (cur : Array Value) (t : TypeId) (cs : List Value)
  (hu : P.underlying dT = some (.slice elem)) (hs : (P.info? elem).map (·.size) = some k)
  (hg : w.heap[g]? = some (.cells cur t (0, 0))) (hn : cs.length = Nat.min sLen dLen * k)
  (hsrc : ∀ j v, cs[j]? = some v → w.cell? (a.add j) = some v) (hfit : o + cs.length ≤ cur.size) (h1 : ∀ v ∈ cs, v.oneCell' = true) :
  (Builtin.copy_ #[dT, sT] ty #[.slice (some ⟨g, o, none⟩) dLen dCap, .slice (some a) sLen sCap]).run P w =
   .ok (goInt (Nat.min sLen dLen)) (w.setRow g (cur.toList.take o ++ cs ++ cur.toList.drop (o + cs.length)).toArray) := by
 have hl := run_loadCells_list (P := P) w a cs hsrc
 have hst := run_storeCells_at P g o t cs 0 cur w hg (by simpa using hfit) h1
 cases hq : P.info? elem with
 | none => simp [hq] at hs
 | some i =>
  have hi : i.size = k := by simpa [hq] using hs
  simp [Builtin.copy_, run_underlying hu, Builtin.lenOf, Builtin.firstCells, sizeOf, typeInfo, hq, hi, ← hn, hl, hst]
theorem run_copy_0 {P : Program} (w : World) (dT sT ty elem : TypeId) (d : Option Addr) (dLen dCap : Nat) (s : Option Addr) (sCap k : Nat)
  (hu : P.underlying dT = some (.slice elem)) (hs : (P.info? elem).map (·.size) = some k) :
  (Builtin.copy_ #[dT, sT] ty #[.slice d dLen dCap, .slice s 0 sCap]).run P w = .ok (goInt 0) w := by
 cases hq : P.info? elem with
 | none => simp [hq] at hs
 | some i =>
  have h0 : Nat.min 0 dLen = 0 := Nat.zero_min _
  cases d with
  | none => cases s <;> simp [Builtin.copy_, run_underlying hu, Builtin.lenOf, Builtin.firstCells, sizeOf, typeInfo, hq, loadCells, loadCellsFrom]
  | some a => cases s <;> simp [Builtin.copy_, run_underlying hu, Builtin.lenOf, Builtin.firstCells, sizeOf, typeInfo, hq, loadCells, loadCellsFrom, storeCells]
theorem own_set {w : World} {base : Nat} {e : TypeId} {k n g cap j : Nat} {xs : List Value} {u : Value} (h : w.ownsRow base e k (.slice (some ⟨g, 0, none⟩) n cap) n xs) :
  (w.setCell ⟨g, j, none⟩ u).ownsRow base e k (.slice (some ⟨g, 0, none⟩) n cap) n (xs.set j u) ∧ Below base w (w.setCell ⟨g, j, none⟩ u) := by
 have hl := h.1
 rcases h.2 with ⟨hv, _⟩ | ⟨g', cap', cur, hv, hbg, hg, hnc, hcm, hcs, htake⟩
 ·
  cases hv
 ·
  simp only [Value.slice.injEq, Option.some.injEq, Addr.mk.injEq] at hv
  obtain ⟨⟨rfl, _, _⟩, _, rfl⟩ := hv
  have hset : w.setCell ⟨g, j, none⟩ u = w.setRow g (cur.setIfInBounds j u) := setCell_eq_setRow w g j cur e (0, 0) u hg
  have hmul : n * k ≤ cap * k := Nat.mul_le_mul_right _ hnc
  refine ⟨⟨by rw [List.length_set]; exact hl, Or.inr ⟨g, cap, cur.setIfInBounds j u, rfl, hbg, ?_, hnc, hcm, by rw [Array.size_setIfInBounds]; exact hcs, ?_⟩⟩, ?_⟩
  ·
   rw [hset]; exact setRow_heap w g cur _ e (0, 0) hg
  ·
   rw [Array.toList_setIfInBounds, ← htake, List.take_set]
  ·
   exact (Below.refl base w).setCell hbg u
theorem copy_own_k {P : Program} {w : World} {ops : Array Oper} {rest : List Oper} {o : Oper} {a : Act} {Q : Exit → Act → World → Prop}
  (d s : Operand) (dT sT : TypeId) (hgd : o.guard = none) (ho : o.op = .call { callee := .builtin .copy, args := #[d, s], argTypes := #[dT, sT] })
  (base : Nat) {e : TypeId} {k : Nat} (hu : P.underlying dT = some (.slice e)) (hs : (P.info? e).map (·.size) = some k)
  {g cap n m c : Nat} {sp : Option Addr} {xs ys : List Value} (hown : w.ownsRow base e k (.slice (some ⟨g, 0, none⟩) n cap) n xs) (hd : a.eval d = .slice (some ⟨g, 0, none⟩) n cap) (hsv : a.eval s = .slice sp m c)
  (hl : ys.length = m * k) (hmn : m ≤ n) (hnone : sp = none → m = 0) (hsrc : ∀ ad, sp = some ad → ∀ j u, ys[j]? = some u → w.cell? (ad.add j) = some u) (h1 : ∀ u ∈ ys, u.oneCell' = true)
  (h : ∀ w', w'.ownsRow base e k (.slice (some ⟨g, 0, none⟩) n cap) n (ys ++ xs.drop (m * k)) → Below base w w' → w.heap.size ≤ w'.heap.size → wpList P ops Q rest (a.put o.dst (goInt m)) w') :
  wpList P ops Q (o :: rest) a w := by
 by_cases h0 : m = 0
 ·
  subst h0
  obtain rfl : ys = [] := List.eq_nil_of_length_eq_zero (by simpa using hl)
  refine wpList_plain hgd fun K hK => ?_
  have hrun := run_copy_0 (P := P) w dT sT o.type e (some ⟨g, 0, none⟩) n cap sp c k hu hs
  unfold Oper.wp
  simp [execOp, ho, resolve, invoke, builtin, hd, hsv, hrun, Result.andThen]
  exact hK _ _ (h w (by simpa using hown) (Below.refl _ _) (Nat.le_refl _))
 ·
  have hlx := hown.1
  rcases hown.2 with ⟨hv, hx0⟩ | ⟨g', cap', cur, hv, hbg, hg, hnc, hcm, hcs, htake⟩
  ·
   cases hv
  ·
   simp only [Value.slice.injEq, Option.some.injEq, Addr.mk.injEq] at hv
   obtain ⟨⟨rfl, _, _⟩, _, rfl⟩ := hv
   cases sp with
   | none => exact absurd (hnone rfl) h0
   | some ad =>
    refine wpList_plain hgd fun K hK => ?_
    have hmul : m * k ≤ n * k := Nat.mul_le_mul_right _ hmn
    have hmul2 : n * k ≤ cap * k := Nat.mul_le_mul_right _ hnc
    have hmin : Nat.min m n = m := Nat.min_eq_left hmn
    have hrun := run_copy_k (P := P) w dT sT o.type e g 0 n cap ad m c k cur e ys hu hs hg (by rw [hmin]; exact hl) (hsrc ad rfl) (by omega) h1
    rw [hmin] at hrun
    unfold Oper.wp
    simp [execOp, ho, resolve, invoke, builtin, hd, hsv, hrun, Result.andThen]
    refine hK _ _ ?_
    have hcl : cur.toList.length = cap * k := by rw [Array.length_toList]; exact hcs
    refine h _ ⟨by rw [List.length_append, List.length_drop]; omega, Or.inr ⟨g, cap, _, rfl, hbg, setRow_heap w g cur _ e (0, 0) hg, hnc, hcm, ?_, ?_⟩⟩ ?_ ?_
    ·
     simp; omega
    ·
     simp
     rw [← htake, List.take_append, hl]
     rw [List.take_of_length_le (by omega), List.drop_take]
    ·
     exact (Below.refl base w).trans ⟨rfl, rfl, rfl, by simp [World.setRow], fun i hi => setRow_other w g i _ (by omega)⟩
    ·
     simp [World.setRow]
end Go.Proofs.Ytegjpiggjcfoaaa.kit
namespace Go.Proofs.Ytegjpiggjcfoaaa.tb
abbrev Sym := ByteArray × Int
def at_ (L : List Sym) (i : Nat) : Sym := L.getD i (.empty, 0)
def Right (c : Int) (L : List Sym) : Prop := 0 ≤ c ∧ c ≤ 24000 ∧ (L.length : Int) ≤ c ∧ (∀ i, i < L.length → 0 ≤ (at_ L i).2 ∧ (at_ L i).2 ≤ 1099511627776 ∧ (at_ L i).1.size ≤ 600 ∧ ((at_ L i).2 = 0 → (at_ L i).1 = .empty)) ∧
 (∀ i j, i < j → j < L.length → 0 < (at_ L i).2 → 0 < (at_ L j).2 → (at_ L i).1 ≠ (at_ L j).1)
theorem at_set {L : List Sym} {i j : Nat} {x : Sym} (hi : i < L.length) : at_ (L.set i x) j = if i = j then x else at_ L j := by
 unfold at_
 simp only [List.getD, List.getElem?_set]
 by_cases h : i = j
 ·
  subst h; simp [hi]
 ·
  simp [h]
theorem at_snoc {L : List Sym} {j : Nat} {x : Sym} : at_ (L ++ [x]) j = if j < L.length then at_ L j else if j = L.length then x else (.empty, 0) := by
 unfold at_
 simp only [List.getD]
 by_cases h : j < L.length
 ·
  rw [List.getElem?_append_left h, if_pos h]
 ·
  rw [List.getElem?_append_right (by omega), if_neg h]
  by_cases h2 : j = L.length
  ·
   subst h2; simp
  ·
   rw [if_neg h2, List.getElem?_eq_none (by simp; omega)]; rfl
theorem right_nil {c : Int} (h0 : 0 ≤ c) (h1 : c ≤ 24000) : Right c [] := ⟨h0, h1, by simpa using h0, fun i h => absurd h (Nat.not_lt_zero _), fun i j _ h => absurd h (Nat.not_lt_zero _)⟩
theorem right_set {c : Int} {L : List Sym} {k : Nat} {x : Sym} (h : Right c L) (hk : k < L.length) (h0 : 0 ≤ x.2) (h1 : x.2 ≤ 1099511627776) (h2 : x.1.size ≤ 600) (h3 : x.2 = 0 → x.1 = .empty)
  (h4 : 0 < x.2 → ∀ j, j < L.length → j ≠ k → 0 < (at_ L j).2 → (at_ L j).1 ≠ x.1) : Right c (L.set k x) := by
 obtain ⟨a, b, d, e, f⟩ := h
 refine ⟨a, b, by rw [List.length_set]; exact d, fun i hi => ?_, fun i j hij hj hi0 hj0 => ?_⟩
 ·
  rw [List.length_set] at hi
  rw [at_set hk]
  split
  ·
   exact ⟨h0, h1, h2, h3⟩
  ·
   exact e i hi
 ·
  rw [List.length_set] at hj
  rw [at_set hk] at hi0 hj0
  rw [at_set hk, at_set hk]
  by_cases hi : k = i
  ·
   rw [if_pos hi] at hi0 ⊢
   by_cases hjk : k = j
   ·
    omega
   ·
    rw [if_neg hjk] at hj0 ⊢
    exact (h4 hi0 j hj (by omega) hj0).symm
  ·
   rw [if_neg hi] at hi0 ⊢
   by_cases hjk : k = j
   ·
    rw [if_pos hjk] at hj0 ⊢
    exact h4 hj0 i (by omega) (by omega) hi0
   ·
    rw [if_neg hjk] at hj0 ⊢
    exact f i j hij hj hi0 hj0
theorem right_snoc {c : Int} {L : List Sym} {x : Sym} (h : Right c L) (hc : (L.length : Int) < c) (h0 : 0 ≤ x.2) (h1 : x.2 ≤ 1099511627776) (h2 : x.1.size ≤ 600) (h3 : x.2 = 0 → x.1 = .empty)
  (h4 : 0 < x.2 → ∀ j, j < L.length → 0 < (at_ L j).2 → (at_ L j).1 ≠ x.1) : Right c (L ++ [x]) := by
 obtain ⟨a, b, d, e, f⟩ := h
 have hl : (L ++ [x]).length = L.length + 1 := by rw [List.length_append]; rfl
 refine ⟨a, b, by rw [hl]; omega, fun i hi => ?_, fun i j hij hj hi0 hj0 => ?_⟩
 ·
  rw [hl] at hi
  rw [at_snoc]
  by_cases hi2 : i < L.length
  ·
   rw [if_pos hi2]; exact e i hi2
  ·
   rw [if_neg hi2, if_pos (by omega)]; exact ⟨h0, h1, h2, h3⟩
 ·
  rw [hl] at hj
  have ei : at_ (L ++ [x]) i = at_ L i := by rw [at_snoc, if_pos (by omega)]
  rw [ei] at hi0 ⊢
  by_cases hj2 : j < L.length
  ·
   have ej : at_ (L ++ [x]) j = at_ L j := by rw [at_snoc, if_pos hj2]
   rw [ej] at hj0 ⊢; exact f i j hij hj2 hi0 hj0
  ·
   have ej : at_ (L ++ [x]) j = x := by rw [at_snoc, if_neg hj2, if_pos (by omega)]
   rw [ej] at hj0 ⊢
   exact h4 hj0 i (by omega) hi0
def find (L : List Sym) (s : ByteArray) : Nat := L.findIdx fun x => decide (0 < x.2 ∧ x.1 = s)
def free (L : List Sym) : Nat := L.findIdx fun x => decide (x.2 = 0)
theorem at_get {L : List Sym} {i : Nat} (h : i < L.length) : L[i] = at_ L i := by simp [at_, List.getD, h]
theorem find_le (L : List Sym) (s : ByteArray) : find L s ≤ L.length := List.findIdx_le_length
theorem free_le (L : List Sym) : free L ≤ L.length := List.findIdx_le_length
theorem idx_yes {L : List Sym} (p : Sym → Bool) (h : L.findIdx p < L.length) : p (at_ L (L.findIdx p)) = true := by
 have h2 := List.findIdx_getElem (w := h)
 rwa [at_get h] at h2
theorem find_yes {L : List Sym} {s : ByteArray} (h : find L s < L.length) : 0 < (at_ L (find L s)).2 ∧ (at_ L (find L s)).1 = s := by
 exact of_decide_eq_true (idx_yes (fun x : Sym => decide (0 < x.2 ∧ x.1 = s)) h)
theorem find_no {L : List Sym} {s : ByteArray} {j : Nat} (h : j < find L s) : ¬ (0 < (at_ L j).2 ∧ (at_ L j).1 = s) := by
 have hl : j < L.length := Nat.lt_of_lt_of_le h (find_le L s)
 have := List.not_of_lt_findIdx h
 rw [at_get hl] at this
 simpa using this
theorem find_eq {L : List Sym} {s : ByteArray} {k : Nat} (hk : k < L.length) (h : 0 < (at_ L k).2 ∧ (at_ L k).1 = s) (h2 : ∀ j, j < k → ¬ (0 < (at_ L j).2 ∧ (at_ L j).1 = s)) : find L s = k := by
 rcases Nat.lt_trichotomy (find L s) k with h3 | h3 | h3
 ·
  exact absurd (find_yes (Nat.lt_trans h3 hk)) (h2 _ h3)
 ·
  exact h3
 ·
  exact absurd h (find_no h3)
theorem find_none {L : List Sym} {s : ByteArray} (h2 : ∀ j, j < L.length → ¬ (0 < (at_ L j).2 ∧ (at_ L j).1 = s)) : find L s = L.length := by
 rcases Nat.lt_or_ge (find L s) L.length with h3 | h3
 ·
  exact absurd (find_yes h3) (h2 _ h3)
 ·
  have := find_le L s; omega
theorem find_right {c : Int} {L : List Sym} {s : ByteArray} {k : Nat} (hr : Right c L) (hk : k < L.length) (h : 0 < (at_ L k).2 ∧ (at_ L k).1 = s) : find L s = k := by
 refine find_eq hk h fun j hj hh => ?_
 exact hr.2.2.2.2 j k hj hk hh.1 h.1 (by rw [hh.2, h.2])
theorem free_yes {L : List Sym} (h : free L < L.length) : (at_ L (free L)).2 = 0 := by
 exact of_decide_eq_true (idx_yes (fun x : Sym => decide (x.2 = 0)) h)
theorem free_no {L : List Sym} {j : Nat} (h : j < free L) : ¬ (at_ L j).2 = 0 := by
 have hl : j < L.length := Nat.lt_of_lt_of_le h (free_le L)
 have := List.not_of_lt_findIdx h
 rw [at_get hl] at this
 simpa using this
theorem free_eq {L : List Sym} {k : Nat} (hk : k < L.length) (h : (at_ L k).2 = 0) (h2 : ∀ j, j < k → ¬ (at_ L j).2 = 0) : free L = k := by
 rcases Nat.lt_trichotomy (free L) k with h3 | h3 | h3
 ·
  exact absurd (free_yes (Nat.lt_trans h3 hk)) (h2 _ h3)
 ·
  exact h3
 ·
  exact absurd h (free_no h3)
theorem free_none {L : List Sym} (h2 : ∀ j, j < L.length → ¬ (at_ L j).2 = 0) : free L = L.length := by
 rcases Nat.lt_or_ge (free L) L.length with h3 | h3
 ·
  exact absurd (free_yes h3) (h2 _ h3)
 ·
  have := free_le L; omega
def put (c : Int) (L : List Sym) (s : ByteArray) : List Sym × Int × Int :=
 if 600 < s.size then (L, 0, 4)
 else if find L s < L.length then (if (at_ L (find L s)).2 = 1099511627776 then (L, 0, 7) else (L.set (find L s) (s, (at_ L (find L s)).2 + 1), (find L s : Int), 0))
 else if (free L : Int) = c then (L, 0, 7)
 else if free L < L.length then (L.set (free L) (s, 1), (free L : Int), 0)
 else (L ++ [(s, 1)], (free L : Int), 0)
def used (L : List Sym) (id : Int) : Bool := decide (0 ≤ id ∧ id < (L.length : Int) ∧ 0 < (at_ L id.toNat).2)
def drop (L : List Sym) (id : Int) : List Sym × Int :=
 if used L id = true then (L.set id.toNat (if (at_ L id.toNat).2 = 1 then .empty else (at_ L id.toNat).1, (at_ L id.toNat).2 - 1), 0) else (L, 5)
theorem right_put {c : Int} {L : List Sym} {s : ByteArray} (h : Right c L) : Right c (put c L s).1 := by
 unfold put
 by_cases h6 : 600 < s.size
 ·
  rw [if_pos h6]; exact h
 rw [if_neg h6]
 by_cases hf : find L s < L.length
 ·
  rw [if_pos hf]
  obtain ⟨g1, g2⟩ := find_yes hf
  have hb := h.2.2.2.1 _ hf
  by_cases hm : (at_ L (find L s)).2 = 1099511627776
  ·
   rw [if_pos hm]; exact h
  ·
   rw [if_neg hm]
   refine right_set h hf (by show 0 ≤ _ + 1; omega) (by show _ + 1 ≤ _; omega) (by show s.size ≤ 600; omega) (fun e => by have : (at_ L (find L s)).2 + 1 = 0 := e; omega) fun _ j hj hjk hj0 he => ?_
   have h1 : (at_ L j).1 = s := he
   rcases Nat.lt_trichotomy j (find L s) with hlt | heq | hgt
   ·
    exact h.2.2.2.2 j _ hlt hf hj0 g1 (by rw [h1, g2])
   ·
    exact hjk heq
   ·
    exact h.2.2.2.2 _ j hgt hj g1 hj0 (by rw [h1, g2])
 rw [if_neg hf]
 have hno : ∀ j, j < L.length → 0 < (at_ L j).2 → (at_ L j).1 ≠ s := fun j hj h0 he => find_no (by have := find_le L s; omega : j < find L s) ⟨h0, he⟩
 by_cases hc : (free L : Int) = c
 ·
  rw [if_pos hc]; exact h
 rw [if_neg hc]
 by_cases hfr : free L < L.length
 ·
  rw [if_pos hfr]
  exact right_set h hfr (by show (0 : Int) ≤ 1; omega) (by show (1 : Int) ≤ _; omega) (by show s.size ≤ 600; omega) (fun e => by cases e) fun _ j hj _ hj0 => hno j hj hj0
 ·
  rw [if_neg hfr]
  have hle := free_le L
  exact right_snoc h (by have := h.2.2.1; omega) (by show (0 : Int) ≤ 1; omega) (by show (1 : Int) ≤ _; omega) (by show s.size ≤ 600; omega) (fun e => by cases e) (fun _ => hno)
theorem right_drop {c : Int} {L : List Sym} {id : Int} (h : Right c L) : Right c (drop L id).1 := by
 unfold drop
 by_cases hu : used L id = true
 ·
  rw [if_pos hu]
  unfold used at hu
  obtain ⟨h0, h1, h2⟩ := of_decide_eq_true hu
  have hl : id.toNat < L.length := by omega
  have hb := h.2.2.2.1 _ hl
  refine right_set h hl (by show 0 ≤ _ - 1; omega) (by show _ - 1 ≤ _; omega) ?_ (fun e => ?_) fun hp j hj hjk hj0 he => ?_
  ·
   show (if _ then _ else _ : ByteArray).size ≤ 600
   split
   ·
    exact Nat.zero_le _
   ·
    exact hb.2.2.1
  ·
   have e1 : (at_ L id.toNat).2 - 1 = 0 := e
   show (if _ then _ else _ : ByteArray) = _
   rw [if_pos (by omega)]
  ·
   have hp1 : 0 < (at_ L id.toNat).2 - 1 := hp
   have he1 : (at_ L j).1 = (if (at_ L id.toNat).2 = 1 then ByteArray.empty else (at_ L id.toNat).1) := he
   rw [if_neg (by omega)] at he1
   rcases Nat.lt_trichotomy j id.toNat with hlt | heq | hgt
   ·
    exact h.2.2.2.2 j _ hlt hl hj0 h2 he1
   ·
    exact hjk heq
   ·
    exact h.2.2.2.2 _ j hgt hj h2 hj0 he1.symm
 ·
  rw [if_neg hu]; exact h
end Go.Proofs.Ytegjpiggjcfoaaa.tb
namespace Go.Proofs.Ytegjpiggjcfoaaa
open Go.RowKit cl
abbrev Sym := ByteArray × Int
def tcells (l : List Sym) : List Value := l.flatMap fun x => [.string x.1, .int .i64 x.2]
theorem tcells_cons (x : Sym) (l : List Sym) : tcells (x :: l) = .string x.1 :: .int .i64 x.2 :: tcells l := rfl
theorem tcells_len : ∀ l : List Sym, (tcells l).length = l.length * 2 := by
 intro l
 induction l with
 | nil => rfl
 | cons x l ih => rw [tcells_cons, List.length_cons, List.length_cons, ih, List.length_cons]; omega
theorem tcells_app (a b : List Sym) : tcells (a ++ b) = tcells a ++ tcells b := by simp [tcells]
theorem tcells_one {l : List Sym} : ∀ u ∈ tcells l, u.oneCell' = true := by
 intro u hu
 simp only [tcells, List.mem_flatMap] at hu
 obtain ⟨x, _, hx⟩ := hu
 simp only [List.mem_cons, List.not_mem_nil, or_false] at hx
 rcases hx with rfl | rfl <;> rfl
theorem tcells_get : ∀ (l : List Sym) (j : Nat), j < l.length → (tcells l)[j * 2]? = some (.string (tb.at_ l j).1) ∧ (tcells l)[j * 2 + 1]? = some (.int .i64 (tb.at_ l j).2) := by
 intro l
 induction l with
 | nil => intro j h; simp at h
 | cons x l ih =>
  intro j h
  rw [tcells_cons]
  cases j with
  | zero => exact ⟨rfl, rfl⟩
  | succ j =>
   have := ih j (by simpa using h)
   rw [Nat.succ_mul]
   simpa [tb.at_] using this
theorem tcells_set : ∀ (l : List Sym) (j : Nat) (x : Sym), ((tcells l).set (j * 2) (.string x.1)).set (j * 2 + 1) (.int .i64 x.2) = tcells (l.set j x) := by
 intro l
 induction l with
 | nil => intro j x; rfl
 | cons y l ih =>
  intro j x
  cases j with
  | zero => rfl
  | succ j =>
   have := ih j x
   rw [List.set_cons_succ, tcells_cons, tcells_cons, ← this, Nat.succ_mul]
   rfl
abbrev Tabs (w : World) (B : Nat) (v : Value) (l : List Sym) : Prop := Cells w B v l.length 2 (tcells l)
theorem Tabs.get {w : World} {B n c : Nat} {ao : Option Addr} {l : List Sym} (h : Tabs w B (.slice ao n c) l) (hn : n = l.length) {j : Nat} (hj : j < n) : ∃ b off, ao = some ⟨b, off, none⟩ ∧ b < B ∧
  w.cell? ⟨b, off + j * 2, none⟩ = some (.string (tb.at_ l j).1) ∧ w.cell? ⟨b, off + j * 2 + 1, none⟩ = some (.int .i64 (tb.at_ l j).2) := by
 subst hn
 obtain ⟨_, ao', c', e, _, _, h4⟩ := h
 simp only [Value.slice.injEq] at e
 obtain ⟨rfl, _, rfl⟩ := e
 obtain ⟨b, off, rfl, hB, hc⟩ := h4 (by omega)
 obtain ⟨g0, g1⟩ := tcells_get l j hj
 exact ⟨b, off, rfl, hB, hc _ _ g0, hc _ _ g1⟩
end Go.Proofs.Ytegjpiggjcfoaaa
namespace Go.Proofs.Ytegjpiggjcfoaaa.tb
def cnt (L : List Sym) (s : ByteArray) : Int := if find L s < L.length then (at_ L (find L s)).2 else 0
theorem cnt_is {c : Int} {L : List Sym} {s : ByteArray} {i : Nat} (hr : Right c L) (hi : i < L.length) (h : 0 < (at_ L i).2 ∧ (at_ L i).1 = s) : cnt L s = (at_ L i).2 := by
 unfold cnt
 rw [find_right hr hi h, if_pos hi]
theorem cnt_no {L : List Sym} {s : ByteArray} (h : ∀ i, i < L.length → ¬ (0 < (at_ L i).2 ∧ (at_ L i).1 = s)) : cnt L s = 0 := by
 unfold cnt
 rw [find_none h, if_neg (Nat.lt_irrefl _)]
theorem cnt_bd {c : Int} {L : List Sym} {s : ByteArray} (hr : Right c L) : 0 ≤ cnt L s ∧ cnt L s ≤ 1099511627776 := by
 unfold cnt
 split
 ·
  rename_i h; have := hr.2.2.2.1 _ h; omega
 ·
  omega
theorem cnt_pos {L : List Sym} {s : ByteArray} : decide (find L s < L.length) = decide (0 < cnt L s) := by
 unfold cnt
 by_cases h : find L s < L.length
 ·
  rw [if_pos h, decide_eq_true h, decide_eq_true (find_yes h).1]
 ·
  rw [if_neg h, decide_eq_false h]; rfl
theorem cnt_set_other {c : Int} {L : List Sym} {k : Nat} {x : Sym} {s : ByteArray} (hr : Right c L) (hr' : Right c (L.set k x)) (hk : k < L.length) (h1 : ¬ (0 < (at_ L k).2 ∧ (at_ L k).1 = s)) (h2 : ¬ (0 < x.2 ∧ x.1 = s)) : cnt (L.set k x) s = cnt L s := by
 by_cases he : ∃ i, i < L.length ∧ 0 < (at_ L i).2 ∧ (at_ L i).1 = s
 ·
  obtain ⟨i, hi, h⟩ := he
  have hne : ¬ k = i := fun e => h1 (by rw [e]; exact h)
  have e : at_ (L.set k x) i = at_ L i := by rw [at_set hk, if_neg hne]
  rw [cnt_is hr hi h, cnt_is hr' (by rw [List.length_set]; exact hi) (by rw [e]; exact h), e]
 ·
  rw [cnt_no (fun i hi h => he ⟨i, hi, h⟩), cnt_no]
  intro i hi h
  rw [List.length_set] at hi
  rw [at_set hk] at h
  by_cases e : k = i
  ·
   rw [if_pos e] at h; exact h2 h
  ·
   rw [if_neg e] at h; exact he ⟨i, hi, h⟩
theorem cnt_snoc_other {c : Int} {L : List Sym} {x : Sym} {s : ByteArray} (hr : Right c L) (hr' : Right c (L ++ [x])) (h2 : ¬ (0 < x.2 ∧ x.1 = s)) : cnt (L ++ [x]) s = cnt L s := by
 have hl : (L ++ [x]).length = L.length + 1 := by rw [List.length_append]; rfl
 by_cases he : ∃ i, i < L.length ∧ 0 < (at_ L i).2 ∧ (at_ L i).1 = s
 ·
  obtain ⟨i, hi, h⟩ := he
  have e : at_ (L ++ [x]) i = at_ L i := by rw [at_snoc, if_pos hi]
  rw [cnt_is hr hi h, cnt_is hr' (i := i) (by omega) (by rw [e]; exact h), e]
 ·
  rw [cnt_no (fun i hi h => he ⟨i, hi, h⟩), cnt_no]
  intro i hi h
  rw [at_snoc] at h
  by_cases e : i < L.length
  ·
   rw [if_pos e] at h; exact he ⟨i, e, h⟩
  ·
   rw [if_neg e, if_pos (by omega)] at h; exact h2 h
theorem cnt_put {c : Int} {L : List Sym} {s s' : ByteArray} (hr : Right c L) (h0 : (put c L s).2.2 = 0) : cnt (put c L s).1 s' = cnt L s' + if s' = s then 1 else 0 := by
 have hr' := right_put (s := s) hr
 unfold put at h0 hr' ⊢
 by_cases h6 : 600 < s.size
 ·
  rw [if_pos h6] at h0; cases h0
 rw [if_neg h6] at h0 hr' ⊢
 by_cases hf : find L s < L.length
 ·
  rw [if_pos hf] at h0 hr' ⊢
  obtain ⟨g1, g2⟩ := find_yes hf
  by_cases hm : (at_ L (find L s)).2 = 1099511627776
  ·
   rw [if_pos hm] at h0; cases h0
  rw [if_neg hm] at h0 hr' ⊢
  by_cases hs : s' = s
  ·
   subst hs
   have e : at_ (L.set (find L s') (s', (at_ L (find L s')).2 + 1)) (find L s') = (s', (at_ L (find L s')).2 + 1) := by rw [at_set hf, if_pos rfl]
   rw [if_pos rfl, cnt_is hr hf ⟨g1, g2⟩, cnt_is hr' (by rw [List.length_set]; exact hf) (by rw [e]; exact ⟨by show 0 < _ + 1; omega, rfl⟩), e]
  ·
   rw [if_neg hs, cnt_set_other hr hr' hf (fun h => hs (by rw [← h.2, g2])) (fun h => hs h.2.symm)]; omega
 rw [if_neg hf] at h0 hr' ⊢
 have hno : ∀ j, j < L.length → ¬ (0 < (at_ L j).2 ∧ (at_ L j).1 = s) := fun j hj => find_no (by have := find_le L s; omega)
 by_cases hc : (free L : Int) = c
 ·
  rw [if_pos hc] at h0; cases h0
 rw [if_neg hc] at h0 hr' ⊢
 by_cases hfr : free L < L.length
 ·
  rw [if_pos hfr] at h0 hr' ⊢
  have hz := free_yes hfr
  by_cases hs : s' = s
  ·
   subst hs
   have e : at_ (L.set (free L) (s', 1)) (free L) = (s', 1) := by rw [at_set hfr, if_pos rfl]
   rw [if_pos rfl, cnt_no hno, cnt_is hr' (by rw [List.length_set]; exact hfr) (by rw [e]; exact ⟨by show (0 : Int) < 1; omega, rfl⟩), e]; rfl
  ·
   rw [if_neg hs, cnt_set_other hr hr' hfr (fun h => by have := h.1; omega) (fun h => hs h.2.symm)]; omega
 ·
  rw [if_neg hfr] at h0 hr' ⊢
  by_cases hs : s' = s
  ·
   subst hs
   have e : at_ (L ++ [(s', 1)]) L.length = (s', 1) := by rw [at_snoc, if_neg (Nat.lt_irrefl _), if_pos rfl]
   rw [if_pos rfl, cnt_no hno, cnt_is hr' (i := L.length) (by rw [List.length_append]; exact Nat.lt_succ_self _) (by rw [e]; exact ⟨by show (0 : Int) < 1; omega, rfl⟩), e]; rfl
  ·
   rw [if_neg hs, cnt_snoc_other hr hr' (fun h => hs h.2.symm)]; omega
theorem cnt_drop {c : Int} {L : List Sym} {id : Int} {s' : ByteArray} (hr : Right c L) (hu : used L id = true) : cnt (drop L id).1 s' = cnt L s' - if s' = (at_ L id.toNat).1 then 1 else 0 := by
 have hr' := right_drop (id := id) hr
 unfold drop at hr' ⊢
 rw [if_pos hu] at hr' ⊢
 unfold used at hu
 obtain ⟨h0, h1, h2⟩ := of_decide_eq_true hu
 have hk : id.toNat < L.length := by omega
 by_cases hs : s' = (at_ L id.toNat).1
 ·
  rw [if_pos hs, cnt_is hr hk ⟨h2, hs.symm⟩]
  by_cases h1r : (at_ L id.toNat).2 = 1
  ·
   rw [cnt_no, h1r]; rfl
   intro i hi h
   rw [List.length_set] at hi
   rw [at_set hk] at h
   by_cases e : id.toNat = i
   ·
    rw [if_pos e] at h
    have := h.1
    simp only at this; omega
   ·
    rw [if_neg e] at h
    rcases Nat.lt_or_ge i id.toNat with hlt | hge
    ·
     exact hr.2.2.2.2 i _ hlt hk h.1 h2 (by rw [h.2, hs])
    ·
     exact hr.2.2.2.2 _ i (by omega) hi h2 h.1 (by rw [h.2, hs])
  ·
   have e : at_ (L.set id.toNat (if (at_ L id.toNat).2 = 1 then ByteArray.empty else (at_ L id.toNat).1, (at_ L id.toNat).2 - 1)) id.toNat = ((at_ L id.toNat).1, (at_ L id.toNat).2 - 1) := by rw [at_set hk, if_pos rfl, if_neg h1r]
   rw [cnt_is hr' (i := id.toNat) (by rw [List.length_set]; exact hk) (by rw [e]; exact ⟨by show 0 < _ - 1; omega, hs.symm⟩), e]
 ·
  rw [if_neg hs, cnt_set_other hr hr' hk (fun h => hs h.2.symm)]; omega
  intro h
  have hx := h.2
  by_cases h1r : (at_ L id.toNat).2 = 1
  ·
   have := h.1
   simp only at this; omega
  ·
   simp only at hx
   rw [if_neg h1r] at hx
   exact hs hx.symm
end Go.Proofs.Ytegjpiggjcfoaaa.tb
namespace Go.Proofs.Ytegjpiggjcfoaaa
open Go.RowKit Go.WideShapes Go.ChangeShapes cl
abbrev Lab := ByteArray × ByteArray
def lcells (l : List Lab) : List Value := l.flatMap fun x => [.string x.1, .string x.2]
theorem lcells_get : ∀ (l : List Lab) (j : Nat) (h : j < l.length), (lcells l)[j * 2]? = some (.string l[j].1) ∧ (lcells l)[j * 2 + 1]? = some (.string l[j].2) := by
 intro l
 induction l with
 | nil => intro j h; simp at h
 | cons x l ih =>
  intro j h
  have e : lcells (x :: l) = .string x.1 :: .string x.2 :: lcells l := rfl
  rw [e]
  cases j with
  | zero => exact ⟨rfl, rfl⟩
  | succ j =>
   have := ih j (by simpa using h)
   rw [Nat.succ_mul]
   simpa using this
abbrev Labs (w : World) (B : Nat) (v : Value) (l : List Lab) : Prop := Cells w B v l.length 2 (lcells l)
theorem Labs.get {w : World} {B n c : Nat} {ao : Option Addr} {l : List Lab} (h : Labs w B (.slice ao n c) l) (hn : n = l.length) {j : Nat} (hj : j < n) : ∃ b off, ao = some ⟨b, off, none⟩ ∧ b < B ∧
  w.cell? ⟨b, off + j * 2, none⟩ = some (.string (l.getD j (.empty, .empty)).1) ∧ w.cell? ⟨b, off + j * 2 + 1, none⟩ = some (.string (l.getD j (.empty, .empty)).2) := by
 subst hn
 obtain ⟨_, ao', c', e, _, _, h4⟩ := h
 simp only [Value.slice.injEq] at e
 obtain ⟨rfl, _, rfl⟩ := e
 obtain ⟨b, off, rfl, hB, hc⟩ := h4 (by omega)
 obtain ⟨g0, g1⟩ := lcells_get l j hj
 have e : l.getD j (.empty, .empty) = l[j] := by simp [List.getD, hj]
 rw [e]
 exact ⟨b, off, rfl, hB, hc _ _ g0, hc _ _ g1⟩
end Go.Proofs.Ytegjpiggjcfoaaa
