/- texts put together: Kit, Cells, Dots, DotMath, Labels. -/
import Derived.BigQuiet
import Derived.ChangeArms
import Derived.Deep.DeepFit
import Derived.Deep.LoopGhost
import Derived.Deep.QuietTactic
import Derived.Deep.SlicePairs
import Derived.IntWalk
import Derived.Laws.AppendOwnNone
import Derived.Laws.CopyOwn
import Derived.Lib.Hide
import Derived.Outline
import Derived.Test.YtonknpdalemjkaaGreatRows
import Derived.WalkKit
import Derived.WalkLawsBesides
import Derived.WalkSmall
import Derived.WalkSpells
import Derived.WideShapes
namespace Go.Proofs.YtonknpdalemjkaaGreat.kit
open Go.RowKit
theorem app1 {P : Program} {w : World} {ops : Array Oper} {rest : List Oper} {o : Oper} {a : Act} {Q : Exit → Act → World → Prop} {cs : Array Value} {e' : TypeId}
  (s x : Operand) (t : TypeId) (hgd : o.guard = none)
  (ho : o.op = .call { callee := .builtin .append, args := #[s, x], argTypes := #[t, t] })
  (base : Nat) {e : TypeId} {z : Value} {size bytes : Nat} (ht : P.underlying t = some (.slice e)) (hi : (P.info? e).map (fun i => (i.zero, i.size, i.bytes)) = some (some z, size, bytes))
  (hzs : z.cells.size = size) (hsz : 0 < size) (hb1 : 0 < bytes)
  {v : Value} {n : Nat} {xs : List Value} {c : Nat} (hown : w.ownsRow base e size v n xs) (hs : a.eval s = v) (hx : a.eval x = .slice (some ⟨w.heap.size, 0, none⟩) 1 c)
  (hcs : cs.size = size) (h1 : ∀ u ∈ cs.toList, u.oneCell' = true) (hbytes : (n + 1) * bytes ≤ 140737488355328) (hbase : base ≤ w.heap.size)
  (h : ∀ v' w', w'.ownsRow base e size v' (n + 1) (xs ++ cs.toList) → Below base w w' → wpList P ops Q rest (a.put o.dst v') w') :
  wpList P ops Q (o :: rest) a (w.alloc (.cells cs e')) := by
 obtain ⟨i, hi, hz, hsize, hby⟩ := info_parts hi
 have hle : n + 1 ≤ (n + 1) * bytes := Nat.le_mul_of_pos_right _ hb1
 refine wpList_append_own _ hgd s x t ho base e i z size bytes ht hi hz hsize hby hzs hsz v n xs hs (hown.alloc _) ⟨w.heap.size, 0, none⟩ 1 c cs.toList hx (by simp [hcs]) ?_ h1
  (by unfold maxLen; omega) hbytes (by simp; omega) fun v' w' r1 r2 _ => h v' w' r1 ?_
 ·
  intro j u hj
  have hl : j < cs.size := by
   have := (List.getElem?_eq_some_iff.1 hj).1
   simpa using this
  rw [Array.getElem?_toList] at hj
  have ha : (⟨w.heap.size, 0, none⟩ : Addr).add j = ⟨w.heap.size, j, none⟩ := by rw [Addr.add_lit, Nat.zero_add]
  rw [ha, World.cell?_alloc_at _ _ _ _ rfl]
  exact hj
 ·
  refine ((Below.refl base w).alloc hbase _).grown r2 (by simp; omega) ?_
  intro k hk
  exact (hown.lt k hk).1
theorem appN {P : Program} {w : World} {ops : Array Oper} {rest : List Oper} {o : Oper} {a : Act} {Q : Exit → Act → World → Prop}
  (s x : Operand) (t : TypeId) (hgd : o.guard = none)
  (ho : o.op = .call { callee := .builtin .append, args := #[s, x], argTypes := #[t, t] })
  (base : Nat) {e : TypeId} {z : Value} {size bytes : Nat} (ht : P.underlying t = some (.slice e)) (hi : (P.info? e).map (fun i => (i.zero, i.size, i.bytes)) = some (some z, size, bytes))
  (hzs : z.cells.size = size) (hsz : 0 < size) (hb1 : 0 < bytes)
  {v : Value} {n : Nat} {xs : List Value} (hown : w.ownsRow base e size v n xs) (hs : a.eval s = v)
  {ao : Option Addr} {m c : Nat} (news : List Value) (hx : a.eval x = .slice ao m c) (hl : news.length = m * size) (hnone : ao = none → m = 0 ∧ c = 0)
  (hnews : ∀ ad, ao = some ad → ∀ j u, news[j]? = some u → w.cell? (ad.add j) = some u) (h1 : ∀ u ∈ news, u.oneCell' = true)
  (hbytes : (n + m) * bytes ≤ 140737488355328) (hbase : base ≤ w.heap.size)
  (h : ∀ v' w', w'.ownsRow base e size v' (n + m) (xs ++ news) → Below base w w' → wpList P ops Q rest (a.put o.dst v') w') :
  wpList P ops Q (o :: rest) a w := by
 obtain ⟨i, hi, hz, hsize, hby⟩ := info_parts hi
 have hle : n + m ≤ (n + m) * bytes := Nat.le_mul_of_pos_right _ hb1
 cases ao with
 | none =>
  obtain ⟨rfl, rfl⟩ := hnone rfl
  obtain rfl : news = [] := List.eq_nil_of_length_eq_zero (by simpa using hl)
  refine wpList_append_own_none hgd s x t ho base e i size ht hi v n xs hs hown hx ?_
  have := h v w (by simpa using hown) (Below.refl _ _)
  exact this
 | some ad =>
  refine wpList_append_own _ hgd s x t ho base e i z size bytes ht hi hz hsize hby hzs hsz v n xs hs hown ad m c news hx hl (hnews ad rfl) h1
   (by unfold maxLen; omega) hbytes hbase fun v' w' r1 r2 _ => h v' w' r1 ?_
  refine (Below.refl base w).grown r2 hbase ?_
  intro k hk
  exact (hown.lt k hk).1
def str (l : List Nat) : ByteArray := ⟨(l.map UInt8.ofNat).toArray⟩
theorem str_size (l : List Nat) : (str l).size = l.length := by simp [str, ByteArray.size]
def bytes (s : ByteArray) : List Nat := s.data.toList.map UInt8.toNat
theorem bytes_len (s : ByteArray) : (bytes s).length = s.size := by simp only [bytes, List.length_map, Array.length_toList]; rfl
theorem bytes_lt (s : ByteArray) : ∀ x ∈ bytes s, x < 256 := by
 intro x hx
 obtain ⟨y, _, rfl⟩ := List.mem_map.1 hx
 exact y.toNat_lt
theorem bytes_get (s : ByteArray) (k : Nat) (h : k < s.size) : (bytes s)[k]? = some s[k].toNat := by
 have h2 : k < s.data.size := h
 simp only [bytes, List.getElem?_map, Array.getElem?_toList, Option.map_eq_some_iff]
 exact ⟨s[k], Array.getElem?_eq_getElem h2, rfl⟩
theorem bytes_drop (s : ByteArray) (k : Nat) (h : k < s.size) : (bytes s).drop k = s[k].toNat :: (bytes s).drop (k + 1) := by
 have h2 : k < (bytes s).length := by rw [bytes_len]; exact h
 rw [List.drop_eq_getElem_cons h2]
 congr 1
 have := bytes_get s k h
 rw [List.getElem?_eq_getElem h2] at this
 exact Option.some.inj this
theorem str_bytes (s : ByteArray) : str (bytes s) = s := by
 have : (fun x : UInt8 => UInt8.ofNat x.toNat) = id := funext fun x => by simp
 simp only [str, bytes, List.map_map, Function.comp_def]
 rw [this]; simp
theorem bytes_str (l : List Nat) (h : ∀ x ∈ l, x < 256) : bytes (str l) = l := by
 simp only [str, bytes, List.map_map]
 conv => rhs; rw [← List.map_id l]
 exact List.map_congr_left fun x hx => by simpa using Nat.mod_eq_of_lt (h x hx)
theorem bytes_inj {s t : ByteArray} (h : bytes s = bytes t) : s = t := by rw [← str_bytes s, h, str_bytes]
theorem ne_empty {s : ByteArray} (h : 0 < s.size) : s.toList.isEmpty = false ∧ ¬ s.toList = [] ∧ ¬ s = ByteArray.empty := by
 have hl : s.data.toList.length = s.size := by rw [Array.length_toList]; rfl
 have hne : s.data.toList ≠ [] := fun e => by rw [e] at hl; simp at hl; omega
 refine ⟨?_, by rw [ByteArray.toList_eq]; exact hne, fun e => by subst e; simp at h⟩
 rw [ByteArray.toList_eq]
 cases hd : s.data.toList with
 | nil => exact absurd hd hne
 | cons x r => rfl
def u8s (l : List Nat) : List Value := l.map fun x : Nat => .int .u8 (x : Int)
theorem u8s_len (l : List Nat) : (u8s l).length = l.length := by simp [u8s]
theorem u8s_app (l r : List Nat) : u8s (l ++ r) = u8s l ++ u8s r := by simp [u8s]
theorem foldl_push (l : List Int) (s : ByteArray) : (l.foldl (fun r n => r.push (UInt8.ofNat n.toNat)) s) = ⟨s.data ++ (l.map fun n => UInt8.ofNat n.toNat).toArray⟩ := by
 induction l generalizing s with
 | nil => simp
 | cons x l ih => simp only [List.foldl_cons, ih, List.map_cons]; congr 1; simp [ByteArray.push]
theorem foldl_str (l : List Nat) : ((l.map (fun n : Nat => (n : Int))).foldl (fun r n => r.push (UInt8.ofNat n.toNat)) ByteArray.empty) = str l := by
 rw [foldl_push]; simp [str, ByteArray.empty, ByteArray.emptyWithCapacity, Function.comp_def]; rfl
theorem run_string {P : Program} {w : World} {base : Nat} {v : Value} {l : List Nat} {src dst e : TypeId}
  (hs : P.underlying src = some (.slice e)) (he : P.underlying e = some (.int .u8)) (hd : P.underlying dst = some .string)
  (hown : w.ownsRow base e 1 v l.length (u8s l)) :
  (convert src dst v).run P w = .ok (.string (str l)) w := by
 rcases hown.2 with ⟨rfl, hx⟩ | ⟨g, cap, cur, rfl, hbg, hg, hnc, hcm, hcs, htake⟩
 ·
  obtain rfl : l = [] := List.eq_nil_of_length_eq_zero hx
  rw [run_convert_bytes_string w src dst e _ _ _ hs he hd]
  rfl
 ·
  rw [run_convert_bytes_string w src dst e _ _ _ hs he hd, ← foldl_str]
  refine run_bytesToString w _ _ _ _ ?_
  have h := run_loadCells_list (P := P) (w := w) ⟨g, 0, none⟩ (u8s l) (fun j u hj => hown.cells (g := g) rfl j u hj)
  rw [u8s_len] at h
  rw [h]
  simp [u8s]
theorem str_app (a b : List Nat) : str (a ++ b) = str a ++ str b := by
 apply ByteArray.ext
 simp [str]
end Go.Proofs.YtonknpdalemjkaaGreat.kit
namespace Go.Proofs.YtonknpdalemjkaaGreat.cl
open Go.RowKit
def Cells (w : World) (B : Nat) (v : Value) (n k : Nat) (vs : List Value) : Prop :=
 vs.length = n * k ∧ ∃ (ao : Option Addr) (cap : Nat), v = .slice ao n cap ∧ ((ao = none → cap = 0) ∧ n ≤ cap) ∧ n ≤ maxLen ∧
  (0 < n → ∃ b off, ao = some ⟨b, off, none⟩ ∧ b < B ∧ ∀ j u, vs[j]? = some u → w.cell? ⟨b, off + j, none⟩ = some u)
theorem Cells.below {w w' : World} {B : Nat} {v : Value} {n k : Nat} {vs : List Value} (h : Cells w B v n k vs) (hb : Below B w w') : Cells w' B v n k vs := by
 obtain ⟨h0, ao, cap, rfl, h1, h3, h2⟩ := h
 refine ⟨h0, ao, cap, rfl, h1, h3, fun hp => ?_⟩
 obtain ⟨b, off, e, hB, hc⟩ := h2 hp
 exact ⟨b, off, e, hB, fun j u hj => by rw [hb.cell (p := ⟨b, off + j, none⟩) hB]; exact hc j u hj⟩
theorem Cells.mono {w : World} {B B' : Nat} {v : Value} {n k : Nat} {vs : List Value} (h : Cells w B v n k vs) (hb : B ≤ B') : Cells w B' v n k vs := by
 obtain ⟨h0, ao, cap, rfl, h1, h3, h2⟩ := h
 refine ⟨h0, ao, cap, rfl, h1, h3, fun hp => ?_⟩
 obtain ⟨b, off, e, hB, hc⟩ := h2 hp
 exact ⟨b, off, e, by omega, hc⟩
theorem Cells.next {W W' : World} {v : Value} {n k : Nat} {vs : List Value} (h : Cells W W.heap.size v n k vs) (hb : Below W.heap.size W W') : Cells W' W'.heap.size v n k vs := (h.below hb).mono hb.size
theorem Cells.form {w : World} {B : Nat} {v : Value} {n k : Nat} {vs : List Value} (h : Cells w B v n k vs) : ∃ ao cap, v = .slice ao n cap ∧ n ≤ cap ∧ n ≤ maxLen := by
 obtain ⟨_, ao, cap, rfl, h1, h3, _⟩ := h
 exact ⟨ao, cap, rfl, h1.2, h3⟩
theorem Cells.nil (w : World) (B k : Nat) : Cells w B (.slice none 0 0) 0 k [] := ⟨by simp, none, 0, rfl, ⟨fun _ => rfl, Nat.le_refl _⟩, by simp, fun h => absurd h (by simp)⟩
theorem Cells.zero {w : World} {B k cap : Nat} {ao : Option Addr} (h : ao = none → cap = 0) : Cells w B (.slice ao 0 cap) 0 k [] := ⟨by simp, ao, cap, rfl, ⟨h, Nat.zero_le _⟩, by simp, fun h => absurd h (by simp)⟩
theorem Cells.own {w : World} {base : Nat} {e : TypeId} {v : Value} {n k : Nat} {vs : List Value} (h : w.ownsRow base e k v n vs) : Cells w w.heap.size v n k vs := by
 have hlt := h.lt
 have hl := h.1
 rcases h.2 with ⟨rfl, rfl⟩ | ⟨g, cap, cur, rfl, hbg, hg, hnc, hcm, hcs, htake⟩
 ·
  obtain rfl : vs = [] := List.eq_nil_of_length_eq_zero (by simpa using hl)
  exact Cells.nil w _ _
 ·
  refine ⟨hl, _, _, rfl, ⟨(fun e => by cases e), hnc⟩, Nat.le_trans hnc hcm, fun _ => ⟨g, 0, rfl, (hlt g rfl).2, fun j u hj => ?_⟩⟩
  have := h.cells (g := g) rfl j u hj
  rwa [Addr.add_lit] at this
theorem Cells.news {w : World} {B : Nat} {ao : Option Addr} {n cap k : Nat} {vs : List Value} (h : Cells w B (.slice ao n cap) n k vs) : (ao = none → n = 0 ∧ cap = 0) ∧ (∀ ad, ao = some ad → ∀ j u, vs[j]? = some u → w.cell? (ad.add j) = some u) := by
 obtain ⟨h0, ao', c, e, ⟨h1, h2⟩, h3, h4⟩ := h
 simp only [Value.slice.injEq] at e
 obtain ⟨rfl, _, rfl⟩ := e
 refine ⟨fun e => ⟨by have := h1 e; omega, h1 e⟩, fun ad e j u hj => ?_⟩
 have hjl : j < vs.length := (List.getElem?_eq_some_iff.1 hj).1
 have hn : 0 < n := by
  rcases Nat.eq_zero_or_pos n with h | h
  ·
   rw [h, Nat.zero_mul] at h0; omega
  ·
   exact h
 obtain ⟨b, o, e2, _, hc⟩ := h4 hn
 rw [e] at e2
 obtain rfl := Option.some.inj e2
 rw [Addr.add_lit]
 exact hc j u hj
theorem Cells.news' {w : World} {B : Nat} {ao : Option Addr} {n n' cap k : Nat} {vs : List Value} (h : Cells w B (.slice ao n cap) n' k vs) : (ao = none → n = 0 ∧ cap = 0) ∧ (∀ ad, ao = some ad → ∀ j u, vs[j]? = some u → w.cell? (ad.add j) = some u) := by
 obtain rfl : n = n' := by
  obtain ⟨_, _, e, _⟩ := h.form
  simp only [Value.slice.injEq] at e
  exact e.2.1
 exact h.news
theorem Cells.at {w : World} {B b off n cap k : Nat} {vs : List Value} (h : Cells w B (.slice (some ⟨b, off, none⟩) n cap) n k vs) (hn : 0 < n) : b < B ∧ ∀ j u, vs[j]? = some u → w.cell? ⟨b, off + j, none⟩ = some u := by
 obtain ⟨h0, ao', c, e, ⟨h1, h2⟩, h3, h4⟩ := h
 simp only [Value.slice.injEq] at e
 obtain ⟨rfl, _, rfl⟩ := e
 obtain ⟨b', o', e2, h5, hc⟩ := h4 hn
 simp only [Option.some.injEq, Addr.mk.injEq] at e2
 obtain ⟨rfl, rfl, _⟩ := e2
 exact ⟨h5, hc⟩
theorem Cells.cut {w : World} {B b off n cap k i m : Nat} {vs : List Value} (h : Cells w B (.slice (some ⟨b, off, none⟩) n cap) n k vs) (hm : i + m ≤ n) :
  Cells w B (.slice (some ⟨b, off + i * k, none⟩) m (cap - i)) m k ((vs.drop (i * k)).take (m * k)) := by
 have hf := h.form
 obtain ⟨_, _, e, hc, hx⟩ := hf
 simp only [Value.slice.injEq] at e
 obtain ⟨_, _, rfl⟩ := e
 have h0 := h.1
 have hmul : i * k + m * k ≤ n * k := by rw [← Nat.add_mul]; exact Nat.mul_le_mul_right _ hm
 refine ⟨by rw [List.length_take, List.length_drop]; omega, _, _, rfl, ⟨(fun e => by cases e), by omega⟩, by omega, fun hp => ?_⟩
 obtain ⟨hB, hcell⟩ := h.at (by omega)
 refine ⟨_, _, rfl, hB, fun j u hj => ?_⟩
 rw [Nat.add_assoc]
 refine hcell _ u ?_
 rw [List.getElem?_take] at hj
 split at hj
 ·
  rwa [List.getElem?_drop] at hj
 ·
  cases hj
theorem cells_lit (W : World) (n k : Nat) (vs : List Value) (arr : Array Value) (t : TypeId) (harr : arr.toList = vs) (hl : vs.length = n * k) (hn : n ≤ maxLen) :
  Cells (W.alloc (.cells arr t)) (W.alloc (.cells arr t)).heap.size (.slice (some ⟨W.heap.size, 0, none⟩) n n) n k vs := by
 refine ⟨hl, _, _, rfl, ⟨(fun e => by cases e), Nat.le_refl _⟩, hn, fun _ => ⟨_, _, rfl, by simp, fun j u hj => ?_⟩⟩
 rw [Nat.zero_add, World.cell?_alloc_at _ _ _ _ rfl, ← Array.getElem?_toList, harr]
 exact hj
theorem own_none {w W : World} (t : TypeId) (h : w.heap.size ≤ W.heap.size) (k : Nat) : (W.alloc (.cells #[] t)).ownsRow w.heap.size t k (.slice (some ⟨W.heap.size, 0, none⟩) 0 0) 0 [] := by
 refine ⟨by simp, Or.inr ⟨W.heap.size, 0, #[], rfl, h, ?_, Nat.le_refl _, Nat.zero_le _, by simp, by simp⟩⟩
 show (W.heap.push _)[W.heap.size]? = _
 simp
def strs (l : List ByteArray) : List Value := l.map Value.string
theorem strs_len (l : List ByteArray) : (strs l).length = l.length := by simp [strs]
theorem strs_take (a : List ByteArray) (n : Nat) : (strs a).take n = strs (a.take n) := by simp [strs]
theorem strs_drop (a : List ByteArray) (n : Nat) : (strs a).drop n = strs (a.drop n) := by simp [strs]
theorem strs_get {l : List ByteArray} {j : Nat} (hj : j < l.length) : (strs l)[j]? = some (.string (l.getD j .empty)) := by simp [strs, List.getD, hj]
abbrev Strs (w : World) (B : Nat) (v : Value) (l : List ByteArray) : Prop := Cells w B v l.length 1 (strs l)
theorem Strs.cell {w : World} {B b off n cap : Nat} {l : List ByteArray} (h : Strs w B (.slice (some ⟨b, off, none⟩) n cap) l) (hn : n = l.length) {j : Nat} (hj : j < n) : b < B ∧ w.cell? ⟨b, off + j, none⟩ = some (.string (l.getD j .empty)) := by
 subst hn
 obtain ⟨hB, hc⟩ := h.at (by omega)
 exact ⟨hB, hc j _ (strs_get hj)⟩
theorem Cells.drop {w : World} {B n cap k i : Nat} {ao : Option Addr} {vs : List Value} (h : Cells w B (.slice ao n cap) n k vs) (hi : i ≤ n) :
  Cells w B (.slice (Option.map (fun x => x.add (i * k)) ao) (n - i) (cap - i)) (n - i) k (vs.drop (i * k)) := by
 obtain ⟨h0, ao', c, e, ⟨h1, h2⟩, h3, h4⟩ := h
 simp only [Value.slice.injEq] at e
 obtain ⟨rfl, _, rfl⟩ := e
 refine ⟨by rw [List.length_drop, h0, Nat.sub_mul], _, _, rfl, ⟨fun e => ?_, by omega⟩, by omega, fun hp => ?_⟩
 ·
  cases ao with
  | none => have := h1 rfl; omega
  | some a => cases e
 ·
  obtain ⟨b, off, rfl, hB, hc⟩ := h4 (by omega)
  refine ⟨b, off + i * k, ?_, hB, fun j u hj => ?_⟩
  ·
   simp only [Option.map_some, Addr.add_lit]
  ·
   rw [List.getElem?_drop] at hj
   rw [Nat.add_assoc]; exact hc _ u hj
theorem Strs.drop {w : World} {B n cap i : Nat} {ao : Option Addr} {l : List ByteArray} (h : Strs w B (.slice ao n cap) l) (hn : n = l.length) (hi : i ≤ n) :
  Strs w B (.slice (Option.map (fun x => x.add i) ao) (n - i) (cap - i)) (l.drop i) := by
 subst hn
 have := Cells.drop h hi
 rw [Nat.mul_one, strs_drop] at this
 unfold Strs
 rw [List.length_drop]
 exact this
theorem Strs.take {w : World} {B n cap m : Nat} {ao : Option Addr} {l : List ByteArray} (h : Strs w B (.slice ao n cap) l) (hn : n = l.length) (hm : m ≤ n) :
  Strs w B (.slice ao m cap) (l.take m) := by
 subst hn
 obtain ⟨h0, ao', c, e, ⟨h1, h2⟩, h3, h4⟩ := h
 simp only [Value.slice.injEq] at e
 obtain ⟨rfl, _, rfl⟩ := e
 have hl : (l.take m).length = m := by rw [List.length_take]; omega
 refine ⟨by rw [strs_len, Nat.mul_one], _, _, by rw [hl], ⟨h1, by omega⟩, by omega, fun hp => ?_⟩
 obtain ⟨b, off, rfl, hB, hc⟩ := h4 (by omega)
 refine ⟨b, off, rfl, hB, fun j u hj => hc j u ?_⟩
 rw [← strs_take, List.getElem?_take] at hj
 split at hj
 ·
  exact hj
 ·
  cases hj
end Go.Proofs.YtonknpdalemjkaaGreat.cl
namespace Go.Proofs.YtonknpdalemjkaaGreat
open Go.RowKit Go.ChangeShapes Go.WideShapes cl
abbrev Dot := Int × Int
def SaidD (x : Bool) (w : World) (e : Ending) (w' : World) : Prop := e = .returned (.bool x) ∧ Below w.heap.size w w'
theorem below_drewND {B : Nat} {w w' : World} (h : Below B w w') (n : Nat) : Below B w (w'.drewN n) := by
 induction n with
 | zero => exact h
 | succ n ih => exact ih.drew
def dcells (l : List (Int × Int)) : List Value := l.flatMap fun x => [.int .i64 x.1, .int .i64 x.2]
theorem dcells_len : ∀ l : List (Int × Int), (dcells l).length = l.length * 2 := by
 intro l
 induction l with
 | nil => rfl
 | cons x l ih =>
  have e : dcells (x :: l) = .int .i64 x.1 :: .int .i64 x.2 :: dcells l := rfl
  rw [e, List.length_cons, List.length_cons, ih, List.length_cons]; omega
theorem dcells_get : ∀ (l : List (Int × Int)) (j : Nat) (h : j < l.length), (dcells l)[j * 2]? = some (.int .i64 l[j].1) ∧ (dcells l)[j * 2 + 1]? = some (.int .i64 l[j].2) := by
 intro l
 induction l with
 | nil => intro j h; simp at h
 | cons x l ih =>
  intro j h
  have e : dcells (x :: l) = .int .i64 x.1 :: .int .i64 x.2 :: dcells l := rfl
  rw [e]
  cases j with
  | zero => exact ⟨rfl, rfl⟩
  | succ j =>
   have := ih j (by simpa using h)
   rw [Nat.succ_mul]
   simpa using this
abbrev Dots (w : World) (B : Nat) (v : Value) (l : List (Int × Int)) : Prop := Cells w B v l.length 2 (dcells l)
theorem Dots.get {w : World} {B n c : Nat} {ao : Option Addr} {l : List (Int × Int)} (h : Dots w B (.slice ao n c) l) (hn : n = l.length) {j : Nat} (hj : j < n) : ∃ b off, ao = some ⟨b, off, none⟩ ∧ b < B ∧
  w.cell? ⟨b, off + j * 2, none⟩ = some (.int .i64 (l.getD j (0, 0)).1) ∧ w.cell? ⟨b, off + j * 2 + 1, none⟩ = some (.int .i64 (l.getD j (0, 0)).2) := by
 subst hn
 obtain ⟨_, ao', c', e, _, _, h4⟩ := h
 simp only [Value.slice.injEq] at e
 obtain ⟨rfl, _, rfl⟩ := e
 obtain ⟨b, off, rfl, hB, hc⟩ := h4 (by omega)
 obtain ⟨g0, g1⟩ := dcells_get l j hj
 have e : l.getD j (0, 0) = l[j] := by simp [List.getD, hj]
 rw [e]
 exact ⟨b, off, rfl, hB, hc _ _ g0, hc _ _ g1⟩
theorem ptake_eqD {a b : List (Int × Int)} {k : Nat} (hl : a.length = b.length) (hk : k < a.length) (h : a.take k = b.take k) (he : a.getD k (0, 0) = b.getD k (0, 0)) : a.take (k + 1) = b.take (k + 1) := by
 have hb : k < b.length := by omega
 rw [List.take_succ_eq_append_getElem hk, List.take_succ_eq_append_getElem hb, h]
 simp only [List.getD, List.getElem?_eq_getElem hk, List.getElem?_eq_getElem hb, Option.getD_some] at he
 rw [he]
set_option maxHeartbeats 1600000 in
set_option maxRecDepth 100000 in
theorem equal_anyD (a b : List (Int × Int)) (va vb : Value) (w : World) (ha : Dots w w.heap.size va a) (hb : Dots w w.heap.size vb b) :
  Calls Tryz.prog 64 #[va, vb] w (SaidD (decide (a = b)) w) := by
 obtain ⟨ao, ca, rfl, _, hla⟩ := ha.form
 obtain ⟨bo, cb, rfl, _, hlb⟩ := hb.form
 unfold maxLen at hla hlb
 by_cases hl : a.length = b.length
 ·
  have HL := Lib.hid hl
  have HCA := Lib.hid ha
  have HCB := Lib.hid hb
  obtain ⟨n, hn⟩ : ∃ n, n = a.length := ⟨_, rfl⟩
  have HN := Lib.hid hn
  have HNB : Hid (n = b.length) := hn.trans hl
  rw [← hl]
  rw [← hn] at hla ⊢
  have HCA2 : Hid (Dots w w.heap.size (.slice ao n ca) a) := by show Dots _ _ _ _; rw [HN.out]; exact HCA.out
  have HCB2 : Hid (Dots w w.heap.size (.slice bo n cb) b) := by show Dots _ _ _ _; rw [HNB.out]; exact HCB.out
  clear hlb hl ha hb hn HCA HCB
  go_enter Tryz.func64, Tryz.ntmps64
  go_wp2
  go_loopw [5, 13] (fun _ i wr => ∃ k : Nat, i = .int .i64 k ∧ k ≤ n ∧ Hid (a.take k = b.take k) ∧ Below w.heap.size w wr) (fun _ i _ => n - (intOf i).toNat)
  case atStart => exact ⟨0, rfl, by omega, rfl, Below.refl _ _⟩
  case round =>
   obtain ⟨k, rfl, hk, HT, hbl⟩ := hrel
   by_cases hlt : k < n
   ·
    obtain ⟨ba, oa, rfl, hBa, p0, p1⟩ := Dots.get HCA2.out HN.out hlt
    obtain ⟨bb, ob, rfl, hBb, r0, r1⟩ := Dots.get HCB2.out HNB.out hlt
    have c0 := (hbl.cell (p := ⟨ba, oa + k * 2, none⟩) hBa).trans p0
    have c1 := (hbl.cell (p := ⟨ba, oa + k * 2 + 1, none⟩) hBa).trans p1
    have d0 := (hbl.cell (p := ⟨bb, ob + k * 2, none⟩) hBb).trans r0
    have d1 := (hbl.cell (p := ⟨bb, ob + k * 2 + 1, none⟩) hBb).trans r1
    clear p0 p1 r0 r1
    have hkI : (k : Int) < (n : Int) := by omega
    by_cases he : a.getD k (0, 0) = b.getD k (0, 0)
    ·
     have HT' : Hid (a.take (k + 1) = b.take (k + 1)) := ptake_eqD HL.out (by rw [← HN.out]; exact hlt) HT.out he
     rw [← he] at d0 d1
     obtain ⟨⟨x0, x1⟩, hx⟩ : ∃ x, x = a.getD k (0, 0) := ⟨_, rfl⟩
     rw [← hx] at c0 c1 d0 d1
     simp only at c0 c1 d0 d1
     clear hx he
     go_wp2
     go_quiet (fail)
     go_wp2
     go_roundw
     case rel => exact ⟨k + 1, by go_num, by omega, HT', below_drewND hbl _⟩
     case measure => simp [intOf]; omega
    ·
     have HE : Hid (decide (a = b) = false) := decide_eq_false (fun e => he (by rw [e]))
     obtain ⟨⟨x0, x1⟩, hx⟩ : ∃ x, x = a.getD k (0, 0) := ⟨_, rfl⟩
     obtain ⟨⟨y0, y1⟩, hy⟩ : ∃ x, x = b.getD k (0, 0) := ⟨_, rfl⟩
     rw [← hx] at c0 c1
     rw [← hy] at d0 d1
     simp only at c0 c1 d0 d1
     have hne : ¬ (x0 = y0 ∧ x1 = y1) := fun ⟨e0, e1⟩ => he (by rw [← hx, ← hy, e0, e1])
     clear hx hy he
     by_cases h0 : x0 = y0
     ·
      subst h0
      have h1 : ¬ x1 = y1 := fun e => hne ⟨rfl, e⟩
      have h2 : (x1 == y1) = false := beq_eq_false_iff_ne.2 h1
      clear hne
      go_wp2
      go_quiet (fail)
      go_wp2
      go_ret
      rw [HE.out]; exact ⟨rfl, below_drewND hbl _⟩
     ·
      have h2 : (x0 == y0) = false := beq_eq_false_iff_ne.2 h0
      clear hne
      go_wp2
      go_quiet (fail)
      go_wp2
      go_ret
      rw [HE.out]; exact ⟨rfl, below_drewND hbl _⟩
   ·
    have HE : Hid (decide (a = b) = true) := by
     have := HT.out
     rw [List.take_of_length_le (by rw [← HN.out]; omega), List.take_of_length_le (by rw [← HNB.out]; omega)] at this
     exact decide_eq_true this
    go_wp2
    go_ret
    rw [HE.out]; exact ⟨rfl, hbl⟩
 ·
  have HE : Hid (decide (a = b) = false) := decide_eq_false (fun e => hl (by rw [e]))
  have hne : ((a.length : Int) != (b.length : Int)) = true := by simp; omega
  have hne2 : ((a.length : Int) == (b.length : Int)) = false := by simp; omega
  clear hl ha hb
  go_enter Tryz.func64, Tryz.ntmps64
  go_wp2
  go_ret
  rw [HE.out]; exact ⟨rfl, Below.refl _ _⟩
theorem dcells_app (a b : List Dot) : dcells (a ++ b) = dcells a ++ dcells b := by simp [dcells]
theorem dcells_one : ∀ {l : List Dot}, ∀ u ∈ dcells l, u.oneCell' = true := by
 intro l u hu
 obtain ⟨x, _, h⟩ := List.mem_flatMap.1 hu
 simp only [List.mem_cons, List.not_mem_nil, or_false] at h
 rcases h with rfl | rfl <;> rfl
theorem infoDot : (Tryz.prog.info? 51).map (fun i => (i.zero, i.size, i.bytes)) = some (some (.agg #[.int .i64 0, .int .i64 0]), 2, 16) := by kernel_rfl
def valid (d : Dot) : Bool := decide (0 ≤ d.1 ∧ d.1 < 16 ∧ 1 ≤ d.2 ∧ d.2 ≤ 1099511627776)
def dless (x y : Dot) : Bool := decide (x.1 < y.1 ∨ x.1 = y.1 ∧ x.2 < y.2)
set_option maxHeartbeats 800000 in
set_option maxRecDepth 100000 in
theorem valid_any (d : Dot) (w : World) : Calls Tryz.prog 61 #[.agg #[.int .i64 d.1, .int .i64 d.2]] w (SaidD (valid d) w) := by
 obtain ⟨a, b⟩ := d
 have hA : Below w.heap.size w (w.alloc (.cells #[.int .i64 a, .int .i64 b] 51)) := (Below.refl _ _).alloc (Nat.le_refl _) _
 have HV : Hid (∀ r, decide (0 ≤ a ∧ a < 16 ∧ 1 ≤ b ∧ b ≤ 1099511627776) = r → valid (a, b) = r) := fun r h => h
 obtain ⟨R, hR⟩ : ∃ R, R = valid (a, b) := ⟨_, rfl⟩
 rw [← hR] at HV ⊢
 clear hR
 by_cases h1 : 0 ≤ a
 ·
  by_cases h2 : a < 16
  ·
   by_cases h3 : 1 ≤ b
   ·
    by_cases h4 : b ≤ 1099511627776
    ·
     have HR := Lib.hid (HV.out true (decide_eq_true ⟨h1, h2, h3, h4⟩))
     go_enter Tryz.func61, Tryz.ntmps61
     go_wp2
     go_ret
     rw [HR.out]; exact ⟨rfl, hA⟩
    ·
     have HR := Lib.hid (HV.out false (decide_eq_false (fun h => h4 h.2.2.2)))
     go_enter Tryz.func61, Tryz.ntmps61
     go_wp2
     go_ret
     rw [HR.out]; exact ⟨rfl, hA⟩
   ·
    have HR := Lib.hid (HV.out false (decide_eq_false (fun h => h3 h.2.2.1)))
    go_enter Tryz.func61, Tryz.ntmps61
    go_wp2
    go_ret
    rw [HR.out]; exact ⟨rfl, hA⟩
  ·
   have HR := Lib.hid (HV.out false (decide_eq_false (fun h => h2 h.2.1)))
   go_enter Tryz.func61, Tryz.ntmps61
   go_wp2
   go_ret
   rw [HR.out]; exact ⟨rfl, hA⟩
 ·
  have HR := Lib.hid (HV.out false (decide_eq_false (fun h => h1 h.1)))
  go_enter Tryz.func61, Tryz.ntmps61
  go_wp2
  go_ret
  rw [HR.out]; exact ⟨rfl, hA⟩
end Go.Proofs.YtonknpdalemjkaaGreat
namespace Go.Proofs.YtonknpdalemjkaaGreat.dm
theorem valid_iff (d : Dot) : valid d = true ↔ 0 ≤ d.1 ∧ d.1 < 16 ∧ 1 ≤ d.2 ∧ d.2 ≤ 1099511627776 := decide_eq_true_iff
theorem dless_iff (x y : Dot) : dless x y = true ↔ x.1 < y.1 ∨ x.1 = y.1 ∧ x.2 < y.2 := decide_eq_true_iff
theorem dless_irrefl (x : Dot) : ¬ dless x x = true := by rw [dless_iff]; omega
theorem dless_asymm {x y : Dot} (h1 : dless x y = true) (h2 : dless y x = true) : False := by rw [dless_iff] at *; omega
theorem dless_trans {x y z : Dot} (h1 : dless x y = true) (h2 : dless y z = true) : dless x z = true := by rw [dless_iff] at *; omega
theorem dless_total {x y : Dot} (h : x ≠ y) : dless x y = true ∨ dless y x = true := by
 rw [dless_iff, dless_iff]
 have : ¬ (x.1 = y.1 ∧ x.2 = y.2) := fun e => h (Prod.ext e.1 e.2)
 omega
theorem sorted_ext {α : Type} {R : α → α → Prop} (irr : ∀ x, ¬ R x x) (asy : ∀ x y, R x y → R y x → False) : ∀ {a b : List α}, a.Pairwise R → b.Pairwise R → (∀ x, x ∈ a ↔ x ∈ b) → a = b := by
 intro a
 induction a with
 | nil =>
  intro b _ _ h
  cases b with
  | nil => rfl
  | cons y s => exact absurd ((h y).2 List.mem_cons_self) (by simp)
 | cons x r ih =>
  intro b ha hb h
  cases b with
  | nil => exact absurd ((h x).1 List.mem_cons_self) (by simp)
  | cons y s =>
   obtain ⟨ha1, ha2⟩ := List.pairwise_cons.1 ha
   obtain ⟨hb1, hb2⟩ := List.pairwise_cons.1 hb
   have hxy : x = y := by
    rcases List.mem_cons.1 ((h x).1 List.mem_cons_self) with e | e
    ·
     exact e
    ·
     rcases List.mem_cons.1 ((h y).2 List.mem_cons_self) with e' | e'
     ·
      exact e'.symm
     ·
      exact (asy _ _ (ha1 y e') (hb1 x e)).elim
   subst hxy
   rw [ih ha2 hb2 fun z => ?_]
   constructor
   ·
    intro hz
    rcases List.mem_cons.1 ((h z).1 (List.mem_cons_of_mem _ hz)) with e | e
    ·
     subst e; exact absurd (ha1 _ hz) (irr _)
    ·
     exact e
   ·
    intro hz
    rcases List.mem_cons.1 ((h z).2 (List.mem_cons_of_mem _ hz)) with e | e
    ·
     subst e; exact absurd (hb1 _ hz) (irr _)
    ·
     exact e
abbrev Ctx := List Dot × List Dot
def kn : List Dot → Int → Int
 | [], _ => 0
 | d :: r, n => if d.1 = n then d.2 else kn r n
def Knows (c : Ctx) (d : Dot) : Prop := valid d = true ∧ (d.2 ≤ kn c.1 d.1 ∨ d ∈ c.2)
structure Right (c : Ctx) : Prop where
 vok : ∀ d ∈ c.1, valid d = true
 vup : c.1.Pairwise fun a b => a.1 < b.1
 cok : ∀ d ∈ c.2, valid d = true ∧ kn c.1 d.1 + 2 ≤ d.2
 cup : c.2.Pairwise fun a b => dless a b = true
theorem kn_cases : ∀ (v : List Dot) (n : Int), kn v n = 0 ∧ (∀ d ∈ v, d.1 ≠ n) ∨ (n, kn v n) ∈ v := by
 intro v n
 induction v with
 | nil => exact Or.inl ⟨rfl, fun d h => by cases h⟩
 | cons d r ih =>
  unfold kn
  by_cases h : d.1 = n
  ·
   rw [if_pos h]
   right
   rw [← h]; exact List.mem_cons_self
  ·
   rw [if_neg h]
   rcases ih with ⟨h1, h2⟩ | h1
   ·
    exact Or.inl ⟨h1, fun e he => by
     rcases List.mem_cons.1 he with rfl | he
     ·
      exact h
     ·
      exact h2 e he⟩
   ·
    exact Or.inr (List.mem_cons_of_mem _ h1)
theorem kn_mem : ∀ {v : List Dot}, v.Pairwise (fun a b => a.1 < b.1) → ∀ {d : Dot}, d ∈ v → kn v d.1 = d.2 := by
 intro v
 induction v with
 | nil => intro _ d h; cases h
 | cons e r ih =>
  intro hp d hd
  obtain ⟨h1, h2⟩ := List.pairwise_cons.1 hp
  unfold kn
  rcases List.mem_cons.1 hd with rfl | hd
  ·
   rw [if_pos rfl]
  ·
   have := h1 d hd
   rw [if_neg (by omega)]
   exact ih h2 hd
theorem Right.kn0 {c : Ctx} (h : Right c) (n : Int) : 0 ≤ kn c.1 n ∧ kn c.1 n ≤ 1099511627776 := by
 rcases kn_cases c.1 n with ⟨h1, _⟩ | h1
 ·
  omega
 ·
  have := (valid_iff _).1 (h.vok _ h1)
  simp only at this; omega
theorem kn_le {a b : Ctx} (ha : Right a) (hb : Right b) (h : ∀ d, Knows b d → Knows a d) (n : Int) : kn b.1 n ≤ kn a.1 n := by
 rcases Int.lt_or_le (kn a.1 n) (kn b.1 n) with hlt | hle
 ·
  exfalso
  have h0 := ha.kn0 n
  have h1 := hb.kn0 n
  rcases kn_cases b.1 n with ⟨e, _⟩ | hm
  ·
   omega
  ·
   have hv := (valid_iff _).1 (hb.vok _ hm)
   simp only at hv
   have hk : Knows b (n, kn a.1 n + 1) := ⟨(valid_iff _).2 ⟨hv.1, hv.2.1, by simp only; omega, by simp only; omega⟩, Or.inl (by simp only; omega)⟩
   rcases (h _ hk).2 with e | e
   ·
    simp only at e; omega
   ·
    have := (ha.cok _ e).2
    simp only at this; omega
 ·
  exact hle
theorem ext {a b : Ctx} (ha : Right a) (hb : Right b) (h : ∀ d, Knows a d ↔ Knows b d) : a = b := by
 have hk : ∀ n, kn a.1 n = kn b.1 n := fun n => by
  have h1 := kn_le ha hb (fun d => (h d).2) n
  have h2 := kn_le hb ha (fun d => (h d).1) n
  omega
 have side : ∀ {p q : Ctx}, Right p → Right q → (∀ n, kn p.1 n = kn q.1 n) → ∀ d ∈ p.1, d ∈ q.1 := fun {p q} hp hq hk d hd => by
  have h1 := kn_mem hp.vup hd
  have h2 := (valid_iff _).1 (hp.vok _ hd)
  rcases kn_cases q.1 d.1 with ⟨e, _⟩ | hm
  ·
   rw [← hk, h1] at e; omega
  ·
   rw [← hk, h1] at hm; exact hm
 have cl : ∀ {p q : Ctx}, Right p → Right q → (∀ n, kn p.1 n = kn q.1 n) → (∀ d, Knows p d → Knows q d) → ∀ d ∈ p.2, d ∈ q.2 := fun {p q} hp hq hk hh d hd => by
  have h1 := hp.cok d hd
  rcases (hh d ⟨h1.1, Or.inr hd⟩).2 with e | e
  ·
   rw [← hk] at e; omega
  ·
   exact e
 refine Prod.ext (sorted_ext (fun x => by omega) (fun x y => by omega) ha.vup hb.vup fun d => ⟨side ha hb hk d, side hb ha (fun n => (hk n).symm) d⟩) (sorted_ext dless_irrefl (fun _ _ => dless_asymm) ha.cup hb.cup fun d => ⟨cl ha hb hk (fun d => (h d).1) d, cl hb ha (fun n => (hk n).symm) (fun d => (h d).2) d⟩)
structure St where
 K : Int → Int
 cloud : List Dot
 prev : Option Dot
def step (s : St) (d : Dot) : St :=
 if s.prev = some d ∨ d.2 ≤ s.K d.1 then ⟨s.K, s.cloud, some d⟩
 else if d.2 = s.K d.1 + 1 then ⟨fun n => if n = d.1 then s.K n + 1 else s.K n, s.cloud, some d⟩
 else ⟨s.K, s.cloud ++ [d], some d⟩
def run (K : Int → Int) (l : List Dot) : St := l.foldl step ⟨K, [], none⟩
def layV (K : Int → Int) : List Dot := (List.range 16).filterMap fun i : Nat => if 0 < K i then some ((i : Int), K i) else none
def layF (K : Int → Int) (l : List Dot) : Ctx := (layV (run K l).K, (run K l).cloud)
theorem run_snoc (K : Int → Int) (l : List Dot) (d : Dot) : run K (l ++ [d]) = step (run K l) d := by simp [run]
def Up (l : List Dot) : Prop := l.Pairwise fun a b => dless b a = false
structure Inv (K : Int → Int) (l : List Dot) (s : St) : Prop where
 ge : ∀ n, K n ≤ s.K n
 top : ∀ n, 0 ≤ s.K n ∧ s.K n ≤ 1099511627776
 cm : ∀ d ∈ s.cloud, d ∈ l ∧ s.K d.1 + 2 ≤ d.2
 cup : s.cloud.Pairwise fun a b => dless a b = true
 know : ∀ d, valid d = true → ((d.2 ≤ s.K d.1 ∨ d ∈ s.cloud) ↔ (d.2 ≤ K d.1 ∨ d ∈ l))
 prev : s.prev = l.getLast?
theorem last_is {p : List Dot} {d : Dot} (hu : Up (p ++ [d])) (hd : d ∈ p) : p.getLast? = some d := by
 have hne : p ≠ [] := fun e => by rw [e] at hd; cases hd
 rw [List.getLast?_eq_some_getLast hne]
 congr 1
 obtain ⟨hup, _, hud⟩ := List.pairwise_append.1 hu
 have h1 : dless d (p.getLast hne) = false := hud _ (List.getLast_mem hne) d (by simp)
 have hsp := List.dropLast_concat_getLast hne
 rw [← hsp] at hup hd
 rcases List.mem_append.1 hd with h | h
 ·
  have h2 : dless (p.getLast hne) d = false := (List.pairwise_append.1 hup).2.2 d h _ (by simp)
  rcases Classical.em (p.getLast hne = d) with e | e
  ·
   exact e
  ·
   rcases dless_total e with h3 | h3
   ·
    rw [h3] at h2; cases h2
   ·
    rw [h3] at h1; cases h1
 ·
  simp only [List.mem_cons, List.not_mem_nil, or_false] at h
  exact h.symm
theorem inv_step {K : Int → Int} {p : List Dot} {s : St} {d : Dot} (h : Inv K p s) (hu : Up (p ++ [d])) (hv : valid d = true) : Inv K (p ++ [d]) (step s d) := by
 have hvd := (valid_iff d).1 hv
 have hud := (List.pairwise_append.1 hu).2.2
 have hlast : (p ++ [d]).getLast? = some d := by simp
 have hmem : ∀ e, e ∈ p ++ [d] ↔ e ∈ p ∨ e = d := fun e => by simp
 unfold step
 by_cases c1 : s.prev = some d ∨ d.2 ≤ s.K d.1
 ·
  rw [if_pos c1]
  refine ⟨h.ge, h.top, fun e he => ⟨(hmem e).2 (Or.inl (h.cm e he).1), (h.cm e he).2⟩, h.cup, fun e he => ?_, hlast.symm⟩
  rw [h.know e he, hmem]
  constructor
  ·
   rintro (a | a)
   ·
    exact Or.inl a
   ·
    exact Or.inr (Or.inl a)
  ·
   rintro (a | a | rfl)
   ·
    exact Or.inl a
   ·
    exact Or.inr a
   ·
    rcases c1 with c | c
    ·
     rw [h.prev] at c
     exact Or.inr (List.mem_of_getLast? c)
    ·
     exact (h.know e he).1 (Or.inl c)
 ·
  rw [if_neg c1]
  have c1a : ¬ s.prev = some d := fun e => c1 (Or.inl e)
  have c1b : s.K d.1 < d.2 := by
   rcases Int.lt_or_le (s.K d.1) d.2 with a | a
   ·
    exact a
   ·
    exact absurd (Or.inr a) c1
  by_cases c2 : d.2 = s.K d.1 + 1
  ·
   rw [if_pos c2]
   refine ⟨fun n => ?_, fun n => ?_, fun e he => ?_, h.cup, fun e he => ?_, hlast.symm⟩
   ·
    have := h.ge n
    show K n ≤ if n = d.1 then s.K n + 1 else s.K n
    split <;> omega
   ·
    have := h.top n
    show 0 ≤ (if n = d.1 then s.K n + 1 else s.K n) ∧ (if n = d.1 then s.K n + 1 else s.K n) ≤ _
    split
    ·
     rename_i e; subst e; omega
    ·
     exact this
   ·
    obtain ⟨a, b⟩ := h.cm e he
    refine ⟨(hmem e).2 (Or.inl a), ?_⟩
    show (if e.1 = d.1 then s.K e.1 + 1 else s.K e.1) + 2 ≤ e.2
    split
    ·
     rename_i e1
     have h1 : dless d e = false := hud e a d (by simp)
     have h2 : ¬ (d.1 < e.1 ∨ d.1 = e.1 ∧ d.2 < e.2) := fun x => by rw [(dless_iff d e).2 x] at h1; cases h1
     rw [e1] at b
     omega
    ·
     exact b
   ·
    rw [hmem]
    have h1 := h.know e he
    show (e.2 ≤ (if e.1 = d.1 then s.K e.1 + 1 else s.K e.1) ∨ e ∈ s.cloud) ↔ _
    by_cases e1 : e.1 = d.1
    ·
     rw [if_pos e1]
     constructor
     ·
      rintro (a | a)
      ·
       rcases Int.lt_or_le (s.K e.1) e.2 with b | b
       ·
        right; right
        exact Prod.ext e1 (by rw [e1] at a b; omega)
       ·
        rcases h1.1 (Or.inl b) with x | x
        ·
         exact Or.inl x
        ·
         exact Or.inr (Or.inl x)
      ·
       rcases h1.1 (Or.inr a) with x | x
       ·
        exact Or.inl x
       ·
        exact Or.inr (Or.inl x)
     ·
      rintro (a | a | rfl)
      ·
       rcases h1.2 (Or.inl a) with x | x
       ·
        left; omega
       ·
        exact Or.inr x
      ·
       rcases h1.2 (Or.inr a) with x | x
       ·
        left; omega
       ·
        exact Or.inr x
      ·
       left; omega
    ·
     rw [if_neg e1, h1]
     constructor
     ·
      rintro (a | a)
      ·
       exact Or.inl a
      ·
       exact Or.inr (Or.inl a)
     ·
      rintro (a | a | rfl)
      ·
       exact Or.inl a
      ·
       exact Or.inr a
      ·
       exact absurd rfl e1
  ·
   rw [if_neg c2]
   refine ⟨h.ge, h.top, fun e he => ?_, ?_, fun e he => ?_, hlast.symm⟩
   ·
    rcases List.mem_append.1 he with a | a
    ·
     exact ⟨(hmem e).2 (Or.inl (h.cm e a).1), (h.cm e a).2⟩
    ·
     simp only [List.mem_cons, List.not_mem_nil, or_false] at a
     rw [a]
     exact ⟨(hmem d).2 (Or.inr rfl), show s.K d.1 + 2 ≤ d.2 by omega⟩
   ·
    refine List.pairwise_append.2 ⟨h.cup, List.pairwise_singleton _ _, fun e he x hx => ?_⟩
    simp only [List.mem_cons, List.not_mem_nil, or_false] at hx
    rw [hx]
    have hep := (h.cm e he).1
    have h1 : dless d e = false := hud e hep d (by simp)
    have hne : e ≠ d := fun e2 => c1a (by rw [h.prev]; exact last_is hu (by rw [← e2]; exact hep))
    exact (dless_total hne).resolve_right (by rw [h1]; exact Bool.false_ne_true)
   ·
    rw [hmem]
    have h1 := h.know e he
    show (e.2 ≤ s.K e.1 ∨ e ∈ s.cloud ++ [d]) ↔ _
    rw [List.mem_append]
    simp only [List.mem_cons, List.not_mem_nil, or_false]
    constructor
    ·
     rintro (a | a | a)
     ·
      rcases h1.1 (Or.inl a) with x | x
      ·
       exact Or.inl x
      ·
       exact Or.inr (Or.inl x)
     ·
      rcases h1.1 (Or.inr a) with x | x
      ·
       exact Or.inl x
      ·
       exact Or.inr (Or.inl x)
     ·
      exact Or.inr (Or.inr a)
    ·
     rintro (a | a | a)
     ·
      rcases h1.2 (Or.inl a) with x | x
      ·
       exact Or.inl x
      ·
       exact Or.inr (Or.inl x)
     ·
      rcases h1.2 (Or.inr a) with x | x
      ·
       exact Or.inl x
      ·
       exact Or.inr (Or.inl x)
     ·
      exact Or.inr (Or.inr a)
theorem inv_fold {K : Int → Int} : ∀ (r p : List Dot) (s : St), Inv K p s → Up (p ++ r) → (∀ d ∈ r, valid d = true) → Inv K (p ++ r) (r.foldl step s) := by
 intro r
 induction r with
 | nil => intro p s h _ _; simpa using h
 | cons d r ih =>
  intro p s h hu hv
  have e : p ++ d :: r = (p ++ [d]) ++ r := by simp
  rw [e] at hu ⊢
  rw [List.foldl_cons]
  exact ih _ _ (inv_step h (List.pairwise_append.1 hu).1 (hv d List.mem_cons_self)) hu (fun x hx => hv x (List.mem_cons_of_mem _ hx))
theorem inv_run {K : Int → Int} (hK : ∀ n, 0 ≤ K n ∧ K n ≤ 1099511627776) {l : List Dot} (hu : Up l) (hv : ∀ d ∈ l, valid d = true) : Inv K l (run K l) := by
 have h0 : Inv K [] ⟨K, [], none⟩ := ⟨fun _ => Int.le_refl _, hK, (fun d h => by cases h), List.Pairwise.nil, (fun d _ => by simp), rfl⟩
 have := inv_fold l [] _ h0 hu hv
 exact this
theorem layV_mem (K : Int → Int) (d : Dot) : d ∈ layV K ↔ 0 ≤ d.1 ∧ d.1 < 16 ∧ d.2 = K d.1 ∧ 0 < K d.1 := by
 unfold layV
 rw [List.mem_filterMap]
 constructor
 ·
  rintro ⟨i, hi, h⟩
  have hi2 := List.mem_range.1 hi
  split at h
  ·
   rename_i hp
   obtain rfl := Option.some.inj h
   exact ⟨by simp only; omega, by simp only; omega, rfl, hp⟩
  ·
   cases h
 ·
  rintro ⟨h0, h1, h2, h3⟩
  have e : ((d.1.toNat : Nat) : Int) = d.1 := Int.toNat_of_nonneg h0
  refine ⟨d.1.toNat, List.mem_range.2 (by omega), ?_⟩
  rw [e, if_pos h3]
  exact congrArg some (Prod.ext rfl h2.symm)
theorem layV_up (K : Int → Int) : (layV K).Pairwise fun a b => a.1 < b.1 := by
 unfold layV
 refine List.Pairwise.filterMap _ (fun a b hab x hx y hy => ?_) (List.pairwise_lt_range (n := 16))
 split at hx
 ·
  split at hy
  ·
   obtain rfl := Option.some.inj hx
   obtain rfl := Option.some.inj hy
   simp only; omega
  ·
   cases hy
 ·
  cases hx
theorem kn_layV {K : Int → Int} (hK : ∀ n, 0 ≤ K n) {n : Int} (h0 : 0 ≤ n) (h1 : n < 16) : kn (layV K) n = K n := by
 rcases kn_cases (layV K) n with ⟨e, hno⟩ | hm
 ·
  have := hK n
  rcases Int.lt_or_le 0 (K n) with h | h
  ·
   exact absurd rfl (hno (n, K n) ((layV_mem K (n, K n)).2 ⟨h0, h1, rfl, h⟩))
  ·
   omega
 ·
  exact ((layV_mem K _).1 hm).2.2.1
theorem lay_right {K : Int → Int} (hK : ∀ n, 0 ≤ K n ∧ K n ≤ 1099511627776) {l : List Dot} (hu : Up l) (hv : ∀ d ∈ l, valid d = true) :
  Right (layF K l) ∧ ∀ d, Knows (layF K l) d ↔ valid d = true ∧ (d.2 ≤ K d.1 ∨ d ∈ l) := by
 have h := inv_run hK hu hv
 have hkn : ∀ d : Dot, valid d = true → kn (layV (run K l).K) d.1 = (run K l).K d.1 := fun d hd => by
  have := (valid_iff d).1 hd
  exact kn_layV (fun n => (h.top n).1) this.1 this.2.1
 refine ⟨⟨fun d hd => ?_, layV_up _, fun d hd => ?_, h.cup⟩, fun d => ?_⟩
 ·
  obtain ⟨a, b, c, e⟩ := (layV_mem _ d).1 hd
  have := (h.top d.1).2
  exact (valid_iff d).2 ⟨a, b, by omega, by omega⟩
 ·
  obtain ⟨a, b⟩ := h.cm d hd
  exact ⟨hv d a, by rw [show kn (layF K l).1 d.1 = _ from hkn d (hv d a)]; exact b⟩
 ·
  constructor
  ·
   rintro ⟨a, b⟩
   rw [show kn (layF K l).1 d.1 = _ from hkn d a] at b
   exact ⟨a, (h.know d a).1 b⟩
  ·
   rintro ⟨a, b⟩
   exact ⟨a, by rw [show kn (layF K l).1 d.1 = _ from hkn d a]; exact (h.know d a).2 b⟩
end Go.Proofs.YtonknpdalemjkaaGreat.dm
namespace Go.Proofs.YtonknpdalemjkaaGreat
open Go.RowKit Go.WideShapes Go.ChangeShapes cl
abbrev Lab := ByteArray × ByteArray
def lcells (l : List Lab) : List Value := l.flatMap fun x => [.string x.1, .string x.2]
theorem lcells_get : ∀ (l : List Lab) (j : Nat) (h : j < l.length), (lcells l)[j * 2]? = some (.string l[j].1) ∧ (lcells l)[j * 2 + 1]? = some (.string l[j].2) := by
 intro l
 induction l with
 | nil => intro j h; simp at h
 | cons x l ih =>
  intro j h
  have e : lcells (x :: l) = .string x.1 :: .string x.2 :: lcells l := rfl
  rw [e]
  cases j with
  | zero => exact ⟨rfl, rfl⟩
  | succ j =>
   have := ih j (by simpa using h)
   rw [Nat.succ_mul]
   simpa using this
abbrev Labs (w : World) (B : Nat) (v : Value) (l : List Lab) : Prop := Cells w B v l.length 2 (lcells l)
theorem Labs.get {w : World} {B n c : Nat} {ao : Option Addr} {l : List Lab} (h : Labs w B (.slice ao n c) l) (hn : n = l.length) {j : Nat} (hj : j < n) : ∃ b off, ao = some ⟨b, off, none⟩ ∧ b < B ∧
  w.cell? ⟨b, off + j * 2, none⟩ = some (.string (l.getD j (.empty, .empty)).1) ∧ w.cell? ⟨b, off + j * 2 + 1, none⟩ = some (.string (l.getD j (.empty, .empty)).2) := by
 subst hn
 obtain ⟨_, ao', c', e, _, _, h4⟩ := h
 simp only [Value.slice.injEq] at e
 obtain ⟨rfl, _, rfl⟩ := e
 obtain ⟨b, off, rfl, hB, hc⟩ := h4 (by omega)
 obtain ⟨g0, g1⟩ := lcells_get l j hj
 have e : l.getD j (.empty, .empty) = l[j] := by simp [List.getD, hj]
 rw [e]
 exact ⟨b, off, rfl, hB, hc _ _ g0, hc _ _ g1⟩
end Go.Proofs.YtonknpdalemjkaaGreat
