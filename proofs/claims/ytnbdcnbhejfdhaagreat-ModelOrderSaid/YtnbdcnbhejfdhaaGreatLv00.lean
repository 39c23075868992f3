/- texts put together: Kit, Cells, Dots, DotMath, DotCmp, Shelf. -/
import Derived.BigQuiet
import Derived.ChangeArms
import Derived.Deep.DeepFit
import Derived.Deep.LoopGhost
import Derived.Deep.QuietTactic
import Derived.Deep.SlicePairs
import Derived.Ground.Names2Prog
import Derived.IntWalk
import Derived.Laws.AppendOwnNone
import Derived.Laws.CopyOwn
import Derived.Lib.Hide
import Derived.Outline
import Derived.Shelf.GgSortFunc.InsertionK
import Derived.Shelf.LaysM
import Derived.Shelf.SlSortCmp.HeapSort1
import Derived.Shelf.SlSortCmp.Insertion
import Derived.Shelf.SlSortCmp.Insertion1
import Derived.Shelf.SlSortCmp.Median1
import Derived.Shelf.SlSortCmp.Pivot1
import Derived.Shelf.SlSortCmp.ReverseRange1
import Derived.Shelf.SlSortCmp.SiftDown1
import Derived.Shelf.SlSortCmp.WholeK
import Derived.Shelf.Slices.Cells
import Derived.Shelf.Slices.Clone
import Derived.Shelf.Slices.CompactS
import Derived.Shelf.Slices.SearchI
import Derived.Shelf.Slices.Turned
import Derived.Shelf.Small.Bits
import Derived.Shelf.Small.Strs
import Derived.Shelf.Small.Wraps
import Derived.Shelf.Strconv.Itoa0
import Derived.Shelf.Strings.Cut
import Derived.Shelf.Strings.Prefix
import Derived.Shelf.Strings.Search1
import Derived.Shelf.Strings.Search2
import Derived.Shelf.Strings.Shaped
import Derived.Sort.Grow
import Derived.StillTailTactics
import Derived.Test.YtnbdcnbhejfdhaaGreatProg
import Derived.Test.YtnbdcnbhejfdhaaGreatRows
import Derived.WalkKit
import Derived.WalkLawsBesides
import Derived.WalkSmall
import Derived.WalkSpells
import Derived.WideShapes
namespace Go.Proofs.YtnbdcnbhejfdhaaGreat.kit
open Go.RowKit
theorem app1 {P : Program} {w : World} {ops : Array Oper} {rest : List Oper} {o : Oper} {a : Act} {Q : Exit → Act → World → Prop} {cs : Array Value} {e' : TypeId}
  (s x : Operand) (t : TypeId) (hgd : o.guard = none)
  (ho : o.op = .call { callee := .builtin .append, args := #[s, x], argTypes := #[t, t] })
  (base : Nat) {e : TypeId} {z : Value} {size bytes : Nat} (ht : P.underlying t = some (.slice e)) (hi : (P.info? e).map (fun i => (i.zero, i.size, i.bytes)) = some (some z, size, bytes))
  (hzs : z.cells.size = size) (hsz : 0 < size) (hb1 : 0 < bytes)
  {v : Value} {n : Nat} {xs : List Value} {c : Nat} (hown : w.ownsRow base e size v n xs) (hs : a.eval s = v) (hx : a.eval x = .slice (some ⟨w.heap.size, 0, none⟩) 1 c)
  (hcs : cs.size = size) (h1 : ∀ u ∈ cs.toList, u.oneCell' = true) (hbytes : (n + 1) * bytes ≤ 140737488355328) (hbase : base ≤ w.heap.size)
  (h : ∀ v' w', w'.ownsRow base e size v' (n + 1) (xs ++ cs.toList) → Below base w w' → wpList P ops Q rest (a.put o.dst v') w') :
  wpList P ops Q (o :: rest) a (w.alloc (.cells cs e')) := by
 obtain ⟨i, hi, hz, hsize, hby⟩ := info_parts hi
 have hle : n + 1 ≤ (n + 1) * bytes := Nat.le_mul_of_pos_right _ hb1
 refine wpList_append_own _ hgd s x t ho base e i z size bytes ht hi hz hsize hby hzs hsz v n xs hs (hown.alloc _) ⟨w.heap.size, 0, none⟩ 1 c cs.toList hx (by simp [hcs]) ?_ h1
  (by unfold maxLen; omega) hbytes (by simp; omega) fun v' w' r1 r2 _ => h v' w' r1 ?_
 ·
  intro j u hj
  have hl : j < cs.size := by
   have := (List.getElem?_eq_some_iff.1 hj).1
   simpa using this
  rw [Array.getElem?_toList] at hj
  have ha : (⟨w.heap.size, 0, none⟩ : Addr).add j = ⟨w.heap.size, j, none⟩ := by rw [Addr.add_lit, Nat.zero_add]
  rw [ha, World.cell?_alloc_at _ _ _ _ rfl]
  exact hj
 ·
  refine ((Below.refl base w).alloc hbase _).grown r2 (by simp; omega) ?_
  intro k hk
  exact (hown.lt k hk).1
def str (l : List Nat) : ByteArray := ⟨(l.map UInt8.ofNat).toArray⟩
theorem str_size (l : List Nat) : (str l).size = l.length := by simp [str, ByteArray.size]
def bytes (s : ByteArray) : List Nat := s.data.toList.map UInt8.toNat
theorem bytes_len (s : ByteArray) : (bytes s).length = s.size := by simp only [bytes, List.length_map, Array.length_toList]; rfl
theorem bytes_lt (s : ByteArray) : ∀ x ∈ bytes s, x < 256 := by
 intro x hx
 obtain ⟨y, _, rfl⟩ := List.mem_map.1 hx
 exact y.toNat_lt
theorem bytes_get (s : ByteArray) (k : Nat) (h : k < s.size) : (bytes s)[k]? = some s[k].toNat := by
 have h2 : k < s.data.size := h
 simp only [bytes, List.getElem?_map, Array.getElem?_toList, Option.map_eq_some_iff]
 exact ⟨s[k], Array.getElem?_eq_getElem h2, rfl⟩
theorem bytes_drop (s : ByteArray) (k : Nat) (h : k < s.size) : (bytes s).drop k = s[k].toNat :: (bytes s).drop (k + 1) := by
 have h2 : k < (bytes s).length := by rw [bytes_len]; exact h
 rw [List.drop_eq_getElem_cons h2]
 congr 1
 have := bytes_get s k h
 rw [List.getElem?_eq_getElem h2] at this
 exact Option.some.inj this
theorem str_bytes (s : ByteArray) : str (bytes s) = s := by
 have : (fun x : UInt8 => UInt8.ofNat x.toNat) = id := funext fun x => by simp
 simp only [str, bytes, List.map_map, Function.comp_def]
 rw [this]; simp
theorem bytes_str (l : List Nat) (h : ∀ x ∈ l, x < 256) : bytes (str l) = l := by
 simp only [str, bytes, List.map_map]
 conv => rhs; rw [← List.map_id l]
 exact List.map_congr_left fun x hx => by simpa using Nat.mod_eq_of_lt (h x hx)
theorem bytes_inj {s t : ByteArray} (h : bytes s = bytes t) : s = t := by rw [← str_bytes s, h, str_bytes]
theorem ne_empty {s : ByteArray} (h : 0 < s.size) : s.toList.isEmpty = false ∧ ¬ s.toList = [] ∧ ¬ s = ByteArray.empty := by
 have hl : s.data.toList.length = s.size := by rw [Array.length_toList]; rfl
 have hne : s.data.toList ≠ [] := fun e => by rw [e] at hl; simp at hl; omega
 refine ⟨?_, by rw [ByteArray.toList_eq]; exact hne, fun e => by subst e; simp at h⟩
 rw [ByteArray.toList_eq]
 cases hd : s.data.toList with
 | nil => exact absurd hd hne
 | cons x r => rfl
def u8s (l : List Nat) : List Value := l.map fun x : Nat => .int .u8 (x : Int)
theorem u8s_len (l : List Nat) : (u8s l).length = l.length := by simp [u8s]
theorem u8s_app (l r : List Nat) : u8s (l ++ r) = u8s l ++ u8s r := by simp [u8s]
theorem foldl_push (l : List Int) (s : ByteArray) : (l.foldl (fun r n => r.push (UInt8.ofNat n.toNat)) s) = ⟨s.data ++ (l.map fun n => UInt8.ofNat n.toNat).toArray⟩ := by
 induction l generalizing s with
 | nil => simp
 | cons x l ih => simp only [List.foldl_cons, ih, List.map_cons]; congr 1; simp [ByteArray.push]
theorem foldl_str (l : List Nat) : ((l.map (fun n : Nat => (n : Int))).foldl (fun r n => r.push (UInt8.ofNat n.toNat)) ByteArray.empty) = str l := by
 rw [foldl_push]; simp [str, ByteArray.empty, ByteArray.emptyWithCapacity, Function.comp_def]; rfl
theorem run_string {P : Program} {w : World} {base : Nat} {v : Value} {l : List Nat} {src dst e : TypeId}
  (hs : P.underlying src = some (.slice e)) (he : P.underlying e = some (.int .u8)) (hd : P.underlying dst = some .string)
  (hown : w.ownsRow base e 1 v l.length (u8s l)) :
  (convert src dst v).run P w = .ok (.string (str l)) w := by
 rcases hown.2 with ⟨rfl, hx⟩ | ⟨g, cap, cur, rfl, hbg, hg, hnc, hcm, hcs, htake⟩
 ·
  obtain rfl : l = [] := List.eq_nil_of_length_eq_zero hx
  rw [run_convert_bytes_string w src dst e _ _ _ hs he hd]
  rfl
 ·
  rw [run_convert_bytes_string w src dst e _ _ _ hs he hd, ← foldl_str]
  refine run_bytesToString w _ _ _ _ ?_
  have h := run_loadCells_list (P := P) (w := w) ⟨g, 0, none⟩ (u8s l) (fun j u hj => hown.cells (g := g) rfl j u hj)
  rw [u8s_len] at h
  rw [h]
  simp [u8s]
theorem str_app (a b : List Nat) : str (a ++ b) = str a ++ str b := by
 apply ByteArray.ext
 simp [str]
end Go.Proofs.YtnbdcnbhejfdhaaGreat.kit
namespace Go.Proofs.YtnbdcnbhejfdhaaGreat.cl
open Go.RowKit
def Cells (w : World) (B : Nat) (v : Value) (n k : Nat) (vs : List Value) : Prop :=
 vs.length = n * k ∧ ∃ (ao : Option Addr) (cap : Nat), v = .slice ao n cap ∧ ((ao = none → cap = 0) ∧ n ≤ cap) ∧ n ≤ maxLen ∧
  (0 < n → ∃ b off, ao = some ⟨b, off, none⟩ ∧ b < B ∧ ∀ j u, vs[j]? = some u → w.cell? ⟨b, off + j, none⟩ = some u)
theorem Cells.below {w w' : World} {B : Nat} {v : Value} {n k : Nat} {vs : List Value} (h : Cells w B v n k vs) (hb : Below B w w') : Cells w' B v n k vs := by
 obtain ⟨h0, ao, cap, rfl, h1, h3, h2⟩ := h
 refine ⟨h0, ao, cap, rfl, h1, h3, fun hp => ?_⟩
 obtain ⟨b, off, e, hB, hc⟩ := h2 hp
 exact ⟨b, off, e, hB, fun j u hj => by rw [hb.cell (p := ⟨b, off + j, none⟩) hB]; exact hc j u hj⟩
theorem Cells.mono {w : World} {B B' : Nat} {v : Value} {n k : Nat} {vs : List Value} (h : Cells w B v n k vs) (hb : B ≤ B') : Cells w B' v n k vs := by
 obtain ⟨h0, ao, cap, rfl, h1, h3, h2⟩ := h
 refine ⟨h0, ao, cap, rfl, h1, h3, fun hp => ?_⟩
 obtain ⟨b, off, e, hB, hc⟩ := h2 hp
 exact ⟨b, off, e, by omega, hc⟩
theorem Cells.next {W W' : World} {v : Value} {n k : Nat} {vs : List Value} (h : Cells W W.heap.size v n k vs) (hb : Below W.heap.size W W') : Cells W' W'.heap.size v n k vs := (h.below hb).mono hb.size
theorem Cells.form {w : World} {B : Nat} {v : Value} {n k : Nat} {vs : List Value} (h : Cells w B v n k vs) : ∃ ao cap, v = .slice ao n cap ∧ n ≤ cap ∧ n ≤ maxLen := by
 obtain ⟨_, ao, cap, rfl, h1, h3, _⟩ := h
 exact ⟨ao, cap, rfl, h1.2, h3⟩
theorem Cells.nil (w : World) (B k : Nat) : Cells w B (.slice none 0 0) 0 k [] := ⟨by simp, none, 0, rfl, ⟨fun _ => rfl, Nat.le_refl _⟩, by simp, fun h => absurd h (by simp)⟩
theorem Cells.zero {w : World} {B k cap : Nat} {ao : Option Addr} (h : ao = none → cap = 0) : Cells w B (.slice ao 0 cap) 0 k [] := ⟨by simp, ao, cap, rfl, ⟨h, Nat.zero_le _⟩, by simp, fun h => absurd h (by simp)⟩
theorem Cells.own {w : World} {base : Nat} {e : TypeId} {v : Value} {n k : Nat} {vs : List Value} (h : w.ownsRow base e k v n vs) : Cells w w.heap.size v n k vs := by
 have hlt := h.lt
 have hl := h.1
 rcases h.2 with ⟨rfl, rfl⟩ | ⟨g, cap, cur, rfl, hbg, hg, hnc, hcm, hcs, htake⟩
 ·
  obtain rfl : vs = [] := List.eq_nil_of_length_eq_zero (by simpa using hl)
  exact Cells.nil w _ _
 ·
  refine ⟨hl, _, _, rfl, ⟨(fun e => by cases e), hnc⟩, Nat.le_trans hnc hcm, fun _ => ⟨g, 0, rfl, (hlt g rfl).2, fun j u hj => ?_⟩⟩
  have := h.cells (g := g) rfl j u hj
  rwa [Addr.add_lit] at this
theorem Cells.at {w : World} {B b off n cap k : Nat} {vs : List Value} (h : Cells w B (.slice (some ⟨b, off, none⟩) n cap) n k vs) (hn : 0 < n) : b < B ∧ ∀ j u, vs[j]? = some u → w.cell? ⟨b, off + j, none⟩ = some u := by
 obtain ⟨h0, ao', c, e, ⟨h1, h2⟩, h3, h4⟩ := h
 simp only [Value.slice.injEq] at e
 obtain ⟨rfl, _, rfl⟩ := e
 obtain ⟨b', o', e2, h5, hc⟩ := h4 hn
 simp only [Option.some.injEq, Addr.mk.injEq] at e2
 obtain ⟨rfl, rfl, _⟩ := e2
 exact ⟨h5, hc⟩
theorem Cells.cut {w : World} {B b off n cap k i m : Nat} {vs : List Value} (h : Cells w B (.slice (some ⟨b, off, none⟩) n cap) n k vs) (hm : i + m ≤ n) :
  Cells w B (.slice (some ⟨b, off + i * k, none⟩) m (cap - i)) m k ((vs.drop (i * k)).take (m * k)) := by
 have hf := h.form
 obtain ⟨_, _, e, hc, hx⟩ := hf
 simp only [Value.slice.injEq] at e
 obtain ⟨_, _, rfl⟩ := e
 have h0 := h.1
 have hmul : i * k + m * k ≤ n * k := by rw [← Nat.add_mul]; exact Nat.mul_le_mul_right _ hm
 refine ⟨by rw [List.length_take, List.length_drop]; omega, _, _, rfl, ⟨(fun e => by cases e), by omega⟩, by omega, fun hp => ?_⟩
 obtain ⟨hB, hcell⟩ := h.at (by omega)
 refine ⟨_, _, rfl, hB, fun j u hj => ?_⟩
 rw [Nat.add_assoc]
 refine hcell _ u ?_
 rw [List.getElem?_take] at hj
 split at hj
 ·
  rwa [List.getElem?_drop] at hj
 ·
  cases hj
def strs (l : List ByteArray) : List Value := l.map Value.string
theorem strs_len (l : List ByteArray) : (strs l).length = l.length := by simp [strs]
theorem strs_take (a : List ByteArray) (n : Nat) : (strs a).take n = strs (a.take n) := by simp [strs]
theorem strs_drop (a : List ByteArray) (n : Nat) : (strs a).drop n = strs (a.drop n) := by simp [strs]
theorem strs_get {l : List ByteArray} {j : Nat} (hj : j < l.length) : (strs l)[j]? = some (.string (l.getD j .empty)) := by simp [strs, List.getD, hj]
abbrev Strs (w : World) (B : Nat) (v : Value) (l : List ByteArray) : Prop := Cells w B v l.length 1 (strs l)
theorem Strs.cell {w : World} {B b off n cap : Nat} {l : List ByteArray} (h : Strs w B (.slice (some ⟨b, off, none⟩) n cap) l) (hn : n = l.length) {j : Nat} (hj : j < n) : b < B ∧ w.cell? ⟨b, off + j, none⟩ = some (.string (l.getD j .empty)) := by
 subst hn
 obtain ⟨hB, hc⟩ := h.at (by omega)
 exact ⟨hB, hc j _ (strs_get hj)⟩
theorem Cells.drop {w : World} {B n cap k i : Nat} {ao : Option Addr} {vs : List Value} (h : Cells w B (.slice ao n cap) n k vs) (hi : i ≤ n) :
  Cells w B (.slice (Option.map (fun x => x.add (i * k)) ao) (n - i) (cap - i)) (n - i) k (vs.drop (i * k)) := by
 obtain ⟨h0, ao', c, e, ⟨h1, h2⟩, h3, h4⟩ := h
 simp only [Value.slice.injEq] at e
 obtain ⟨rfl, _, rfl⟩ := e
 refine ⟨by rw [List.length_drop, h0, Nat.sub_mul], _, _, rfl, ⟨fun e => ?_, by omega⟩, by omega, fun hp => ?_⟩
 ·
  cases ao with
  | none => have := h1 rfl; omega
  | some a => cases e
 ·
  obtain ⟨b, off, rfl, hB, hc⟩ := h4 (by omega)
  refine ⟨b, off + i * k, ?_, hB, fun j u hj => ?_⟩
  ·
   simp only [Option.map_some, Addr.add_lit]
  ·
   rw [List.getElem?_drop] at hj
   rw [Nat.add_assoc]; exact hc _ u hj
theorem Strs.drop {w : World} {B n cap i : Nat} {ao : Option Addr} {l : List ByteArray} (h : Strs w B (.slice ao n cap) l) (hn : n = l.length) (hi : i ≤ n) :
  Strs w B (.slice (Option.map (fun x => x.add i) ao) (n - i) (cap - i)) (l.drop i) := by
 subst hn
 have := Cells.drop h hi
 rw [Nat.mul_one, strs_drop] at this
 unfold Strs
 rw [List.length_drop]
 exact this
theorem Strs.form' {w : World} {B n : Nat} {v : Value} {l : List ByteArray} (h : Strs w B v l) (hn : n = l.length) : ∃ ao cap, v = .slice ao n cap ∧ n ≤ cap := by
 subst hn
 obtain ⟨ao, cap, rfl, h1, _⟩ := h.form
 exact ⟨ao, cap, rfl, h1⟩
theorem Strs.take {w : World} {B n cap m : Nat} {ao : Option Addr} {l : List ByteArray} (h : Strs w B (.slice ao n cap) l) (hn : n = l.length) (hm : m ≤ n) :
  Strs w B (.slice ao m cap) (l.take m) := by
 subst hn
 obtain ⟨h0, ao', c, e, ⟨h1, h2⟩, h3, h4⟩ := h
 simp only [Value.slice.injEq] at e
 obtain ⟨rfl, _, rfl⟩ := e
 have hl : (l.take m).length = m := by rw [List.length_take]; omega
 refine ⟨by rw [strs_len, Nat.mul_one], _, _, by rw [hl], ⟨h1, by omega⟩, by omega, fun hp => ?_⟩
 obtain ⟨b, off, rfl, hB, hc⟩ := h4 (by omega)
 refine ⟨b, off, rfl, hB, fun j u hj => hc j u ?_⟩
 rw [← strs_take, List.getElem?_take] at hj
 split at hj
 ·
  exact hj
 ·
  cases hj
end Go.Proofs.YtnbdcnbhejfdhaaGreat.cl
namespace Go.Proofs.YtnbdcnbhejfdhaaGreat
open Go.RowKit Go.ChangeShapes Go.WideShapes cl
abbrev Dot := Int × Int
theorem below_drewND {B : Nat} {w w' : World} (h : Below B w w') (n : Nat) : Below B w (w'.drewN n) := by
 induction n with
 | zero => exact h
 | succ n ih => exact ih.drew
def dcells (l : List (Int × Int)) : List Value := l.flatMap fun x => [.int .i64 x.1, .int .i64 x.2]
abbrev Dots (w : World) (B : Nat) (v : Value) (l : List (Int × Int)) : Prop := Cells w B v l.length 2 (dcells l)
def valid (d : Dot) : Bool := decide (0 ≤ d.1 ∧ d.1 < 16 ∧ 1 ≤ d.2 ∧ d.2 ≤ 1099511627776)
def dless (x y : Dot) : Bool := decide (x.1 < y.1 ∨ x.1 = y.1 ∧ x.2 < y.2)
end Go.Proofs.YtnbdcnbhejfdhaaGreat
namespace Go.Proofs.YtnbdcnbhejfdhaaGreat.dm
theorem valid_iff (d : Dot) : valid d = true ↔ 0 ≤ d.1 ∧ d.1 < 16 ∧ 1 ≤ d.2 ∧ d.2 ≤ 1099511627776 := decide_eq_true_iff
theorem dless_iff (x y : Dot) : dless x y = true ↔ x.1 < y.1 ∨ x.1 = y.1 ∧ x.2 < y.2 := decide_eq_true_iff
theorem dless_irrefl (x : Dot) : ¬ dless x x = true := by rw [dless_iff]; omega
theorem dless_asymm {x y : Dot} (h1 : dless x y = true) (h2 : dless y x = true) : False := by rw [dless_iff] at *; omega
theorem sorted_ext {α : Type} {R : α → α → Prop} (irr : ∀ x, ¬ R x x) (asy : ∀ x y, R x y → R y x → False) : ∀ {a b : List α}, a.Pairwise R → b.Pairwise R → (∀ x, x ∈ a ↔ x ∈ b) → a = b := by
 intro a
 induction a with
 | nil =>
  intro b _ _ h
  cases b with
  | nil => rfl
  | cons y s => exact absurd ((h y).2 List.mem_cons_self) (by simp)
 | cons x r ih =>
  intro b ha hb h
  cases b with
  | nil => exact absurd ((h x).1 List.mem_cons_self) (by simp)
  | cons y s =>
   obtain ⟨ha1, ha2⟩ := List.pairwise_cons.1 ha
   obtain ⟨hb1, hb2⟩ := List.pairwise_cons.1 hb
   have hxy : x = y := by
    rcases List.mem_cons.1 ((h x).1 List.mem_cons_self) with e | e
    ·
     exact e
    ·
     rcases List.mem_cons.1 ((h y).2 List.mem_cons_self) with e' | e'
     ·
      exact e'.symm
     ·
      exact (asy _ _ (ha1 y e') (hb1 x e)).elim
   subst hxy
   rw [ih ha2 hb2 fun z => ?_]
   constructor
   ·
    intro hz
    rcases List.mem_cons.1 ((h z).1 (List.mem_cons_of_mem _ hz)) with e | e
    ·
     subst e; exact absurd (ha1 _ hz) (irr _)
    ·
     exact e
   ·
    intro hz
    rcases List.mem_cons.1 ((h z).2 (List.mem_cons_of_mem _ hz)) with e | e
    ·
     subst e; exact absurd (hb1 _ hz) (irr _)
    ·
     exact e
abbrev Ctx := List Dot × List Dot
def kn : List Dot → Int → Int
 | [], _ => 0
 | d :: r, n => if d.1 = n then d.2 else kn r n
def Knows (c : Ctx) (d : Dot) : Prop := valid d = true ∧ (d.2 ≤ kn c.1 d.1 ∨ d ∈ c.2)
structure Right (c : Ctx) : Prop where
 vok : ∀ d ∈ c.1, valid d = true
 vup : c.1.Pairwise fun a b => a.1 < b.1
 cok : ∀ d ∈ c.2, valid d = true ∧ kn c.1 d.1 + 2 ≤ d.2
 cup : c.2.Pairwise fun a b => dless a b = true
theorem kn_cases : ∀ (v : List Dot) (n : Int), kn v n = 0 ∧ (∀ d ∈ v, d.1 ≠ n) ∨ (n, kn v n) ∈ v := by
 intro v n
 induction v with
 | nil => exact Or.inl ⟨rfl, fun d h => by cases h⟩
 | cons d r ih =>
  unfold kn
  by_cases h : d.1 = n
  ·
   rw [if_pos h]
   right
   rw [← h]; exact List.mem_cons_self
  ·
   rw [if_neg h]
   rcases ih with ⟨h1, h2⟩ | h1
   ·
    exact Or.inl ⟨h1, fun e he => by
     rcases List.mem_cons.1 he with rfl | he
     ·
      exact h
     ·
      exact h2 e he⟩
   ·
    exact Or.inr (List.mem_cons_of_mem _ h1)
theorem kn_mem : ∀ {v : List Dot}, v.Pairwise (fun a b => a.1 < b.1) → ∀ {d : Dot}, d ∈ v → kn v d.1 = d.2 := by
 intro v
 induction v with
 | nil => intro _ d h; cases h
 | cons e r ih =>
  intro hp d hd
  obtain ⟨h1, h2⟩ := List.pairwise_cons.1 hp
  unfold kn
  rcases List.mem_cons.1 hd with rfl | hd
  ·
   rw [if_pos rfl]
  ·
   have := h1 d hd
   rw [if_neg (by omega)]
   exact ih h2 hd
theorem Right.kn0 {c : Ctx} (h : Right c) (n : Int) : 0 ≤ kn c.1 n ∧ kn c.1 n ≤ 1099511627776 := by
 rcases kn_cases c.1 n with ⟨h1, _⟩ | h1
 ·
  omega
 ·
  have := (valid_iff _).1 (h.vok _ h1)
  simp only at this; omega
theorem kn_le {a b : Ctx} (ha : Right a) (hb : Right b) (h : ∀ d, Knows b d → Knows a d) (n : Int) : kn b.1 n ≤ kn a.1 n := by
 rcases Int.lt_or_le (kn a.1 n) (kn b.1 n) with hlt | hle
 ·
  exfalso
  have h0 := ha.kn0 n
  have h1 := hb.kn0 n
  rcases kn_cases b.1 n with ⟨e, _⟩ | hm
  ·
   omega
  ·
   have hv := (valid_iff _).1 (hb.vok _ hm)
   simp only at hv
   have hk : Knows b (n, kn a.1 n + 1) := ⟨(valid_iff _).2 ⟨hv.1, hv.2.1, by simp only; omega, by simp only; omega⟩, Or.inl (by simp only; omega)⟩
   rcases (h _ hk).2 with e | e
   ·
    simp only at e; omega
   ·
    have := (ha.cok _ e).2
    simp only at this; omega
 ·
  exact hle
theorem ext {a b : Ctx} (ha : Right a) (hb : Right b) (h : ∀ d, Knows a d ↔ Knows b d) : a = b := by
 have hk : ∀ n, kn a.1 n = kn b.1 n := fun n => by
  have h1 := kn_le ha hb (fun d => (h d).2) n
  have h2 := kn_le hb ha (fun d => (h d).1) n
  omega
 have side : ∀ {p q : Ctx}, Right p → Right q → (∀ n, kn p.1 n = kn q.1 n) → ∀ d ∈ p.1, d ∈ q.1 := fun {p q} hp hq hk d hd => by
  have h1 := kn_mem hp.vup hd
  have h2 := (valid_iff _).1 (hp.vok _ hd)
  rcases kn_cases q.1 d.1 with ⟨e, _⟩ | hm
  ·
   rw [← hk, h1] at e; omega
  ·
   rw [← hk, h1] at hm; exact hm
 have cl : ∀ {p q : Ctx}, Right p → Right q → (∀ n, kn p.1 n = kn q.1 n) → (∀ d, Knows p d → Knows q d) → ∀ d ∈ p.2, d ∈ q.2 := fun {p q} hp hq hk hh d hd => by
  have h1 := hp.cok d hd
  rcases (hh d ⟨h1.1, Or.inr hd⟩).2 with e | e
  ·
   rw [← hk] at e; omega
  ·
   exact e
 refine Prod.ext (sorted_ext (fun x => by omega) (fun x y => by omega) ha.vup hb.vup fun d => ⟨side ha hb hk d, side hb ha (fun n => (hk n).symm) d⟩) (sorted_ext dless_irrefl (fun _ _ => dless_asymm) ha.cup hb.cup fun d => ⟨cl ha hb hk (fun d => (h d).1) d, cl hb ha (fun n => (hk n).symm) (fun d => (h d).2) d⟩)
structure St where
 K : Int → Int
 cloud : List Dot
 prev : Option Dot
def step (s : St) (d : Dot) : St :=
 if s.prev = some d ∨ d.2 ≤ s.K d.1 then ⟨s.K, s.cloud, some d⟩
 else if d.2 = s.K d.1 + 1 then ⟨fun n => if n = d.1 then s.K n + 1 else s.K n, s.cloud, some d⟩
 else ⟨s.K, s.cloud ++ [d], some d⟩
def run (K : Int → Int) (l : List Dot) : St := l.foldl step ⟨K, [], none⟩
end Go.Proofs.YtnbdcnbhejfdhaaGreat.dm
namespace Go.Proofs.YtnbdcnbhejfdhaaGreat
open Go.RowKit Go.ChangeShapes cl Go.Sort
def cf (x y : Dot) : Int := if Lib.compareInt x.1 y.1 = 0 then Lib.compareInt x.2 y.2 else Lib.compareInt x.1 y.1
theorem cmp_zero (a b : Int) : Lib.compareInt a b = 0 ↔ a = b := by
 unfold Lib.compareInt
 by_cases h1 : a < b
 ·
  simp [h1]; omega
 ·
  by_cases h2 : b < a
  ·
   simp [h1, h2]; omega
  ·
   simp [h1, h2]; omega
theorem cmp_neg (a b : Int) : Lib.compareInt a b < 0 ↔ a < b := by
 unfold Lib.compareInt
 by_cases h1 : a < b
 ·
  simp [h1]
 ·
  by_cases h2 : b < a <;> simp [h1, h2]
theorem cf_neg (x y : Dot) : cf x y < 0 ↔ dless x y = true := by
 rw [dm.dless_iff]
 unfold cf
 by_cases h : x.1 = y.1
 ·
  rw [if_pos ((cmp_zero _ _).2 h), cmp_neg]; omega
 ·
  rw [if_neg (fun e => h ((cmp_zero _ _).1 e)), cmp_neg]; omega
def CC : Prop := ∀ (x y : Int) (w : World), Calls Tryz.prog 62 #[.int .i64 x, .int .i64 y] w fun e w' => e = .returned (.int .i64 (Lib.compareInt x y)) ∧ w' = w
set_option maxHeartbeats 800000 in
set_option maxRecDepth 100000 in
theorem or_two (x y : Int) (g : Nat) (w : World) (h0 : w.cell? ⟨g, 0, none⟩ = some (.int .i64 x)) (h1 : w.cell? ⟨g, 1, none⟩ = some (.int .i64 y)) :
  Calls Tryz.prog 61 #[.slice (some ⟨g, 0, none⟩) 2 2] w fun e w' => e = .returned (.int .i64 (if x = 0 then y else x)) ∧ w' = w := by
 obtain ⟨R, hR⟩ : ∃ R, R = if x = 0 then y else x := ⟨_, rfl⟩
 rw [← hR]
 have HR := Lib.hid hR
 clear hR
 go_enter Tryz.func61, Tryz.ntmps61
 go_wp2
 go_loop [5, 8] (fun _ i => ∃ k : Nat, i = .int .i64 k ∧ k ≤ 2 ∧ Hid (0 < k → x = 0) ∧ Hid (1 < k → y = 0)) (fun _ i => 2 - (intOf i).toNat)
 case atStart => exact ⟨0, rfl, by omega, fun h => absurd h (by omega), fun h => absurd h (by omega)⟩
 case round =>
  obtain ⟨k, rfl, hk, HX, HY⟩ := hrel
  rcases (by omega : k = 0 ∨ k = 1 ∨ k = 2) with rfl | rfl | rfl
  ·
   by_cases hx : x = 0
   ·
    have hxb : (x == 0) = true := by simpa using hx
    have hxc : (x != 0) = false := by simpa using hx
    have HX1 : Hid (x = 0) := hx
    subst hx
    go_wp2
    go_round
    case rel => exact ⟨1, by go_num, by omega, (by first | exact True.intro | exact fun _ => by first | rfl | exact True.intro), (by first | exact True.intro | exact fun h => absurd h (by omega))⟩
    case measure => simp [intOf]
   ·
    have hxb : (x == 0) = false := by simpa using hx
    have hxc : (x != 0) = true := by simpa using hx
    have HE : Hid (R = x) := by show _ = _; rw [HR.out, if_neg hx]
    clear hx
    go_wp2
    go_ret
    rw [HE.out]; exact ⟨rfl, rfl⟩
  ·
   have hx0 := HX.out (by omega)
   by_cases hy : y = 0
   ·
    subst hy
    go_wp2
    go_round
    case rel => exact ⟨2, by go_num, by omega, (by first | exact True.intro | exact fun _ => hx0), (by first | exact True.intro | exact fun _ => by first | rfl | exact True.intro)⟩
    case measure => simp [intOf]
   ·
    have hyb : (y == 0) = false := by simpa using hy
    have hyc : (y != 0) = true := by simpa using hy
    have HE : Hid (R = y) := by show _ = _; rw [HR.out, if_pos hx0]
    clear hy hx0
    go_wp2
    go_ret
    rw [HE.out]; exact ⟨rfl, rfl⟩
  ·
   have HE : Hid (R = 0) := by show _ = _; rw [HR.out, if_pos (HX.out (by omega)), HY.out (by omega)]
   go_wp2
   go_ret
   rw [HE.out]; exact ⟨rfl, rfl⟩
theorem grow3 (W : World) (A B C : Obj) : (((W.alloc A).alloc B).alloc C).drew = grow (W.drewN 1) (#[A] ++ (#[B] ++ #[C])) := by
 rw [alloc_eq_grow, alloc_eq_grow, alloc_eq_grow, grow_grow, grow_grow, drew_grow]
 rfl
theorem box1 (W : World) (x y : Value) (t : TypeId) (B : Obj) (_u : Unit) (k : Nat) (u : Value) (hk : (#[x, y] : Array Value)[k]? = some u) : ((W.alloc (.cells #[x, y] t)).alloc B).drew.cell? ⟨W.heap.size, k, none⟩ = some u := by
 show ((W.alloc (.cells #[x, y] t)).alloc B).cell? _ = _
 rw [World.cell?_alloc_lt _ _ _ (show W.heap.size < (W.alloc (.cells #[x, y] t)).heap.size by simp), World.cell?_alloc_at _ _ _ _ rfl]
 exact hk
theorem box1b (W : World) (A : Obj) (x y : Value) (t : TypeId) (k : Nat) (u : Value) (hk : (#[x, y] : Array Value)[k]? = some u) : ((W.alloc A).alloc (.cells #[x, y] t)).drew.cell? ⟨W.heap.size + 1, k, none⟩ = some u := by
 have e : (W.alloc A).heap.size = W.heap.size + 1 := World.size_alloc _ _
 show ((W.alloc A).alloc (.cells #[x, y] t)).cell? _ = _
 rw [← e, World.cell?_alloc_at _ _ _ _ rfl]
 exact hk
set_option maxHeartbeats 1600000 in
set_option maxRecDepth 100000 in
theorem compare_any (hcc : CC) (x y : Dot) (W : World) : Calls Tryz.prog 41 #[.agg #[.int .i64 x.1, .int .i64 x.2], .agg #[.int .i64 y.1, .int .i64 y.2]] W fun e w' => e = .returned (.int .i64 (cf x y)) ∧ ∃ q os', w' = grow (W.drewN q) os' := by
 obtain ⟨a, b⟩ := x
 obtain ⟨c, d⟩ := y
 obtain ⟨p, hp⟩ : ∃ p, p = Lib.compareInt a c := ⟨_, rfl⟩
 obtain ⟨q, hq⟩ : ∃ q, q = Lib.compareInt b d := ⟨_, rfl⟩
 have HP : Hid (∀ W, Calls Tryz.prog 62 #[.int .i64 a, .int .i64 c] W fun e w' => e = .returned (.int .i64 p) ∧ w' = W) := fun W => by rw [hp]; exact hcc a c W
 have HQ : Hid (∀ W, Calls Tryz.prog 62 #[.int .i64 b, .int .i64 d] W fun e w' => e = .returned (.int .i64 q) ∧ w' = W) := fun W => by rw [hq]; exact hcc b d W
 have HC : Hid (cf (a, b) (c, d) = if p = 0 then q else p) := by show cf _ _ = _; unfold cf; rw [← hp, ← hq]
 obtain ⟨R, hR⟩ : ∃ R, R = cf (a, b) (c, d) := ⟨_, rfl⟩
 rw [← hR] at HC ⊢
 clear hp hq hR hcc
 go_enter Tryz.func41, Tryz.ntmps41
 go_wp2
 have x0 : ((W.alloc (.cells #[.int .i64 a, .int .i64 b] 37)).alloc (.cells #[.int .i64 c, .int .i64 d] 37)).drew.cell? ⟨W.heap.size, 0, none⟩ = some (.int .i64 a) := box1 W _ _ _ _ () 0 _ rfl
 have x1 : ((W.alloc (.cells #[.int .i64 a, .int .i64 b] 37)).alloc (.cells #[.int .i64 c, .int .i64 d] 37)).drew.cell? ⟨W.heap.size, 1, none⟩ = some (.int .i64 b) := box1 W _ _ _ _ () 1 _ rfl
 have x2 : ((W.alloc (.cells #[.int .i64 a, .int .i64 b] 37)).alloc (.cells #[.int .i64 c, .int .i64 d] 37)).drew.cell? ⟨W.heap.size + 1, 0, none⟩ = some (.int .i64 c) := box1b W _ _ _ _ 0 _ rfl
 have x3 : ((W.alloc (.cells #[.int .i64 a, .int .i64 b] 37)).alloc (.cells #[.int .i64 c, .int .i64 d] 37)).drew.cell? ⟨W.heap.size + 1, 1, none⟩ = some (.int .i64 d) := box1b W _ _ _ _ 1 _ rfl
 have HG := Lib.hid (fun C => grow3 W (.cells #[.int .i64 a, .int .i64 b] 37) (.cells #[.int .i64 c, .int .i64 d] 37) C)
 refine wp_region_still_tail 10 (by kernel_rfl) (by kernel_rfl) ?_
 change wpStill _ _ ((W.alloc (.cells #[.int .i64 a, .int .i64 b] 37)).alloc (.cells #[.int .i64 c, .int .i64 d] 37)).drew (fun a' => wpList _ _ _ _ a' ((W.alloc (.cells #[.int .i64 a, .int .i64 b] 37)).alloc (.cells #[.int .i64 c, .int .i64 d] 37)).drew) _ _
 have HG2 : Hid (∀ C, (((W.alloc (.cells #[.int .i64 a, .int .i64 b] 37)).alloc (.cells #[.int .i64 c, .int .i64 d] 37)).drew).alloc C = grow (W.drewN 1) (#[(.cells #[.int .i64 a, .int .i64 b] 37)] ++ (#[(.cells #[.int .i64 c, .int .i64 d] 37)] ++ #[C]))) := fun C => HG.out C
 generalize ((W.alloc (.cells #[.int .i64 a, .int .i64 b] 37)).alloc (.cells #[.int .i64 c, .int .i64 d] 37)).drew = X1 at x0 x1 x2 x3 HG2 ⊢
 clear HG
 simp only [List.take_succ_cons, List.take_zero, List.drop_succ_cons, List.drop_zero]
 still_step
 still_step
 still_step
 still_step
 still_call (HP.out _)
 still_step
 still_step
 still_step
 still_step
 still_call (HQ.out _)
 refine wpStill_nil ?_
 have HO := Lib.hid (or_two p q X1.heap.size (X1.alloc (.cells #[.int .i64 p, .int .i64 q] 3)) (World.cell?_alloc_at _ _ _ _ rfl) (World.cell?_alloc_at _ _ _ _ rfl))
 rw [← HC.out] at HO
 go_wp2_with (go_at_call 61; (with_reducible refine HO.out.mono ?_); rintro e w' ⟨rfl, rfl⟩)
 go_ret
 exact ⟨rfl, 1, _, HG2.out _⟩
end Go.Proofs.YtnbdcnbhejfdhaaGreat
namespace Go.Proofs
open Go.Shelf
def Tryz.lays125_ren : Go.Shelf.Ren := ⟨fun | 125 => 52 | 128 => 86 | 129 => 87 | n => n, fun | 46 => 100 | 3 => 3 | 51 => 115 | 53 => 46 | 4 => 4 | 5 => 5 | 9 => 9 | n => n, fun | n => n⟩
theorem Tryz.lays125 : Go.Proofs.Lays.n125 Tryz.prog Tryz.lays125_ren := {
 mixed := by kernel_rfl
 f125 := Tryz.func52.trans (congrArg some (by kernel_rfl))
 f128 := Tryz.func86.trans (congrArg some (by kernel_rfl))
 f129 := Tryz.func87.trans (congrArg some (by kernel_rfl))
 t3 := Tryz.underlying3
 a3 := Tryz.isAgg3
 z3 := Tryz.sizeOf3
 v3 := Tryz.zeroValue3
 t4 := Tryz.underlying4
 a4 := Tryz.isAgg4
 z4 := Tryz.sizeOf4
 v4 := Tryz.zeroValue4
 t5 := Tryz.underlying5
 a5 := Tryz.isAgg5
 z5 := Tryz.sizeOf5
 v5 := Tryz.zeroValue5
 t9 := Tryz.underlying9
 a9 := Tryz.isAgg9
 z9 := Tryz.sizeOf9
 v9 := Tryz.zeroValue9
 t46 := Tryz.underlying100
 a46 := Tryz.isAgg100
 z46 := Tryz.sizeOf100
 v46 := Tryz.zeroValue100
 t51 := Tryz.underlying115
 a51 := Tryz.isAgg115
 z51 := Tryz.sizeOf115
 v51 := Tryz.zeroValue115
 t53 := Tryz.underlying46
 a53 := Tryz.isAgg46
 z53 := Tryz.sizeOf46
 v53 := Tryz.zeroValue46 }
theorem Tryz.bits_Len (x : Int) (w : World) (h0 : 0 ≤ x) (h1 : x ≤ 18446744073709551615) :
  Calls Tryz.prog 52 #[.int .u64 x] w fun e w' => e = .returned (.int .i64 (Lib.bitLen x.toNat)) ∧ w' = w := Any.bits_Len Tryz.lays125 x w h0 h1
def Tryz.lays106_ren : Go.Shelf.Ren := ⟨fun | 106 => 34 | 213 => 54 | 265 => 96 | n => n, fun | 9 => 9 | 3 => 3 | n => n, fun | n => n⟩
theorem Tryz.lays106 : Go.Proofs.Lays.n106 Tryz.prog Tryz.lays106_ren := {
 mixed := by kernel_rfl
 f106 := Tryz.func34.trans (congrArg some (by kernel_rfl))
 f213 := Tryz.func54.trans (congrArg some (by kernel_rfl))
 f265 := Tryz.func96.trans (congrArg some (by kernel_rfl))
 t3 := Tryz.underlying3
 a3 := Tryz.isAgg3
 z3 := Tryz.sizeOf3
 v3 := Tryz.zeroValue3
 t9 := Tryz.underlying9
 a9 := Tryz.isAgg9
 z9 := Tryz.sizeOf9
 v9 := Tryz.zeroValue9 }
open Go.RowKit in
theorem Tryz.strings_Compare (a b : ByteArray) (w : World) :
  Calls Tryz.prog 34 #[.string a, .string b] w fun e w' => e = .returned (.int .i64 (Lib.compareBytes a.data.toList b.data.toList)) ∧ w' = w := Any.strings_Compare Tryz.lays106 a b w
def Tryz.lays122_ren : Go.Shelf.Ren := ⟨fun | 122 => 62 | 215 => 101 | n => n, fun | 3 => 3 | 4 => 4 | n => n, fun | n => n⟩
theorem Tryz.lays122 : Go.Proofs.Lays.n122 Tryz.prog Tryz.lays122_ren := {
 mixed := by kernel_rfl
 f122 := Tryz.func62.trans (congrArg some (by kernel_rfl))
 f215 := Tryz.func101.trans (congrArg some (by kernel_rfl))
 t3 := Tryz.underlying3
 a3 := Tryz.isAgg3
 z3 := Tryz.sizeOf3
 v3 := Tryz.zeroValue3
 t4 := Tryz.underlying4
 a4 := Tryz.isAgg4
 z4 := Tryz.sizeOf4
 v4 := Tryz.zeroValue4 }
open Go.RowKit in
theorem Tryz.cmp_Compare_int (x y : Int) (w : World) :
  Calls Tryz.prog 62 #[.int .i64 x, .int .i64 y] w fun e w' => e = .returned (.int .i64 (Lib.compareInt x y)) ∧ w' = w := Any.cmp_Compare_int Tryz.lays122 x y w
def Tryz.lays145_ren : Go.Shelf.Ren := ⟨fun | 145 => 63 | 220 => 102 | 219 => 130 | 217 => 150 | 225 => 151 | 224 => 152 | 267 => 153 | 266 => 187 | 314 => 188 | n => n, fun | 9 => 9 | 4 => 4 | 59 => 105 | 3 => 3 | 5 => 5 | 46 => 100 | 146 => 223 | 51 => 115 | n => n, fun | 1 => 0 | n => n⟩
theorem Tryz.lays145 : Go.Proofs.Lays.n145 Tryz.prog Tryz.lays145_ren := {
 mixed := by kernel_rfl
 f145 := Tryz.func63.trans (congrArg some (by kernel_rfl))
 f217 := Tryz.func150.trans (congrArg some (by kernel_rfl))
 f219 := Tryz.func130.trans (congrArg some (by kernel_rfl))
 f220 := Tryz.func102.trans (congrArg some (by kernel_rfl))
 f224 := Tryz.func152.trans (congrArg some (by kernel_rfl))
 f225 := Tryz.func151.trans (congrArg some (by kernel_rfl))
 f266 := Tryz.func187.trans (congrArg some (by kernel_rfl))
 f267 := Tryz.func153.trans (congrArg some (by kernel_rfl))
 f314 := Tryz.func188.trans (congrArg some (by kernel_rfl))
 t3 := Tryz.underlying3
 a3 := Tryz.isAgg3
 z3 := Tryz.sizeOf3
 v3 := Tryz.zeroValue3
 t4 := Tryz.underlying4
 a4 := Tryz.isAgg4
 z4 := Tryz.sizeOf4
 v4 := Tryz.zeroValue4
 t5 := Tryz.underlying5
 a5 := Tryz.isAgg5
 z5 := Tryz.sizeOf5
 v5 := Tryz.zeroValue5
 t9 := Tryz.underlying9
 a9 := Tryz.isAgg9
 z9 := Tryz.sizeOf9
 v9 := Tryz.zeroValue9
 t46 := Tryz.underlying100
 a46 := Tryz.isAgg100
 z46 := Tryz.sizeOf100
 v46 := Tryz.zeroValue100
 t51 := Tryz.underlying115
 a51 := Tryz.isAgg115
 z51 := Tryz.sizeOf115
 v51 := Tryz.zeroValue115
 t59 := Tryz.underlying105
 a59 := Tryz.isAgg105
 z59 := Tryz.sizeOf105
 v59 := Tryz.zeroValue105
 t146 := Tryz.underlying223
 a146 := Tryz.isAgg223
 z146 := Tryz.sizeOf223
 v146 := Tryz.zeroValue223
 g1 := by kernel_rfl }
open Go.RowKit Go.Lib in
theorem Tryz.strings_Cut (s sep : ByteArray) (m : Int) (w : World) (hs : s.size < 4294967281) (hm : w.cell? ⟨0, 0, none⟩ = some (.int .i64 m)) :
  Calls Tryz.prog 63 #[.string s, .string sep] w fun e w' => e = .returned (.tuple #[.string ⟨(Lib.cut s.data.toList sep.data.toList).1.toArray⟩, .string ⟨(Lib.cut s.data.toList sep.data.toList).2.1.toArray⟩, .bool (Lib.cut s.data.toList sep.data.toList).2.2]) ∧ ∃ n, w' = w.drewN n := Any.strings_Cut Tryz.lays145 s sep m w hs hm
def Tryz.lays101_ren : Go.Shelf.Ren := ⟨fun | 101 => 64 | 208 => 103 | 206 => 131 | n => n, fun | 9 => 9 | 4 => 4 | 3 => 3 | n => n, fun | n => n⟩
theorem Tryz.lays101 : Go.Proofs.Lays.n101 Tryz.prog Tryz.lays101_ren := {
 mixed := by kernel_rfl
 f101 := Tryz.func64.trans (congrArg some (by kernel_rfl))
 f206 := Tryz.func131.trans (congrArg some (by kernel_rfl))
 f208 := Tryz.func103.trans (congrArg some (by kernel_rfl))
 t3 := Tryz.underlying3
 a3 := Tryz.isAgg3
 z3 := Tryz.sizeOf3
 v3 := Tryz.zeroValue3
 t4 := Tryz.underlying4
 a4 := Tryz.isAgg4
 z4 := Tryz.sizeOf4
 v4 := Tryz.zeroValue4
 t9 := Tryz.underlying9
 a9 := Tryz.isAgg9
 z9 := Tryz.sizeOf9
 v9 := Tryz.zeroValue9 }
open Go.RowKit Go.Lib in
theorem Tryz.strings_TrimPrefix (s p : ByteArray) (w : World) :
  Calls Tryz.prog 64 #[.string s, .string p] w fun e w' => e = .returned (.string ⟨(Lib.trimPrefix s.data.toList p.data.toList).toArray⟩) ∧ w' = w := Any.strings_TrimPrefix Tryz.lays101 s p w
def Tryz.laysNm216_ren : Go.Shelf.Ren := ⟨fun | 16 => 56 | n => n, fun | 24 => 31 | 9 => 9 | 4 => 4 | n => n, fun | n => n⟩
theorem Tryz.laysNm216 : Go.Proofs.Lays2.n16 Tryz.prog Tryz.laysNm216_ren := {
 mixed := by kernel_rfl
 f16 := Tryz.func56.trans (congrArg some (by kernel_rfl))
 t4 := Tryz.underlying4
 a4 := Tryz.isAgg4
 z4 := Tryz.sizeOf4
 v4 := Tryz.zeroValue4
 t9 := Tryz.underlying9
 a9 := Tryz.isAgg9
 z9 := Tryz.sizeOf9
 v9 := Tryz.zeroValue9
 t24 := Tryz.underlying31
 a24 := Tryz.isAgg31
 z24 := Tryz.sizeOf31
 v24 := Tryz.zeroValue31
 i9 := by kernel_rfl }
open Go.RowKit Go.Lib in
theorem Tryz.slices_Clone_string (b off n c : Nat) (zs : List ByteArray) (w : World) (hz : n ≤ zs.length) (hbig : n * 16 ≤ 140737488355328) (hc : ∀ j, j < zs.length → w.cell? ⟨b, off + j, none⟩ = some (.string (zs.getD j ByteArray.empty))) :
  Calls Tryz.prog 56 #[.slice (some ⟨b, off, none⟩) n c] w fun e w' => ∃ v', e = .returned v' ∧ w'.ownsRow w.heap.size 9 1 v' n ((zs.take n).map (Value.string)) ∧ v' ≠ .slice none 0 0 ∧ Below w.heap.size w w' := Any.slices_Clone_string Tryz.laysNm216 b off n c zs w hz hbig hc
def Tryz.lays194_ren : Go.Shelf.Ren := ⟨fun | 194 => 35 | n => n, fun | 31 => 31 | 9 => 9 | 3 => 3 | 4 => 4 | 0 => 0 | n => n, fun | n => n⟩
theorem Tryz.lays194 : Go.Proofs.Lays.n194 Tryz.prog Tryz.lays194_ren := {
 mixed := by kernel_rfl
 f194 := Tryz.func35.trans (congrArg some (by kernel_rfl))
 t0 := Tryz.underlying0
 a0 := Tryz.isAgg0
 z0 := Tryz.sizeOf0
 v0 := Tryz.zeroValue0
 t3 := Tryz.underlying3
 a3 := Tryz.isAgg3
 z3 := Tryz.sizeOf3
 v3 := Tryz.zeroValue3
 t4 := Tryz.underlying4
 a4 := Tryz.isAgg4
 z4 := Tryz.sizeOf4
 v4 := Tryz.zeroValue4
 t9 := Tryz.underlying9
 a9 := Tryz.isAgg9
 z9 := Tryz.sizeOf9
 v9 := Tryz.zeroValue9
 t31 := Tryz.underlying31
 a31 := Tryz.isAgg31
 z31 := Tryz.sizeOf31
 v31 := Tryz.zeroValue31 }
open Go.RowKit Go.Lib Go.Sort in
theorem Tryz.slices_Compact_string (blk off cap : Nat) (zs : List (List UInt8)) (w : World) (hH : Holds encStr w blk off zs.toArray) (hsz : zs.length ≤ 9223372036854775807) (hcap : zs.length ≤ cap) :
  Calls Tryz.prog 35 #[.slice (some ⟨blk, off, none⟩) zs.length cap] w fun e w' => e = .returned (.slice (some ⟨blk, off, none⟩) (Lib.compact zs).length cap) ∧ ∃ q, w' = putRow encStr (Sort.ahead w q) blk off (Lib.compact zs ++ List.replicate (zs.length - (Lib.compact zs).length) []).toArray := Any.slices_Compact_string Tryz.lays194 blk off cap zs w hH hsz hcap
def Tryz.sortLive_ren : Go.Shelf.Ren := ⟨fun | 6 => 29 | 15 => 52 | 14 => 51 | 28 => 86 | 29 => 87 | 20 => 78 | 21 => 79 | 22 => 80 | 23 => 81 | 24 => 82 | 25 => 83 | 26 => 84 | 27 => 85 | 46 => 117 | 47 => 118 | 48 => 119 | 49 => 120 | 50 => 121 | 57 => 140 | n => n, fun | 22 => 27 | 24 => 43 | 25 => 71 | 3 => 3 | 39 => 100 | 0 => 0 | 53 => 115 | 55 => 46 | 4 => 4 | 46 => 142 | 45 => 141 | 50 => 69 | 5 => 5 | 9 => 9 | 66 => 167 | 70 => 171 | 76 => 185 | 77 => 96 | n => n, fun | n => n⟩
theorem Tryz.sortLive : Go.Proofs.SlLaysF0.n6 Tryz.prog Tryz.sortLive_ren := {
 mixed := by kernel_rfl
 f6 := ⟨Tryz.f29.name, by decide, Tryz.func29.trans (congrArg some (by kernel_rfl))⟩
 f14 := ⟨Tryz.f51.name, by decide, Tryz.func51.trans (congrArg some (by kernel_rfl))⟩
 f15 := Tryz.func52.trans (congrArg some (by kernel_rfl))
 f20 := ⟨Tryz.f78.name, by decide, Tryz.func78.trans (congrArg some (by kernel_rfl))⟩
 f21 := ⟨Tryz.f79.name, by decide, Tryz.func79.trans (congrArg some (by kernel_rfl))⟩
 f22 := ⟨Tryz.f80.name, by decide, Tryz.func80.trans (congrArg some (by kernel_rfl))⟩
 f23 := ⟨Tryz.f81.name, by decide, Tryz.func81.trans (congrArg some (by kernel_rfl))⟩
 f24 := ⟨Tryz.f82.name, by decide, Tryz.func82.trans (congrArg some (by kernel_rfl))⟩
 f25 := ⟨Tryz.f83.name, by decide, Tryz.func83.trans (congrArg some (by kernel_rfl))⟩
 f26 := ⟨Tryz.f84.name, by decide, Tryz.func84.trans (congrArg some (by kernel_rfl))⟩
 f27 := ⟨Tryz.f85.name, by decide, Tryz.func85.trans (congrArg some (by kernel_rfl))⟩
 f28 := Tryz.func86.trans (congrArg some (by kernel_rfl))
 f29 := Tryz.func87.trans (congrArg some (by kernel_rfl))
 f46 := ⟨Tryz.f117.name, by decide, Tryz.func117.trans (congrArg some (by kernel_rfl))⟩
 f47 := Tryz.func118.trans (congrArg some (by kernel_rfl))
 f48 := Tryz.func119.trans (congrArg some (by kernel_rfl))
 f49 := ⟨Tryz.f120.name, by decide, Tryz.func120.trans (congrArg some (by kernel_rfl))⟩
 f50 := ⟨Tryz.f121.name, by decide, Tryz.func121.trans (congrArg some (by kernel_rfl))⟩
 f57 := ⟨Tryz.f140.name, by decide, Tryz.func140.trans (congrArg some (by kernel_rfl))⟩
 t0 := Tryz.underlying0
 a0 := Tryz.isAgg0
 z0 := Tryz.sizeOf0
 v0 := Tryz.zeroValue0
 t3 := Tryz.underlying3
 a3 := Tryz.isAgg3
 z3 := Tryz.sizeOf3
 v3 := Tryz.zeroValue3
 t4 := Tryz.underlying4
 a4 := Tryz.isAgg4
 z4 := Tryz.sizeOf4
 v4 := Tryz.zeroValue4
 t5 := Tryz.underlying5
 a5 := Tryz.isAgg5
 z5 := Tryz.sizeOf5
 v5 := Tryz.zeroValue5
 t9 := Tryz.underlying9
 a9 := Tryz.isAgg9
 z9 := Tryz.sizeOf9
 v9 := Tryz.zeroValue9
 t22 := Tryz.underlying27
 a22 := Tryz.isAgg27
 z22 := Tryz.sizeOf27
 v22 := Tryz.zeroValue27
 t25 := Tryz.underlying71
 a25 := Tryz.isAgg71
 z25 := Tryz.sizeOf71
 v25 := Tryz.zeroValue71
 t39 := Tryz.underlying100
 a39 := Tryz.isAgg100
 z39 := Tryz.sizeOf100
 v39 := Tryz.zeroValue100
 t45 := Tryz.underlying141
 a45 := Tryz.isAgg141
 z45 := Tryz.sizeOf141
 v45 := Tryz.zeroValue141
 t46 := Tryz.underlying142
 a46 := Tryz.isAgg142
 z46 := Tryz.sizeOf142
 v46 := Tryz.zeroValue142
 t50 := Tryz.underlying69
 a50 := Tryz.isAgg69
 z50 := Tryz.sizeOf69
 v50 := Tryz.zeroValue69
 t53 := Tryz.underlying115
 a53 := Tryz.isAgg115
 z53 := Tryz.sizeOf115
 v53 := Tryz.zeroValue115
 t55 := Tryz.underlying46
 a55 := Tryz.isAgg46
 z55 := Tryz.sizeOf46
 v55 := Tryz.zeroValue46
 t66 := Tryz.underlying167
 a66 := Tryz.isAgg167
 z66 := Tryz.sizeOf167
 v66 := Tryz.zeroValue167
 t70 := Tryz.underlying171
 a70 := Tryz.isAgg171
 z70 := Tryz.sizeOf171
 v70 := Tryz.zeroValue171
 t76 := Tryz.underlying185
 a76 := Tryz.isAgg185
 z76 := Tryz.sizeOf185
 v76 := Tryz.zeroValue185
 t77 := Tryz.underlying96
 a77 := Tryz.isAgg96
 z77 := Tryz.sizeOf96
 v77 := Tryz.zeroValue96 }
def Tryz.sortLab_ren : Go.Shelf.Ren := ⟨fun | 6 => 106 | 15 => 52 | 14 => 132 | 28 => 86 | 29 => 87 | 20 => 154 | 21 => 155 | 22 => 156 | 23 => 157 | 24 => 158 | 25 => 159 | 26 => 160 | 27 => 161 | 46 => 189 | 47 => 118 | 48 => 119 | 49 => 190 | 50 => 191 | 57 => 217 | n => n, fun | 22 => 48 | 24 => 82 | 25 => 157 | 3 => 3 | 39 => 100 | 0 => 0 | 53 => 115 | 55 => 46 | 4 => 4 | 46 => 142 | 45 => 141 | 50 => 69 | 5 => 5 | 9 => 9 | 66 => 167 | 70 => 171 | 76 => 185 | 77 => 96 | n => n, fun | n => n⟩
theorem Tryz.sortLab : Go.Proofs.SlLaysF0.n6 Tryz.prog Tryz.sortLab_ren := {
 mixed := by kernel_rfl
 f6 := ⟨Tryz.f106.name, by decide, Tryz.func106.trans (congrArg some (by kernel_rfl))⟩
 f14 := ⟨Tryz.f132.name, by decide, Tryz.func132.trans (congrArg some (by kernel_rfl))⟩
 f15 := Tryz.func52.trans (congrArg some (by kernel_rfl))
 f20 := ⟨Tryz.f154.name, by decide, Tryz.func154.trans (congrArg some (by kernel_rfl))⟩
 f21 := ⟨Tryz.f155.name, by decide, Tryz.func155.trans (congrArg some (by kernel_rfl))⟩
 f22 := ⟨Tryz.f156.name, by decide, Tryz.func156.trans (congrArg some (by kernel_rfl))⟩
 f23 := ⟨Tryz.f157.name, by decide, Tryz.func157.trans (congrArg some (by kernel_rfl))⟩
 f24 := ⟨Tryz.f158.name, by decide, Tryz.func158.trans (congrArg some (by kernel_rfl))⟩
 f25 := ⟨Tryz.f159.name, by decide, Tryz.func159.trans (congrArg some (by kernel_rfl))⟩
 f26 := ⟨Tryz.f160.name, by decide, Tryz.func160.trans (congrArg some (by kernel_rfl))⟩
 f27 := ⟨Tryz.f161.name, by decide, Tryz.func161.trans (congrArg some (by kernel_rfl))⟩
 f28 := Tryz.func86.trans (congrArg some (by kernel_rfl))
 f29 := Tryz.func87.trans (congrArg some (by kernel_rfl))
 f46 := ⟨Tryz.f189.name, by decide, Tryz.func189.trans (congrArg some (by kernel_rfl))⟩
 f47 := Tryz.func118.trans (congrArg some (by kernel_rfl))
 f48 := Tryz.func119.trans (congrArg some (by kernel_rfl))
 f49 := ⟨Tryz.f190.name, by decide, Tryz.func190.trans (congrArg some (by kernel_rfl))⟩
 f50 := ⟨Tryz.f191.name, by decide, Tryz.func191.trans (congrArg some (by kernel_rfl))⟩
 f57 := ⟨Tryz.f217.name, by decide, Tryz.func217.trans (congrArg some (by kernel_rfl))⟩
 t0 := Tryz.underlying0
 a0 := Tryz.isAgg0
 z0 := Tryz.sizeOf0
 v0 := Tryz.zeroValue0
 t3 := Tryz.underlying3
 a3 := Tryz.isAgg3
 z3 := Tryz.sizeOf3
 v3 := Tryz.zeroValue3
 t4 := Tryz.underlying4
 a4 := Tryz.isAgg4
 z4 := Tryz.sizeOf4
 v4 := Tryz.zeroValue4
 t5 := Tryz.underlying5
 a5 := Tryz.isAgg5
 z5 := Tryz.sizeOf5
 v5 := Tryz.zeroValue5
 t9 := Tryz.underlying9
 a9 := Tryz.isAgg9
 z9 := Tryz.sizeOf9
 v9 := Tryz.zeroValue9
 t22 := Tryz.underlying48
 a22 := Tryz.isAgg48
 z22 := Tryz.sizeOf48
 v22 := Tryz.zeroValue48
 t25 := Tryz.underlying157
 a25 := Tryz.isAgg157
 z25 := Tryz.sizeOf157
 v25 := Tryz.zeroValue157
 t39 := Tryz.underlying100
 a39 := Tryz.isAgg100
 z39 := Tryz.sizeOf100
 v39 := Tryz.zeroValue100
 t45 := Tryz.underlying141
 a45 := Tryz.isAgg141
 z45 := Tryz.sizeOf141
 v45 := Tryz.zeroValue141
 t46 := Tryz.underlying142
 a46 := Tryz.isAgg142
 z46 := Tryz.sizeOf142
 v46 := Tryz.zeroValue142
 t50 := Tryz.underlying69
 a50 := Tryz.isAgg69
 z50 := Tryz.sizeOf69
 v50 := Tryz.zeroValue69
 t53 := Tryz.underlying115
 a53 := Tryz.isAgg115
 z53 := Tryz.sizeOf115
 v53 := Tryz.zeroValue115
 t55 := Tryz.underlying46
 a55 := Tryz.isAgg46
 z55 := Tryz.sizeOf46
 v55 := Tryz.zeroValue46
 t66 := Tryz.underlying167
 a66 := Tryz.isAgg167
 z66 := Tryz.sizeOf167
 v66 := Tryz.zeroValue167
 t70 := Tryz.underlying171
 a70 := Tryz.isAgg171
 z70 := Tryz.sizeOf171
 v70 := Tryz.zeroValue171
 t76 := Tryz.underlying185
 a76 := Tryz.isAgg185
 z76 := Tryz.sizeOf185
 v76 := Tryz.zeroValue185
 t77 := Tryz.underlying96
 a77 := Tryz.isAgg96
 z77 := Tryz.sizeOf96
 v77 := Tryz.zeroValue96 }
end Go.Proofs
