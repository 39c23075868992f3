/- Laws of our own for walks: one more element behind a slice of the call's own; texts made of bytes; facts kept from the walk. Nothing of the program. -/
import Derived.WalkKit
import Derived.Laws.AppendOwnNone
import Derived.Laws.CopyOwn
import Derived.WalkSmall
import Derived.WalkLawsBesides
import Derived.WalkSpells
import Derived.IntWalk
import Derived.Lib.Hide
import Derived.Deep.QuietTactic
import Derived.BigQuiet
import Derived.Deep.DeepFit
import Derived.Deep.LoopGhost
import Derived.Outline
namespace Go.Proofs.Ytbccejlemhgioaa.kit
open Go.RowKit

/-- append of one element (its cells in a new block) behind a slice of the call's own -/
theorem app1 {P : Program} {w : World} {ops : Array Oper} {rest : List Oper} {o : Oper} {a : Act} {Q : Exit → Act → World → Prop} {cs : Array Value} {e' : TypeId}
    (s x : Operand) (t : TypeId) (hgd : o.guard = none)
    (ho : o.op = .call { callee := .builtin .append, args := #[s, x], argTypes := #[t, t] })
    (base : Nat) {e : TypeId} {z : Value} {size bytes : Nat} (ht : P.underlying t = some (.slice e)) (hi : (P.info? e).map (fun i => (i.zero, i.size, i.bytes)) = some (some z, size, bytes))
    (hzs : z.cells.size = size) (hsz : 0 < size) (hb1 : 0 < bytes)
    {v : Value} {n : Nat} {xs : List Value} {c : Nat} (hown : w.ownsRow base e size v n xs) (hs : a.eval s = v) (hx : a.eval x = .slice (some ⟨w.heap.size, 0, none⟩) 1 c)
    (hcs : cs.size = size) (h1 : ∀ u ∈ cs.toList, u.oneCell' = true) (hbytes : (n + 1) * bytes ≤ 140737488355328) (hbase : base ≤ w.heap.size)
    (h : ∀ v' w', w'.ownsRow base e size v' (n + 1) (xs ++ cs.toList) → Below base w w' → wpList P ops Q rest (a.put o.dst v') w') :
    wpList P ops Q (o :: rest) a (w.alloc (.cells cs e')) := by
  obtain ⟨i, hi, hz, hsize, hby⟩ := info_parts hi
  have hle : n + 1 ≤ (n + 1) * bytes := Nat.le_mul_of_pos_right _ hb1
  refine wpList_append_own _ hgd s x t ho base e i z size bytes ht hi hz hsize hby hzs hsz v n xs hs (hown.alloc _) ⟨w.heap.size, 0, none⟩ 1 c cs.toList hx (by simp [hcs]) ?_ h1
    (by unfold maxLen; omega) hbytes (by simp; omega) fun v' w' r1 r2 _ => h v' w' r1 ?_
  · intro j u hj
    have hl : j < cs.size := by
      have := (List.getElem?_eq_some_iff.1 hj).1
      simpa using this
    rw [Array.getElem?_toList] at hj
    have ha : (⟨w.heap.size, 0, none⟩ : Addr).add j = ⟨w.heap.size, j, none⟩ := by rw [Addr.add_lit, Nat.zero_add]
    rw [ha, World.cell?_alloc_at _ _ _ _ rfl]
    exact hj
  · refine ((Below.refl base w).alloc hbase _).grown r2 (by simp; omega) ?_
    intro k hk
    exact (hown.lt k hk).1

/-- append of the cells of another slice behind a slice of the call's own -/
theorem appN {P : Program} {w : World} {ops : Array Oper} {rest : List Oper} {o : Oper} {a : Act} {Q : Exit → Act → World → Prop}
    (s x : Operand) (t : TypeId) (hgd : o.guard = none)
    (ho : o.op = .call { callee := .builtin .append, args := #[s, x], argTypes := #[t, t] })
    (base : Nat) {e : TypeId} {z : Value} {size bytes : Nat} (ht : P.underlying t = some (.slice e)) (hi : (P.info? e).map (fun i => (i.zero, i.size, i.bytes)) = some (some z, size, bytes))
    (hzs : z.cells.size = size) (hsz : 0 < size) (hb1 : 0 < bytes)
    {v : Value} {n : Nat} {xs : List Value} (hown : w.ownsRow base e size v n xs) (hs : a.eval s = v)
    {ao : Option Addr} {m c : Nat} (news : List Value) (hx : a.eval x = .slice ao m c) (hl : news.length = m * size) (hnone : ao = none → m = 0 ∧ c = 0)
    (hnews : ∀ ad, ao = some ad → ∀ j u, news[j]? = some u → w.cell? (ad.add j) = some u) (h1 : ∀ u ∈ news, u.oneCell' = true)
    (hbytes : (n + m) * bytes ≤ 140737488355328) (hbase : base ≤ w.heap.size)
    (h : ∀ v' w', w'.ownsRow base e size v' (n + m) (xs ++ news) → Below base w w' → wpList P ops Q rest (a.put o.dst v') w') :
    wpList P ops Q (o :: rest) a w := by
  obtain ⟨i, hi, hz, hsize, hby⟩ := info_parts hi
  have hle : n + m ≤ (n + m) * bytes := Nat.le_mul_of_pos_right _ hb1
  cases ao with
  | none =>
    obtain ⟨rfl, rfl⟩ := hnone rfl
    obtain rfl : news = [] := List.eq_nil_of_length_eq_zero (by simpa using hl)
    refine wpList_append_own_none hgd s x t ho base e i size ht hi v n xs hs hown hx ?_
    have := h v w (by simpa using hown) (Below.refl _ _)
    exact this
  | some ad =>
    refine wpList_append_own _ hgd s x t ho base e i z size bytes ht hi hz hsize hby hzs hsz v n xs hs hown ad m c news hx hl (hnews ad rfl) h1
      (by unfold maxLen; omega) hbytes hbase fun v' w' r1 r2 _ => h v' w' r1 ?_
    refine (Below.refl base w).grown r2 hbase ?_
    intro k hk
    exact (hown.lt k hk).1

/-- the bytes of a text as numbers, and back -/
def str (l : List Nat) : ByteArray := ⟨(l.map UInt8.ofNat).toArray⟩
theorem str_size (l : List Nat) : (str l).size = l.length := by simp [str, ByteArray.size]
/-- a text's bytes as numbers -/
def bytes (s : ByteArray) : List Nat := s.data.toList.map UInt8.toNat
theorem bytes_len (s : ByteArray) : (bytes s).length = s.size := by simp only [bytes, List.length_map, Array.length_toList]; rfl
theorem bytes_lt (s : ByteArray) : ∀ x ∈ bytes s, x < 256 := by
  intro x hx
  obtain ⟨y, _, rfl⟩ := List.mem_map.1 hx
  exact y.toNat_lt
theorem bytes_get (s : ByteArray) (k : Nat) (h : k < s.size) : (bytes s)[k]? = some s[k].toNat := by
  have h2 : k < s.data.size := h
  simp only [bytes, List.getElem?_map, Array.getElem?_toList, Option.map_eq_some_iff]
  exact ⟨s[k], Array.getElem?_eq_getElem h2, rfl⟩
theorem bytes_drop (s : ByteArray) (k : Nat) (h : k < s.size) : (bytes s).drop k = s[k].toNat :: (bytes s).drop (k + 1) := by
  have h2 : k < (bytes s).length := by rw [bytes_len]; exact h
  rw [List.drop_eq_getElem_cons h2]
  congr 1
  have := bytes_get s k h
  rw [List.getElem?_eq_getElem h2] at this
  exact Option.some.inj this
theorem str_bytes (s : ByteArray) : str (bytes s) = s := by
  have : (fun x : UInt8 => UInt8.ofNat x.toNat) = id := funext fun x => by simp
  simp only [str, bytes, List.map_map, Function.comp_def]
  rw [this]; simp
theorem bytes_str (l : List Nat) (h : ∀ x ∈ l, x < 256) : bytes (str l) = l := by
  simp only [str, bytes, List.map_map]
  conv => rhs; rw [← List.map_id l]
  exact List.map_congr_left fun x hx => by simpa using Nat.mod_eq_of_lt (h x hx)
theorem bytes_app (s t : ByteArray) : bytes (s ++ t) = bytes s ++ bytes t := by
  simp only [bytes, ByteArray.data_append, Array.toList_append, List.map_append]
theorem bytes_inj {s t : ByteArray} (h : bytes s = bytes t) : s = t := by rw [← str_bytes s, h, str_bytes]
theorem wrap_byte (x : UInt8) : wrap64 (x.toNat : Int) = (x.toNat : Int) := IntWalk.wrap64_in _ ⟨by omega, by have := x.toNat_lt; omega⟩
theorem ne_empty {s : ByteArray} (h : 0 < s.size) : s.toList.isEmpty = false ∧ ¬ s.toList = [] ∧ ¬ s = ByteArray.empty := by
  have hl : s.data.toList.length = s.size := by rw [Array.length_toList]; rfl
  have hne : s.data.toList ≠ [] := fun e => by rw [e] at hl; simp at hl; omega
  refine ⟨?_, by rw [ByteArray.toList_eq]; exact hne, fun e => by subst e; simp at h⟩
  rw [ByteArray.toList_eq]
  cases hd : s.data.toList with
  | nil => exact absurd hd hne
  | cons x r => rfl
/-- int(uint64(x) % uint64(m)) -/
theorem umod (x : Int) {m : Nat} (hm : 0 < m) : ∃ j : Nat, j < m ∧ (IntKind.u64.wrap x).tmod (m : Int) = (j : Int) := by
  have h0 : 0 ≤ IntKind.u64.wrap x := by
    simp only [IntKind.wrap, IntKind.signed, IntKind.bits]
    exact Int.emod_nonneg _ (by decide)
  have h1 : 0 ≤ (IntKind.u64.wrap x).tmod (m : Int) := Int.tmod_nonneg _ h0
  have h2 : (IntKind.u64.wrap x).tmod (m : Int) < m := Int.tmod_lt_of_pos _ (by omega)
  exact ⟨((IntKind.u64.wrap x).tmod (m : Int)).toNat, by omega, by omega⟩
def u8s (l : List Nat) : List Value := l.map fun x : Nat => .int .u8 (x : Int)
theorem u8s_len (l : List Nat) : (u8s l).length = l.length := by simp [u8s]
theorem u8s_app (l r : List Nat) : u8s (l ++ r) = u8s l ++ u8s r := by simp [u8s]
theorem foldl_push (l : List Int) (s : ByteArray) : (l.foldl (fun r n => r.push (UInt8.ofNat n.toNat)) s) = ⟨s.data ++ (l.map fun n => UInt8.ofNat n.toNat).toArray⟩ := by
  induction l generalizing s with
  | nil => simp
  | cons x l ih => simp only [List.foldl_cons, ih, List.map_cons]; congr 1; simp [ByteArray.push]
theorem foldl_str (l : List Nat) : ((l.map (fun n : Nat => (n : Int))).foldl (fun r n => r.push (UInt8.ofNat n.toNat)) ByteArray.empty) = str l := by
  rw [foldl_push]; simp [str, ByteArray.empty, ByteArray.emptyWithCapacity, Function.comp_def]; rfl

/-- string(bytes) of a slice of the call's own -/
theorem run_string {P : Program} {w : World} {base : Nat} {v : Value} {l : List Nat} {src dst e : TypeId}
    (hs : P.underlying src = some (.slice e)) (he : P.underlying e = some (.int .u8)) (hd : P.underlying dst = some .string)
    (hown : w.ownsRow base e 1 v l.length (u8s l)) :
    (convert src dst v).run P w = .ok (.string (str l)) w := by
  rcases hown.2 with ⟨rfl, hx⟩ | ⟨g, cap, cur, rfl, hbg, hg, hnc, hcm, hcs, htake⟩
  · obtain rfl : l = [] := List.eq_nil_of_length_eq_zero hx
    rw [run_convert_bytes_string w src dst e _ _ _ hs he hd]
    rfl
  · rw [run_convert_bytes_string w src dst e _ _ _ hs he hd, ← foldl_str]
    refine run_bytesToString w _ _ _ _ ?_
    have h := run_loadCells_list (P := P) (w := w) ⟨g, 0, none⟩ (u8s l) (fun j u hj => hown.cells (g := g) rfl j u hj)
    rw [u8s_len] at h
    rw [h]
    simp [u8s]
theorem str_app (a b : List Nat) : str (a ++ b) = str a ++ str b := by
  apply ByteArray.ext
  simp [str]
/-- string([]byte{x}) -/
theorem run_one {P : Program} {w : World} {x : Int} (k : Nat) {src dst e t : TypeId} (hx : x = (k : Int))
    (hs : P.underlying src = some (.slice e)) (he : P.underlying e = some (.int .u8)) (hd : P.underlying dst = some .string) :
    (convert src dst (.slice (some ⟨w.heap.size, 0, none⟩) 1 1)).run P (w.alloc (.cells #[.int .u8 x] t)) = .ok (.string (str [k])) (w.alloc (.cells #[.int .u8 x] t)) := by
  subst hx
  rw [run_convert_bytes_string _ src dst e _ _ _ hs he hd]
  have h := run_loadCells_list (P := P) (w := w.alloc (.cells #[.int .u8 (k : Int)] t)) ⟨w.heap.size, 0, none⟩ [.int .u8 (k : Int)] (fun j u hj => by
    rw [Addr.add_lit, Nat.zero_add, World.cell?_alloc_at _ _ _ _ rfl]
    simpa using hj)
  have h2 := run_bytesToString (P := P) (w.alloc (.cells #[.int .u8 (k : Int)] t)) ⟨w.heap.size, 0, none⟩ 1 1 [(k : Int)] (by simpa using h)
  rw [h2, ← foldl_str]; rfl
end Go.Proofs.Ytbccejlemhgioaa.kit
