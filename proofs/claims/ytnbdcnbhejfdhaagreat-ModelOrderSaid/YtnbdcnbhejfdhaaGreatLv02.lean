/- texts put together: LabSame, LabLess, LabOrd, MdKit, App, OrsKt, OrsKey, RowsAt, MdMath, MdSort. -/
import Derived.Test.YtnbdcnbhejfdhaaGreatLv00
import Derived.Test.YtnbdcnbhejfdhaaGreatLv01
import Derived.ChangeArms
import Derived.Deep.SlicePairs
import Derived.DeepKeys4
import Derived.Lib.AppendStr
import Derived.Lib.SmallJoins
import Derived.Maps.Own
import Derived.Maps.OwnSet
import Derived.Maps.Views
import Derived.Shelf.SlSortCmp.NoneTotal
import Derived.Sort.Walk0
import Derived.WideShapes
namespace Go.Proofs.YtnbdcnbhejfdhaaGreat
open Go.RowKit Go.ChangeShapes cl
theorem str_ne {s t : ByteArray} (h : ¬ s = t) : ¬ s.toList = t.toList := fun e => h (ByteArray.ext (Array.ext' (by rw [← ByteArray.toList_eq, ← ByteArray.toList_eq]; exact e)))
theorem ptake_eq {a b : List Lab} {k : Nat} (hl : a.length = b.length) (hk : k < a.length) (h : a.take k = b.take k) (he : a.getD k (.empty, .empty) = b.getD k (.empty, .empty)) : a.take (k + 1) = b.take (k + 1) := by
 have hb : k < b.length := by omega
 rw [List.take_succ_eq_append_getElem hk, List.take_succ_eq_append_getElem hb, h]
 simp only [List.getD, List.getElem?_eq_getElem hk, List.getElem?_eq_getElem hb, Option.getD_some] at he
 rw [he]
set_option maxHeartbeats 1600000 in
set_option maxRecDepth 100000 in
theorem equal_any (a b : List Lab) (va vb : Value) (w : World) (ha : Labs w w.heap.size va a) (hb : Labs w w.heap.size vb b) :
  Calls Tryz.prog 66 #[va, vb] w (Said (decide (a = b)) w) := by
 obtain ⟨ao, ca, rfl, _, hla⟩ := ha.form
 obtain ⟨bo, cb, rfl, _, hlb⟩ := hb.form
 unfold maxLen at hla hlb
 by_cases hl : a.length = b.length
 ·
  have HL := Lib.hid hl
  have HCA := Lib.hid ha
  have HCB := Lib.hid hb
  obtain ⟨n, hn⟩ : ∃ n, n = a.length := ⟨_, rfl⟩
  have HN := Lib.hid hn
  have HNB : Hid (n = b.length) := hn.trans hl
  rw [← hl]
  rw [← hn] at hla ⊢
  have HCA2 : Hid (Labs w w.heap.size (.slice ao n ca) a) := by show Labs _ _ _ _; rw [HN.out]; exact HCA.out
  have HCB2 : Hid (Labs w w.heap.size (.slice bo n cb) b) := by show Labs _ _ _ _; rw [HNB.out]; exact HCB.out
  clear hlb hl ha hb hn HCA HCB
  go_enter Tryz.func66, Tryz.ntmps66
  go_wp2
  go_loopw [5, 13] (fun _ i wr => ∃ k : Nat, i = .int .i64 k ∧ k ≤ n ∧ Hid (a.take k = b.take k) ∧ Below w.heap.size w wr) (fun _ i _ => n - (intOf i).toNat)
  case atStart => exact ⟨0, rfl, by omega, rfl, Below.refl _ _⟩
  case round =>
   obtain ⟨k, rfl, hk, HT, hbl⟩ := hrel
   by_cases hlt : k < n
   ·
    obtain ⟨ba, oa, rfl, hBa, p0, p1⟩ := Labs.get HCA2.out HN.out hlt
    obtain ⟨bb, ob, rfl, hBb, r0, r1⟩ := Labs.get HCB2.out HNB.out hlt
    have c0 := (hbl.cell (p := ⟨ba, oa + k * 2, none⟩) hBa).trans p0
    have c1 := (hbl.cell (p := ⟨ba, oa + k * 2 + 1, none⟩) hBa).trans p1
    have d0 := (hbl.cell (p := ⟨bb, ob + k * 2, none⟩) hBb).trans r0
    have d1 := (hbl.cell (p := ⟨bb, ob + k * 2 + 1, none⟩) hBb).trans r1
    clear p0 p1 r0 r1
    have hkI : (k : Int) < (n : Int) := by omega
    by_cases he : a.getD k (.empty, .empty) = b.getD k (.empty, .empty)
    ·
     have HT' : Hid (a.take (k + 1) = b.take (k + 1)) := ptake_eq HL.out (by rw [← HN.out]; exact hlt) HT.out he
     rw [← he] at d0 d1
     obtain ⟨⟨x0, x1⟩, hx⟩ : ∃ x, x = a.getD k (.empty, .empty) := ⟨_, rfl⟩
     rw [← hx] at c0 c1 d0 d1
     simp only at c0 c1 d0 d1
     clear hx he
     go_wp2
     go_quiet (fail)
     go_wp2
     go_roundw
     case rel => exact ⟨k + 1, by go_num, by omega, HT', below_drewN hbl _⟩
     case measure => simp [intOf]; omega
    ·
     have HE : Hid (decide (a = b) = false) := decide_eq_false (fun e => he (by rw [e]))
     obtain ⟨⟨x0, x1⟩, hx⟩ : ∃ x, x = a.getD k (.empty, .empty) := ⟨_, rfl⟩
     obtain ⟨⟨y0, y1⟩, hy⟩ : ∃ x, x = b.getD k (.empty, .empty) := ⟨_, rfl⟩
     rw [← hx] at c0 c1
     rw [← hy] at d0 d1
     simp only at c0 c1 d0 d1
     have hne : ¬ (x0 = y0 ∧ x1 = y1) := fun ⟨e0, e1⟩ => he (by rw [← hx, ← hy, e0, e1])
     clear hx hy he
     by_cases h0 : x0 = y0
     ·
      subst h0
      have h1 := str_ne (fun e => hne ⟨rfl, e⟩ : ¬ x1 = y1)
      have h2 : (x1.toList == y1.toList) = false := by simpa using h1
      clear hne
      go_wp2
      go_quiet (fail)
      go_wp2
      go_ret
      rw [HE.out]; exact ⟨rfl, below_drewN hbl _⟩
     ·
      have h1 := str_ne h0
      have h2 : (x0.toList == y0.toList) = false := by simpa using h1
      clear h0
      clear hne
      go_wp2
      go_quiet (fail)
      go_wp2
      go_ret
      rw [HE.out]; exact ⟨rfl, below_drewN hbl _⟩
   ·
    have HE : Hid (decide (a = b) = true) := by
     have := HT.out
     rw [List.take_of_length_le (by rw [← HN.out]; omega), List.take_of_length_le (by rw [← HNB.out]; omega)] at this
     exact decide_eq_true this
    go_wp2
    go_ret
    rw [HE.out]; exact ⟨rfl, hbl⟩
 ·
  have HE : Hid (decide (a = b) = false) := decide_eq_false (fun e => hl (by rw [e]))
  have hne : ((a.length : Int) != (b.length : Int)) = true := by simp; omega
  have hne2 : ((a.length : Int) == (b.length : Int)) = false := by simp; omega
  clear hl ha hb
  go_enter Tryz.func66, Tryz.ntmps66
  go_wp2
  go_ret
  rw [HE.out]; exact ⟨rfl, Below.refl _ _⟩
end Go.Proofs.YtnbdcnbhejfdhaaGreat
namespace Go.Proofs.YtnbdcnbhejfdhaaGreat
open Go.RowKit Go.ChangeShapes cl
def tless (s t : ByteArray) : Bool := Op.bytesLess s.toList t.toList
end Go.Proofs.YtnbdcnbhejfdhaaGreat
namespace Go.Proofs.YtnbdcnbhejfdhaaGreat
theorem tless_iff (s t : ByteArray) : tless s t = true ↔ s.toList < t.toList := by
 unfold tless; rw [bytesLess_eq]; exact decide_eq_true_iff
theorem toList_inj {s t : ByteArray} (h : s.toList = t.toList) : s = t := by
 by_cases e : s = t
 ·
  exact e
 ·
  exact absurd h (str_ne e)
theorem tless_irrefl (s : ByteArray) : tless s s = false := by
 cases h : tless s s
 ·
  rfl
 ·
  exact absurd ((tless_iff s s).1 h) (List.lt_irrefl _)
theorem tless_trans {s t u : ByteArray} (h1 : tless s t = true) (h2 : tless t u = true) : tless s u = true :=
 (tless_iff s u).2 (List.lt_trans ((tless_iff s t).1 h1) ((tless_iff t u).1 h2))
theorem tless_asymm {s t : ByteArray} (h1 : tless s t = true) (h2 : tless t s = true) : False := by
 have := tless_trans h1 h2
 rw [tless_irrefl] at this
 cases this
theorem tless_total {s t : ByteArray} (h : s ≠ t) : tless s t = true ∨ tless t s = true := by
 rw [tless_iff, tless_iff]
 by_cases h1 : s.toList < t.toList
 ·
  exact Or.inl h1
 ·
  refine Or.inr ?_
  by_cases h2 : t.toList < s.toList
  ·
   exact h2
  ·
   exact absurd (toList_inj (List.le_antisymm (List.not_lt.1 h2) (List.not_lt.1 h1))) h
end Go.Proofs.YtnbdcnbhejfdhaaGreat
namespace Go.Proofs.YtnbdcnbhejfdhaaGreat
open Go Go.RowKit Go.ChangeShapes cl
theorem below1 {w : World} {o : Obj} : Below w.heap.size w (w.alloc o) := (Below.refl _ _).alloc (Nat.le_refl _) _
theorem boxc {w : World} {b : Nat} {arr : Array Value} {t : TypeId} (h : w.heap[b]? = some (.cells arr t)) (k : Nat) (u : Value) (hk : arr[k]? = some u) : w.cell? ⟨b, k, none⟩ = some u := by
 have : w.cell? ⟨b, k, none⟩ = arr[k]? := by simp [World.cell?, h]
 rw [this, hk]
theorem toList_beq (a b : ByteArray) : (a.toList == b.toList) = decide (a = b) := by
 by_cases h : a = b
 ·
  subst h; simp
 ·
  rw [decide_eq_false h]; exact beq_eq_false_iff_ne.2 fun e => h (toList_inj e)
end Go.Proofs.YtnbdcnbhejfdhaaGreat
namespace Go.Proofs.YtnbdcnbhejfdhaaGreat
open Go.RowKit Go.ChangeShapes
theorem own_stay {B : Nat} {e : TypeId} {k : Nat} {v : Value} {n : Nat} {xs : List Value} {w w' : World} (h : w.ownsRow B e k v n xs) (hb : Below w.heap.size w w') : w'.ownsRow B e k v n xs :=
 h.kept (row := none) ⟨hb.os, hb.tape, hb.output, hb.size, fun i hi _ => hb.block i hi⟩ (by cases v.ownBlock <;> simp)
theorem app1g {P : Program} {w : World} {ops : Array Oper} {rest : List Oper} {o : Oper} {a : Act} {Q : Exit → Act → World → Prop} {cs : Array Value} {e' : TypeId}
  (s x : Operand) (t : TypeId) (hgd : o.guard = none)
  (ho : o.op = .call { callee := .builtin .append, args := #[s, x], argTypes := #[t, t] })
  (base : Nat) {e : TypeId} {z : Value} {size bytes : Nat} (ht : P.underlying t = some (.slice e)) (hi : (P.info? e).map (fun i => (i.zero, i.size, i.bytes)) = some (some z, size, bytes))
  (hzs : z.cells.size = size) (hsz : 0 < size) (hb1 : 0 < bytes)
  {v : Value} {n : Nat} {xs : List Value} {c : Nat} (hown : w.ownsRow base e size v n xs) (hs : a.eval s = v) (hx : a.eval x = .slice (some ⟨w.heap.size, 0, none⟩) 1 c)
  (hcs : cs.size = size) (h1 : ∀ u ∈ cs.toList, u.oneCell' = true) (hbytes : (n + 1) * bytes ≤ 140737488355328) (hbase : base ≤ w.heap.size)
  (h : ∀ v' w', w'.ownsRow base e size v' (n + 1) (xs ++ cs.toList) → (w.alloc (.cells cs e')).grownBy w' v.ownBlock → wpList P ops Q rest (a.put o.dst v') w') :
  wpList P ops Q (o :: rest) a (w.alloc (.cells cs e')) := by
 obtain ⟨i, hi, hz, hsize, hby⟩ := info_parts hi
 have hle : n + 1 ≤ (n + 1) * bytes := Nat.le_mul_of_pos_right _ hb1
 refine wpList_append_own _ hgd s x t ho base e i z size bytes ht hi hz hsize hby hzs hsz v n xs hs (hown.alloc _) ⟨w.heap.size, 0, none⟩ 1 c cs.toList hx (by simp [hcs]) ?_ h1
  (by unfold maxLen; omega) hbytes (by simp; omega) fun v' w' r1 r2 _ => h v' w' r1 r2
 intro j u hj
 rw [Array.getElem?_toList] at hj
 rw [Addr.add_lit, Nat.zero_add, World.cell?_alloc_at _ _ _ _ rfl]
 exact hj
theorem strCells_str {l : List Nat} (h : ∀ x ∈ l, x < 256) : Lib.strCells (kit.str l) = kit.u8s l := by
 simp only [Lib.strCells, kit.str, kit.u8s, List.map_map]
 refine List.map_congr_left fun x hx => ?_
 have := h x hx
 simp [Nat.mod_eq_of_lt this]
theorem appS {P : Program} {w : World} {ops : Array Oper} {rest : List Oper} {o : Oper} {a : Act} {Q : Exit → Act → World → Prop}
  (s x : Operand) (t u : TypeId) (hgd : o.guard = none) (ho : o.op = .call { callee := .builtin .append, args := #[s, x], argTypes := #[t, u] })
  (base : Nat) {e : TypeId} (ht : P.underlying t = some (.slice e)) (hu : P.underlying u = some .string) (hi : (P.info? e).map (fun i => (i.zero, i.size, i.bytes)) = some (some (.int .u8 0), 1, 1))
  {v : Value} {l m : List Nat} (hown : w.ownsRow base e 1 v l.length (kit.u8s l)) (hs : a.eval s = v) (hx : a.eval x = .string (kit.str m)) (hm : ∀ y ∈ m, y < 256)
  (hlen : l.length + m.length ≤ 140737488355328) (hbase : base ≤ w.heap.size)
  (h : ∀ v' w', w'.ownsRow base e 1 v' (l ++ m).length (kit.u8s (l ++ m)) → w.grownBy w' v.ownBlock → wpList P ops Q rest (a.put o.dst v') w') :
  wpList P ops Q (o :: rest) a w := by
 obtain ⟨i, hi, hz, hsize, hby⟩ := info_parts hi
 refine Lib.wpList_append_own_string _ hgd s x t u ho base e i ht hu hi hz hsize hby v l.length _ hs hown (kit.str m) hx (by rw [kit.str_size]; unfold maxLen; omega) (by rw [kit.str_size]; omega) hbase fun v' w' r1 r2 _ => h v' w' ?_ r2
 rw [kit.str_size, strCells_str hm] at r1
 rw [List.length_append, kit.u8s_app]
 exact r1
theorem grown_below {w w' : World} {B k n : Nat} {e : TypeId} {v : Value} {xs : List Value} (ho : w.ownsRow B e k v n xs) (hB : B ≤ w.heap.size) (hg : w.grownBy w' v.ownBlock) : Below B w w' :=
 (Below.refl B w).grown hg hB (fun k hk => (ho.lt k hk).1)
end Go.Proofs.YtnbdcnbhejfdhaaGreat
namespace Go.Proofs.YtnbdcnbhejfdhaaGreat
open Go Go.RowKit Go.ChangeShapes cl
structure Kt (T : TypeId) (w w' : World) : Prop where
 size : w.heap.size ≤ w'.heap.size
 keep : ∀ q, q < w.heap.size → (∀ cur fr, w.heap[q]? ≠ some (.cells cur T fr)) → w'.heap[q]? = w.heap[q]?
theorem grown_below' {w w' : World} {r : Option Nat} (h : Below w.heap.size w w') : w.grownBy w' r := ⟨h.os, h.tape, h.output, h.size, fun k hk _ => h.block k hk⟩
theorem Kt.of_grown {T : TypeId} {w w' : World} {p : Nat} {cur : Array Value} {fr : Nat × Nat} (h : w.grownBy w' (some p)) (hp : w.heap[p]? = some (.cells cur T fr)) : Kt T w w' :=
 ⟨h.size, fun q hq hn => h.block q hq (fun e => hn cur fr (by cases e; exact hp))⟩
theorem Kt.trans {T : TypeId} {w w1 w2 : World} (h : Kt T w w1) (h2 : Kt T w1 w2) : Kt T w w2 :=
 ⟨Nat.le_trans h.size h2.size, fun q hq hn => (h2.keep q (Nat.lt_of_lt_of_le hq h.size) (fun cur fr => by rw [h.keep q hq hn]; exact hn cur fr)).trans (h.keep q hq hn)⟩
theorem own_base {e : TypeId} {B B' k n : Nat} {v : Value} {xs : List Value} {w : World} (h : w.ownsRow B e k v n xs) (hB : B' ≤ B) : w.ownsRow B' e k v n xs := by
 refine ⟨h.1, ?_⟩
 rcases h.2 with h | ⟨g, cap, cur, rfl, hb, r⟩
 ·
  exact Or.inl h
 ·
  exact Or.inr ⟨g, cap, cur, rfl, by omega, r⟩
theorem Kt.set {w : World} {q : Nat} {cs : Array Value} {T : TypeId} {fr : Nat × Nat} (h : w.heap[q]? = some (.cells cs T fr)) (i : Nat) (u : Value) : Kt T w (w.setCell ⟨q, i, none⟩ u) :=
 ⟨by rw [World.size_setCell]; exact Nat.le_refl _, fun k _ hn => Below.heap_setCell _ _ _ _ (fun e => by
  have e : k = q := e
  subst e
  exact hn _ _ h)⟩
theorem Kt.append {T : TypeId} {B k n : Nat} {v : Value} {xs : List Value} {w w' : World} (h : w.ownsRow B T k v n xs) (hg : w.grownBy w' v.ownBlock) : Kt T w w' := by
 rcases h.2 with ⟨rfl, _⟩ | ⟨g, cap, cur, rfl, hb, hgg, _⟩
 ·
  exact ⟨hg.size, fun q hq _ => hg.block q hq (by simp [Value.ownBlock])⟩
 ·
  exact Kt.of_grown hg hgg
theorem take_one {α : Type} (l : List α) (k : Nat) (d : α) (h : k < l.length) : l.take (k + 1) = l.take k ++ [l.getD k d] := by
 rw [List.take_add_one, List.getD_eq_getElem?_getD, List.getElem?_eq_getElem h]; rfl
theorem own_slice {w : World} {B e k n : Nat} {v : Value} {xs : List Value} (h : w.ownsRow B e k v n xs) : ∃ a c, v = .slice a n c := by
 rcases h.2 with ⟨rfl, rfl⟩ | ⟨g, cap, cur, rfl, _⟩
 ·
  exact ⟨_, _, rfl⟩
 ·
  exact ⟨_, _, rfl⟩
end Go.Proofs.YtnbdcnbhejfdhaaGreat
namespace Go.Proofs.YtnbdcnbhejfdhaaGreat
open Go Go.RowKit Go.ChangeShapes cl Go.WideMaps Go.Maps
def dval (d : Dot) : Value := .agg #[.int .i64 d.1, .int .i64 d.2]
def DWf (d : Dot) : Prop := (Lit.int .i64 d.1).wf = true ∧ (Lit.int .i64 d.2).wf = true
theorem dkeyed : Keyed Tryz.prog 37 := Keyed.of_law (deep_law_laid (P := Tryz.prog) (by kernel_rfl) (m := 2) (by omega) (of_decide_eq_true (by kernel_rfl)) (by kernel_rfl) (by kernel_rfl))
theorem dsize : ∃ m, Tryz.prog.types.size = m + 1 := ⟨Tryz.prog.types.size - 1, by
 have : 0 < Tryz.prog.types.size := of_decide_eq_true (by kernel_rfl)
 omega⟩
theorem dcell2 : Tryz.prog.cellsOf 37 = 2 := by kernel_rfl
theorem icell1 : Tryz.prog.cellsOf 3 = 1 := by kernel_rfl
theorem ilits {m : Nat} {a : Int} (h : (Lit.int .i64 a).wf = true) : Tryz.prog.keyLits (m + 1) 3 [.int .i64 a] = some [.int .i64 a] := by
 have hu := Tryz.underlying3
 unfold Program.keyLits
 simp [hu, h]
theorem dkey_some {d : Dot} (h : DWf d) : ∃ l, keyOf Tryz.prog 37 (dval d) = some l := by
 obtain ⟨h1, h2⟩ := h
 have hu := Tryz.underlying37
 have hk : Tryz.prog.keyType 37 = true := by kernel_rfl
 have hf : (dval d).formed Tryz.prog 37 = true := by simp [dval, Value.formed, hu, dcell2]
 obtain ⟨m, hm⟩ := dsize
 have hl : ∃ ls, Tryz.prog.keyLits (Tryz.prog.types.size + 1) 37 (dval d).cells.toList = some ls := by
  rw [hm]
  have hc : (dval d).cells.toList = [.int .i64 d.1, .int .i64 d.2] := rfl
  rw [hc]
  unfold Program.keyLits
  simp [hu, dcell2, icell1, ilits h1, ilits h2]
 obtain ⟨ls, hl⟩ := hl
 unfold keyOf
 rw [hu]
 simp only [hk, hf, hl]
 exact ⟨_, rfl⟩
noncomputable def dkey (d : Dot) : Lit := (keyOf Tryz.prog 37 (dval d)).getD (.bool true)
theorem dkey_of {d : Dot} (h : DWf d) : keyOf Tryz.prog 37 (dval d) = some (dkey d) := by
 obtain ⟨l, hl⟩ := dkey_some h
 unfold dkey
 rw [hl]; rfl
theorem dkey_ne {d e : Dot} (hd : DWf d) (he : DWf e) (h : d ≠ e) : dkey d ≠ dkey e := fun hx => h (by
 have h1 := dkey_of hd
 have h2 := dkey_of he
 rw [← hx] at h2
 have := dkeyed.inj h1 h2
 obtain ⟨a, b⟩ := d
 obtain ⟨c, f⟩ := e
 simp only [dval, Value.agg.injEq, Array.mk.injEq, List.cons.injEq, Value.int.injEq, true_and, and_true] at this
 exact Prod.ext this.1 this.2)
def HasD (D : DataW Unit) (l : List Dot) : Prop := ∀ d, DWf d → (Maps.has D (dkey d) = true ↔ d ∈ l)
theorem hasD_nil : HasD (.map []) [] := fun d _ => ⟨fun h => by simp [Maps.has] at h, fun h => by cases h⟩
set_option maxRecDepth 100000 in
theorem dkey_lit {d : Dot} (h : DWf d) : WideAt.IsKeyLit (dkey d) := by
 have h2 := dkey_of h
 generalize dkey d = k at h2 ⊢
 exact dkeyed.key h2
set_option maxRecDepth 100000 in
theorem hasD_put {D : DataW Unit} {l : List Dot} {x : Dot} (h : HasD D l) (hD : IsMap D) (hx : DWf x) (v : DataW Unit) : HasD (D.put (dkey x) v) (l ++ [x]) := by
 intro d hd
 by_cases e : d = x
 ·
  subst e
  have hk := dkey_lit hd
  generalize dkey d = k at hk ⊢
  exact ⟨fun _ => by simp, fun _ => has_put_same hD hk v⟩
 ·
  rw [has_put_other (dkey_ne hd hx e), h d hd]
  simp [e]
end Go.Proofs.YtnbdcnbhejfdhaaGreat
namespace Go.Proofs.YtnbdcnbhejfdhaaGreat.cl
open Go.RowKit Go.WideShapes Go.ChangeShapes
abbrev Rel (α : Type) := World → Nat → List Value → α → Prop
def Steady {α : Type} (R : Rel α) : Prop := ∀ (w w' : World) (B B' : Nat) (c : List Value) (x : α), R w B c x → Below B w w' → B ≤ B' → R w' B' c x
def RowsAt {α : Type} (k : Nat) (R : Rel α) (w : World) (B : Nat) (v : Value) (l : List α) : Prop :=
 ∃ cs : List (List Value), cs.length = l.length ∧ (∀ (j : Nat) (c : List Value) (x : α), cs[j]? = some c → l[j]? = some x → c.length = k ∧ R w B c x) ∧ Cells w B v l.length k cs.flatten
theorem flat_len {k : Nat} : ∀ cs : List (List Value), (∀ c ∈ cs, c.length = k) → cs.flatten.length = cs.length * k := by
 intro cs
 induction cs with
 | nil => intro _; simp
 | cons c cs ih =>
  intro h
  rw [List.flatten_cons, List.length_append, ih (fun x hx => h x (List.mem_cons_of_mem _ hx)), h c List.mem_cons_self, List.length_cons, Nat.succ_mul]; omega
theorem flat_get {k : Nat} : ∀ (cs : List (List Value)), (∀ c ∈ cs, c.length = k) → ∀ (j : Nat) (c : List Value) (i : Nat), cs[j]? = some c → i < k → cs.flatten[j * k + i]? = c[i]? := by
 intro cs
 induction cs with
 | nil => intro _ j c i h; simp at h
 | cons a cs ih =>
  intro h j c i hj hi
  have ha : a.length = k := h a List.mem_cons_self
  rw [List.flatten_cons]
  cases j with
  | zero =>
   simp only [List.getElem?_cons_zero, Option.some.injEq] at hj
   subst hj
   rw [Nat.zero_mul, Nat.zero_add, List.getElem?_append_left (by omega)]
  | succ j =>
   simp only [List.getElem?_cons_succ] at hj
   rw [Nat.succ_mul, List.getElem?_append_right (by omega), show j * k + k + i - a.length = j * k + i by omega]
   exact ih (fun x hx => h x (List.mem_cons_of_mem _ hx)) j c i hj hi
section
variable {α : Type} {k : Nat} {R : Rel α} {w w' : World} {B B' : Nat} {v : Value} {l : List α}
theorem RowsAt.len {cs : List (List Value)} (h0 : cs.length = l.length) (h : ∀ (j : Nat) (c : List Value) (x : α), cs[j]? = some c → l[j]? = some x → c.length = k ∧ R w B c x) : ∀ c ∈ cs, c.length = k := by
 intro c hc
 obtain ⟨j, hj, rfl⟩ := List.mem_iff_getElem.1 hc
 exact (h j _ l[j] (List.getElem?_eq_getElem hj) (List.getElem?_eq_getElem (by omega))).1
theorem RowsAt.below (hR : Steady R) (h : RowsAt k R w B v l) (hb : Below B w w') (hB : B ≤ B') : RowsAt k R w' B' v l := by
 obtain ⟨cs, h0, h1, h2⟩ := h
 exact ⟨cs, h0, fun j c x hc hx => ⟨(h1 j c x hc hx).1, hR _ _ _ _ _ _ (h1 j c x hc hx).2 hb hB⟩, (h2.below hb).mono hB⟩
theorem RowsAt.next (hR : Steady R) (h : RowsAt k R w w.heap.size v l) (hb : Below w.heap.size w w') : RowsAt k R w' w'.heap.size v l := h.below hR hb hb.size
theorem RowsAt.mono (hR : Steady R) (h : RowsAt k R w B v l) (hB : B ≤ B') : RowsAt k R w B' v l := h.below hR (Below.refl _ _) hB
theorem RowsAt.form (h : RowsAt k R w B v l) : ∃ ao cap, v = .slice ao l.length cap ∧ l.length ≤ cap ∧ l.length ≤ maxLen := h.choose_spec.2.2.form
theorem RowsAt.form' (h : RowsAt k R w B v l) {n : Nat} (hn : n = l.length) : ∃ ao cap, v = .slice ao n cap ∧ n ≤ cap ∧ n ≤ maxLen := by subst hn; exact h.form
theorem RowsAt.nil (w : World) (B : Nat) : RowsAt k R w B (.slice none 0 0) [] := ⟨[], rfl, fun j c x hc => by simp at hc, Cells.nil _ _ _⟩
theorem RowsAt.get {ao : Option Addr} {n cap : Nat} (h : RowsAt k R w B (.slice ao n cap) l) (hn : n = l.length) {j : Nat} (hj : j < n) (d : α) :
  ∃ b off c, ao = some ⟨b, off, none⟩ ∧ b < B ∧ c.length = k ∧ R w B c (l.getD j d) ∧ ∀ (i : Nat) u, c[i]? = some u → w.cell? ⟨b, off + j * k + i, none⟩ = some u := by
 subst hn
 obtain ⟨cs, h0, h1, h2⟩ := h
 have hk := RowsAt.len h0 h1
 obtain ⟨_, ao', c', e, _, _, h4⟩ := h2
 simp only [Value.slice.injEq] at e
 obtain ⟨rfl, _, rfl⟩ := e
 obtain ⟨b, off, rfl, hB, hc⟩ := h4 (by omega)
 have hcj : cs[j]? = some cs[j] := List.getElem?_eq_getElem (by omega)
 have hlj : l[j]? = some l[j] := List.getElem?_eq_getElem hj
 have e : l.getD j d = l[j] := by simp [List.getD, hlj]
 obtain ⟨g1, g2⟩ := h1 j _ _ hcj hlj
 refine ⟨b, off, cs[j], rfl, hB, g1, by rw [e]; exact g2, fun i u hu => ?_⟩
 have hi : i < k := by have := (List.getElem?_eq_some_iff.1 hu).1; omega
 rw [Nat.add_assoc]
 exact hc _ u (by rw [flat_get cs hk j _ i hcj hi]; exact hu)
theorem RowsAt.own {base : Nat} {e : TypeId} {n : Nat} {cs : List (List Value)} (hn : n = l.length) (h0 : cs.length = l.length) (h1 : ∀ (j : Nat) (c : List Value) (x : α), cs[j]? = some c → l[j]? = some x → c.length = k ∧ R w w.heap.size c x) (h : w.ownsRow base e k v n cs.flatten) : RowsAt k R w w.heap.size v l := by
 subst hn; exact ⟨cs, h0, h1, Cells.own h⟩
end
theorem open_rows {α H : Type} {enc : TypeId × Value → H} {P : Program} {W : World} {t e : TypeId} {fuel k : Nat} {v : Value} {x : DataW H × List MemPlace} {R : Rel α} {wf : α → Prop} [Inhabited α] (ht : P.underlying t = some (.slice e)) (ce : P.cellsOf e = k) (hk : 0 < k)
  (hel : ∀ (f : Nat) (cs : List Value) (y : DataW H × List MemPlace), cs.length = k → DataW.trod enc P W 0 (fun _ => true) true f e cs = some y → ∃ a : α, R W W.heap.size cs a ∧ wf a)
  (hf : DataW.trod enc P W 0 (fun _ => true) true fuel t [v] = some x) : ∃ l : List α, RowsAt k R W W.heap.size v l ∧ ∀ a ∈ l, wf a := by
 rcases Deep.open_slice ht hf with ⟨hcs, _⟩ | ⟨a, len, cap, m, n, D0, P0, hcs, _, hle, hmax, hm, _, hcell⟩
 ·
  obtain rfl := (List.cons.inj hcs).1
  exact ⟨[], RowsAt.nil _ _, by simp⟩
 ·
  obtain rfl := (List.cons.inj hcs).1
  subst ce
  have hml : len ≤ m := by rw [hm]; split <;> omega
  have each : ∀ i, i < len → ∃ z : List Value × α, z.1.length = P.cellsOf e ∧ (∀ j, j < P.cellsOf e → W.cell? (a.add (i * P.cellsOf e + j)) = z.1[j]?) ∧ R W W.heap.size z.1 z.2 ∧ wf z.2 := fun i hi => by
   obtain ⟨cs', h1, h2⟩ := hcell i (by omega)
   obtain ⟨_, hlen, hc⟩ := World.cells?_some h1
   obtain ⟨y, hy, hw⟩ := hel _ cs' _ hlen h2
   refine ⟨(cs', y), hlen, fun j hj => ?_, hy, hw⟩
   have := hc j (by omega)
   rwa [Deep.add_add] at this
  obtain ⟨f, hf⟩ := Deep.choose_lt each
  have hl : ((List.range len).map fun i => (f i).2).length = len := by simp
  have hl1 : ((List.range len).map fun i => (f i).1).length = len := by simp
  have hall : ∀ c ∈ (List.range len).map (fun i => (f i).1), c.length = P.cellsOf e := by
   intro c hc
   obtain ⟨i, hi, rfl⟩ := List.mem_map.1 hc
   exact (hf i (List.mem_range.1 hi)).1
  have hfl := flat_len _ hall
  refine ⟨(List.range len).map fun i => (f i).2, ⟨(List.range len).map fun i => (f i).1, by rw [hl, hl1], fun j c y hc hy => ?_, by rw [hfl, hl1, hl], some a, cap, by rw [hl], ⟨(fun e => by cases e), by omega⟩, by omega, fun hp => ?_⟩, fun y hy => ?_⟩
  ·
   have hj : j < len := by have := (List.getElem?_eq_some_iff.1 hc).1; omega
   simp only [List.getElem?_map, List.getElem?_range hj, Option.map_some, Option.some.injEq] at hc hy
   subst hc
   subst hy
   exact ⟨(hf j hj).1, (hf j hj).2.2.1⟩
  ·
   rw [hl] at hp
   obtain ⟨b, off, spot⟩ := a
   have h00 := (hf 0 (by omega)).2.1 0 hk
   have hx0 : (f 0).1[0]? = some ((f 0).1[0]'(by rw [(hf 0 (by omega)).1]; exact hk)) := List.getElem?_eq_getElem _
   rw [hx0] at h00
   have hspot : spot = none := by simpa [Addr.add] using World.cell?_spot h00
   subst hspot
   rw [Addr.add_lit] at h00
   refine ⟨b, off, rfl, World.block_lt_of_cell? _ _ h00, fun j u hj => ?_⟩
   have hjl : j < len * P.cellsOf e := by have := (List.getElem?_eq_some_iff.1 hj).1; rw [hfl, hl1] at this; exact this
   have hq : j / P.cellsOf e < len := Nat.div_lt_of_lt_mul (by rw [Nat.mul_comm]; exact hjl)
   have hr : j % P.cellsOf e < P.cellsOf e := Nat.mod_lt _ hk
   have hje : j / P.cellsOf e * P.cellsOf e + j % P.cellsOf e = j := Nat.div_add_mod' _ _
   have hg := flat_get _ hall (j / P.cellsOf e) (f (j / P.cellsOf e)).1 (j % P.cellsOf e) (by simp only [List.getElem?_map, List.getElem?_range hq, Option.map_some]) hr
   rw [hje] at hg
   rw [hg] at hj
   have := (hf (j / P.cellsOf e) hq).2.1 _ hr
   rw [hje, Addr.add_lit] at this
   rw [this]; exact hj
  ·
   obtain ⟨i, hi, rfl⟩ := List.mem_map.1 hy
   exact (hf i (List.mem_range.1 hi)).2.2.2
end Go.Proofs.YtnbdcnbhejfdhaaGreat.cl
namespace Go.Proofs.YtnbdcnbhejfdhaaGreat
open Go Go.RowKit Go.ChangeShapes cl
structure Fct where
 kd : Int
 s : ByteArray
 d : Dot
 t : Int
instance : Inhabited Fct := ⟨⟨0, .empty, (0, 0), 0⟩⟩
def fctR : Rel Fct := fun _ _ cs f => ∃ ma mn mc la ln lc er st, cs = [.int .i64 f.kd, .string f.s, .int .i64 f.d.1, .int .i64 f.d.2, .int .i64 f.t, .slice ma mn mc, .slice la ln lc, .int .i64 er, .bool st]
theorem fct_steady : Steady fctR := fun _ _ _ _ _ _ h _ _ => h
abbrev Fcts (w : World) (B : Nat) (v : Value) (l : List Fct) : Prop := RowsAt 9 fctR w B v l
def FWf (f : Fct) : Prop := DWf f.d
structure Lv where
 s : ByteArray
 d : Dot
 t : Int
instance : Inhabited Lv := ⟨⟨.empty, (0, 0), 0⟩⟩
def lcell (x : Lv) : List Value := [.string x.s, .int .i64 x.d.1, .int .i64 x.d.2, .int .i64 x.t]
def lvcells (l : List Lv) : List Value := l.flatMap lcell
theorem lvcells_app (a b : List Lv) : lvcells (a ++ b) = lvcells a ++ lvcells b := by simp [lvcells]
def goneF (l : List Fct) : List Dot := (l.filter fun f => decide (f.kd = 2)).map Fct.d
def keepB (G : List Dot) (out : List Lv) (f : Fct) : Bool := decide (f.kd = 1) && valid f.d && !decide (f.d ∈ G) && !decide (f.d ∈ out.map Lv.d)
def keepS (G : List Dot) (out : List Lv) (f : Fct) : List Lv := if keepB G out f then out ++ [⟨f.s, f.d, f.t⟩] else out
def keepF (G : List Dot) (l : List Fct) : List Lv := l.foldl (keepS G) []
theorem keepF_snoc (G : List Dot) (l : List Fct) (f : Fct) : keepF G (l ++ [f]) = keepS G (keepF G l) f := by
 unfold keepF
 rw [List.foldl_append]; rfl
theorem goneF_snoc (l : List Fct) (f : Fct) : goneF (l ++ [f]) = if f.kd = 2 then goneF l ++ [f.d] else goneF l := by
 unfold goneF
 rw [List.filter_append]
 by_cases h : f.kd = 2
 ·
  rw [if_pos h]; simp [h]
 ·
  rw [if_neg h]; simp [h]
def UpL (l : List Lv) : Prop := l.Pairwise fun a b => dless a.d b.d = true
structure KeptF (G : List Dot) (l : List Fct) (out : List Lv) : Prop where
 nodup : (out.map Lv.d).Nodup
 len : out.length ≤ l.length
 ok : ∀ x ∈ out, valid x.d = true ∧ x.d ∉ G
 from' : ∀ x ∈ out, ∃ j, j < l.length ∧ (l.getD j default).kd = 1 ∧ (l.getD j default).d = x.d ∧ (l.getD j default).s = x.s ∧ (l.getD j default).t = x.t ∧ ∀ i, i < j → (l.getD i default).kd = 1 → (l.getD i default).d ≠ x.d
 all : ∀ f ∈ l, f.kd = 1 → valid f.d = true → f.d ∉ G → f.d ∈ out.map Lv.d
theorem kept_nil (G : List Dot) : KeptF G [] [] := ⟨List.nodup_nil, Nat.le_refl _, (fun x h => by cases h), (fun x h => by cases h), (fun f h => by cases h)⟩
theorem getD_leftF {l m : List Fct} {j : Nat} (h : j < l.length) : (l ++ m).getD j default = l.getD j default := by
 rw [List.getD_eq_getElem?_getD, List.getD_eq_getElem?_getD, List.getElem?_append_left h]
theorem getD_lastF (l : List Fct) (f : Fct) : (l ++ [f]).getD l.length default = f := by simp [List.getD]
theorem kept_snoc {G : List Dot} {l : List Fct} {out : List Lv} (h : KeptF G l out) (f : Fct) : KeptF G (l ++ [f]) (keepS G out f) := by
 unfold keepS
 cases hk : keepB G out f
 ·
  rw [if_neg (by decide)]
  refine ⟨h.nodup, by rw [List.length_append]; have := h.len; omega, h.ok, fun x hx => ?_, fun g hg h1 h2 h3 => ?_⟩
  ·
   obtain ⟨j, hj, a, b, c, d, e⟩ := h.from' x hx
   refine ⟨j, by rw [List.length_append]; omega, ?_⟩
   rw [getD_leftF hj]
   exact ⟨a, b, c, d, fun i hi => by rw [getD_leftF (by omega)]; exact e i hi⟩
  ·
   rcases List.mem_append.1 hg with hg | hg
   ·
    exact h.all g hg h1 h2 h3
   ·
    obtain rfl := List.mem_singleton.1 hg
    unfold keepB at hk
    simp [h1, h2, h3] at hk
    obtain ⟨x, hx, e⟩ := hk
    exact List.mem_map.2 ⟨x, hx, e⟩
 ·
  rw [if_pos rfl]
  unfold keepB at hk
  simp only [Bool.and_eq_true, decide_eq_true_eq, Bool.not_eq_true', decide_eq_false_iff_not] at hk
  obtain ⟨⟨⟨k1, k2⟩, k3⟩, k4⟩ := hk
  refine ⟨?_, by rw [List.length_append, List.length_append]; have := h.len; simp; omega, fun x hx => ?_, fun x hx => ?_, fun g hg h1 h2 h3 => ?_⟩
  ·
   rw [List.map_append, List.nodup_append]
   refine ⟨h.nodup, by simp, fun a ha b hb e => ?_⟩
   simp only [List.map_cons, List.map_nil, List.mem_singleton] at hb
   rw [e, hb] at ha
   exact k4 ha
  ·
   rcases List.mem_append.1 hx with hx | hx
   ·
    exact h.ok x hx
   ·
    obtain rfl := List.mem_singleton.1 hx
    exact ⟨k2, k3⟩
  ·
   rcases List.mem_append.1 hx with hx | hx
   ·
    obtain ⟨j, hj, a, b, c, d, e⟩ := h.from' x hx
    refine ⟨j, by rw [List.length_append]; omega, ?_⟩
    rw [getD_leftF hj]
    exact ⟨a, b, c, d, fun i hi => by rw [getD_leftF (by omega)]; exact e i hi⟩
   ·
    obtain rfl := List.mem_singleton.1 hx
    refine ⟨l.length, by simp, ?_⟩
    rw [getD_lastF]
    refine ⟨k1, rfl, rfl, rfl, fun i hi hi1 e => ?_⟩
    rw [getD_leftF hi] at hi1 e
    have hm : l.getD i default ∈ l := by
     rw [List.getD_eq_getElem?_getD, List.getElem?_eq_getElem hi]
     exact List.getElem_mem _
    have := h.all _ hm hi1 (by rw [e]; exact k2) (by rw [e]; exact k3)
    rw [e] at this
    exact k4 this
  ·
   rw [List.map_append]
   rcases List.mem_append.1 hg with hg | hg
   ·
    exact List.mem_append_left _ (h.all g hg h1 h2 h3)
   ·
    obtain rfl := List.mem_singleton.1 hg
    exact List.mem_append_right _ (by simp)
theorem kept_all (G : List Dot) : ∀ l : List Fct, KeptF G l (keepF G l) := by
 intro l
 have key : ∀ r : List Fct, KeptF G r.reverse (keepF G r.reverse) := fun r => by
  induction r with
  | nil => exact kept_nil G
  | cons f r ih => rw [List.reverse_cons, keepF_snoc]; exact kept_snoc ih f
 have := key l.reverse
 rwa [List.reverse_reverse] at this
end Go.Proofs.YtnbdcnbhejfdhaaGreat
namespace Go.Proofs.YtnbdcnbhejfdhaaGreat
open Go Go.RowKit Go.ChangeShapes cl Go.Sort Go.Shelf
set_option maxHeartbeats 800000 in
set_option maxRecDepth 100000 in
theorem valid_any (d : Dot) (w : World) : Calls Tryz.prog 22 #[.agg #[.int .i64 d.1, .int .i64 d.2]] w (Said (valid d) w) := by
 obtain ⟨a, b⟩ := d
 have hA : Below w.heap.size w (w.alloc (.cells #[.int .i64 a, .int .i64 b] 37)) := (Below.refl _ _).alloc (Nat.le_refl _) _
 have HV : Hid (∀ r, decide (0 ≤ a ∧ a < 16 ∧ 1 ≤ b ∧ b ≤ 1099511627776) = r → valid (a, b) = r) := fun r h => h
 obtain ⟨R, hR⟩ : ∃ R, R = valid (a, b) := ⟨_, rfl⟩
 rw [← hR] at HV ⊢
 clear hR
 by_cases h1 : 0 ≤ a
 ·
  by_cases h2 : a < 16
  ·
   by_cases h3 : 1 ≤ b
   ·
    by_cases h4 : b ≤ 1099511627776
    ·
     have HR := Lib.hid (HV.out true (decide_eq_true ⟨h1, h2, h3, h4⟩))
     go_enter Tryz.func22, Tryz.ntmps22
     go_wp2
     go_ret
     rw [HR.out]; exact ⟨rfl, hA⟩
    ·
     have HR := Lib.hid (HV.out false (decide_eq_false (fun h => h4 h.2.2.2)))
     go_enter Tryz.func22, Tryz.ntmps22
     go_wp2
     go_ret
     rw [HR.out]; exact ⟨rfl, hA⟩
   ·
    have HR := Lib.hid (HV.out false (decide_eq_false (fun h => h3 h.2.2.1)))
    go_enter Tryz.func22, Tryz.ntmps22
    go_wp2
    go_ret
    rw [HR.out]; exact ⟨rfl, hA⟩
  ·
   have HR := Lib.hid (HV.out false (decide_eq_false (fun h => h2 h.2.1)))
   go_enter Tryz.func22, Tryz.ntmps22
   go_wp2
   go_ret
   rw [HR.out]; exact ⟨rfl, hA⟩
 ·
  have HR := Lib.hid (HV.out false (decide_eq_false (fun h => h1 h.1)))
  go_enter Tryz.func22, Tryz.ntmps22
  go_wp2
  go_ret
  rw [HR.out]; exact ⟨rfl, hA⟩
def Lays (w w' : World) : Prop := ∃ q os, w' = grow (w.drewN q) os
theorem drewN_add (w : World) (p q : Nat) : (w.drewN p).drewN q = w.drewN (p + q) := by
 induction q with
 | zero => rfl
 | succ q ih =>
  have h1 : (w.drewN p).drewN (q + 1) = ((w.drewN p).drewN q).drew := rfl
  rw [h1, ih]; rfl
theorem Lays.trans {w w1 w2 : World} (h : Lays w w1) (h2 : Lays w1 w2) : Lays w w2 := by
 obtain ⟨p, os, rfl⟩ := h
 obtain ⟨q, os', rfl⟩ := h2
 refine ⟨p + q, os ++ os', ?_⟩
 show grow (grow ((w.drewN p).drewN q) os) os' = _
 rw [grow_grow, drewN_add]
theorem Lays.alloc (w : World) (o : Obj) : Lays w (w.alloc o) := ⟨0, #[o], alloc_eq_grow w o⟩
theorem Lays.below {w w' : World} (h : Lays w w') : Below w.heap.size w w' := by
 obtain ⟨q, os, rfl⟩ := h
 exact below_grow w q os
set_option maxHeartbeats 800000 in
set_option maxRecDepth 100000 in
theorem less_lays (x y : Dot) (w : World) : Calls Tryz.prog 23 #[.agg #[.int .i64 x.1, .int .i64 x.2], .agg #[.int .i64 y.1, .int .i64 y.2]] w fun e w' => e = .returned (.bool (dless x y)) ∧ Lays w w' := by
 obtain ⟨a, b⟩ := x
 obtain ⟨c, d⟩ := y
 have HL : Hid (Lays w ((w.alloc (.cells #[.int .i64 a, .int .i64 b] 37)).alloc (.cells #[.int .i64 c, .int .i64 d] 37))) := (Lays.alloc _ _).trans (Lays.alloc _ _)
 have HC : Hid (∀ W, Calls Tryz.prog 41 #[.agg #[.int .i64 a, .int .i64 b], .agg #[.int .i64 c, .int .i64 d]] W fun e w' => e = .returned (.int .i64 (cf (a, b) (c, d))) ∧ Lays W w') := fun W => compare_any cc (a, b) (c, d) W
 have hd : dless (a, b) (c, d) = decide (cf (a, b) (c, d) < 0) := by
  have := cf_neg (a, b) (c, d)
  by_cases h : cf (a, b) (c, d) < 0
  ·
   rw [decide_eq_true h]; exact this.1 h
  ·
   rw [decide_eq_false h]
   cases h2 : dless (a, b) (c, d) with
   | false => rfl
   | true => exact absurd (this.2 h2) h
 rw [hd]
 clear hd
 generalize cf (a, b) (c, d) = r at HC ⊢
 go_enter Tryz.func23, Tryz.ntmps23
 go_wp2_with fail
 (with_reducible refine (HC.out _).mono ?_)
 rintro e w1 ⟨rfl, l1⟩
 have HL1 := Lib.hid (HL.out.trans l1)
 go_wp2
 go_ret
 exact ⟨rfl, HL1.out⟩
theorem dless_trans' {x y z : Dot} (h : dless x y = true) (h2 : dless y z = true) : dless x z = true := by
 simp only [dless, decide_eq_true_eq] at *
 omega
theorem ltOf_cf (x y : Dot) : ltOf cf x y = dless x y := by
 have : ltOf cf x y = true ↔ dless x y = true := by
  unfold ltOf
  rw [decide_eq_true_iff, cf_neg]
 exact Bool.eq_iff_iff.2 this
theorem swo : SWO (ltOf cf) where
 irrefl x := by rw [ltOf_cf]; cases h : dless x x with
  | false => rfl
  | true => exact (dm.dless_irrefl x h).elim
 trans x y z h1 h2 := by rw [ltOf_cf] at *; exact dless_trans' h1 h2
 ntrans x y z h1 h2 := by
  rw [ltOf_cf] at *
  cases h : dless x z with
  | false => rfl
  | true =>
   rw [dm.dless_iff] at h
   have h3 : ¬ (x.1 < y.1 ∨ x.1 = y.1 ∧ x.2 < y.2) := fun e => by rw [(dm.dless_iff x y).2 e] at h1; cases h1
   have h4 : ¬ (y.1 < z.1 ∨ y.1 = z.1 ∧ y.2 < z.2) := fun e => by rw [(dm.dless_iff y z).2 e] at h2; cases h2
   omega
def cfE (x y : Lv) : Int := if dless x.d y.d then -1 else if dless y.d x.d then 1 else 0
theorem ltOf_cfE (x y : Lv) : ltOf cfE x y = dless x.d y.d := by
 unfold ltOf cfE
 cases h : dless x.d y.d
 ·
  cases h2 : dless y.d x.d <;> simp
 ·
  simp
theorem swoE : SWO (ltOf cfE) where
 irrefl x := by rw [ltOf_cfE]; have := swo.irrefl x.d; rwa [ltOf_cf] at this
 trans x y z h1 h2 := by
  rw [ltOf_cfE] at *
  have := swo.trans x.d y.d z.d
  rw [ltOf_cf, ltOf_cf, ltOf_cf] at this
  exact this h1 h2
 ntrans x y z h1 h2 := by
  rw [ltOf_cfE] at *
  have := swo.ntrans x.d y.d z.d
  rw [ltOf_cf, ltOf_cf, ltOf_cf] at this
  exact this h1 h2
set_option maxHeartbeats 1600000 in
set_option maxRecDepth 100000 in
theorem byd1_any (x y : Lv) (w : World) : Calls Tryz.prog 30 #[.agg #[.string x.s, .int .i64 x.d.1, .int .i64 x.d.2, .int .i64 x.t], .agg #[.string y.s, .int .i64 y.d.1, .int .i64 y.d.2, .int .i64 y.t]] w fun e w' => e = .returned (.int .i64 (cfE x y)) ∧ Lays w w' := by
 obtain ⟨w2, hw2⟩ : ∃ W, W = (w.alloc (.cells #[.string x.s, .int .i64 x.d.1, .int .i64 x.d.2, .int .i64 x.t] 43)).alloc (.cells #[.string y.s, .int .i64 y.d.1, .int .i64 y.d.2, .int .i64 y.t] 43) := ⟨_, rfl⟩
 have L2 : Lays w w2 := by rw [hw2]; exact (Lays.alloc _ _).trans (Lays.alloc _ _)
 have x1 : w2.heap[w.heap.size]? = some (.cells #[.string x.s, .int .i64 x.d.1, .int .i64 x.d.2, .int .i64 x.t] 43) := by
  rw [hw2]
  exact (below1.block _ (by simp)).trans (heap_alloc_new w _)
 have x2 : w2.heap[w.heap.size + 1]? = some (.cells #[.string y.s, .int .i64 y.d.1, .int .i64 y.d.2, .int .i64 y.t] 43) := by
  have := heap_alloc_new (w.alloc (.cells #[.string x.s, .int .i64 x.d.1, .int .i64 x.d.2, .int .i64 x.t] 43)) (.cells #[.string y.s, .int .i64 y.d.1, .int .i64 y.d.2, .int .i64 y.t] 43)
  rw [World.size_alloc] at this
  rw [hw2]; exact this
 have HL1 : Hid (∀ W, Calls Tryz.prog 23 #[.agg #[.int .i64 x.d.1, .int .i64 x.d.2], .agg #[.int .i64 y.d.1, .int .i64 y.d.2]] W fun e w' => e = .returned (.bool (dless x.d y.d)) ∧ Lays W w') := fun W => less_lays x.d y.d W
 have HL2 : Hid (∀ W, Calls Tryz.prog 23 #[.agg #[.int .i64 y.d.1, .int .i64 y.d.2], .agg #[.int .i64 x.d.1, .int .i64 x.d.2]] W fun e w' => e = .returned (.bool (dless y.d x.d)) ∧ Lays W w') := fun W => less_lays y.d x.d W
 have HLW := Lib.hid L2
 have X1 := Lib.hid x1
 have X2 := Lib.hid x2
 have HW := Lib.hid hw2
 clear L2 x1 x2 hw2
 unfold cfE
 cases h1 : dless x.d y.d
 ·
  rw [h1] at HL1
  cases h2 : dless y.d x.d
  all_goals
   rw [h2] at HL2
   clear h1 h2
   go_enter Tryz.func30, Tryz.ntmps30
   go_wp2_with fail
   rw [← HW.out]
   (with_reducible refine (HL1.out _).mono ?_)
   rintro e w3 ⟨rfl, l3⟩
   have y1 := (l3.below.block _ (lt_of_block X1.out)).trans X1.out
   have y2 := (l3.below.block _ (lt_of_block X2.out)).trans X2.out
   have a1 := boxc y1 1 _ rfl
   have a2 := boxc y1 2 _ rfl
   have b1 := boxc y2 1 _ rfl
   have b2 := boxc y2 2 _ rfl
   have HL3 := Lib.hid (HLW.out.trans l3)
   clear y1 y2 l3
   go_wp2_with fail
   (with_reducible refine (HL2.out _).mono ?_)
   rintro e w4 ⟨rfl, l4⟩
   have HL4 := Lib.hid (HL3.out.trans l4)
   clear l4
   go_wp2
   go_ret
   exact ⟨rfl, HL4.out⟩
 ·
  rw [h1] at HL1
  clear h1 HL2
  go_enter Tryz.func30, Tryz.ntmps30
  go_wp2_with fail
  rw [← HW.out]
  (with_reducible refine (HL1.out _).mono ?_)
  rintro e w3 ⟨rfl, l3⟩
  have HL3 := Lib.hid (HLW.out.trans l3)
  clear l3
  go_wp2
  go_ret
  exact ⟨rfl, HL3.out⟩
theorem sort_grown {α : Type} [Inhabited α] {w : World} {enc : α → List Value} {k g m : Nat} {d : Array α} {os : Array Obj} : w.grownBy (sortWorldK enc k w g 0 m d os) (some g) := by
 unfold sortWorldK putRowK
 refine ⟨rfl, rfl, rfl, by simp, fun i hi hne => ?_⟩
 have hne : g ≠ i := fun e => hne (by rw [e])
 rw [heap_grow_old _ _ (by simp; omega)]
 simp [putRow, mapBlock, Sort.ahead, Array.getElem?_modify, hne]
def ESortA (B q : Nat) (v : Value) (L : List Lv) (w : World) (e : Ending) (w' : World) : Prop :=
 e = .returned (.tuple #[]) ∧ ∃ L' : List Lv, L'.Perm L ∧ L'.Pairwise (fun a b => dless b.d a.d = false) ∧ w'.ownsRow B 43 4 v q (lvcells L') ∧ w.grownBy w' v.ownBlock
theorem eneedLays (blk off size : Nat) (w : World) : CmpLays Tryz.prog 30 #[] lcell 4 cfE blk off size w :=
 fun _ _ _ _ x y => byd1_any x y _
theorem esort_all (v : Value) (q B : Nat) (L : List Lv) (w : World) (hown : w.ownsRow B 43 4 v q (lvcells L)) (hq : q = L.length) (hB : B ≤ w.heap.size) (hlen : q < 4611686018427387904) :
  Calls Tryz.prog 29 #[v, .func (.func 30) #[] #[]] w (ESortA B q v L w) := by
 subst hq
 rcases hown.2 with ⟨rfl, hq0⟩ | ⟨g, cap, cur, rfl, _⟩
 ·
  have hcon := AnyF.slices_SortFunc_none Tryz.sortLive none 0 (.func (.func 30) #[] #[]) w
  change Calls Tryz.prog 29 _ _ _ at hcon
  refine hcon.mono ?_
  rintro e w' ⟨rfl, rfl⟩
  obtain rfl : L = [] := List.eq_nil_of_length_eq_zero hq0
  exact ⟨rfl, [], List.Perm.refl _, List.Pairwise.nil, hown, ⟨rfl, rfl, rfl, Nat.le_refl _, fun _ _ _ => rfl⟩⟩
 ·
  have hown' : w.ownsRow B 43 4 (.slice (some ⟨g, 0, none⟩) L.length cap) L.length (L.flatMap lcell) := hown
  obtain ⟨hH, hg, _, hafter⟩ := kit.sort_own (enc := lcell) (fun _ => rfl) (by decide) hown' rfl hB
  have eg : ∀ args w, (callFunc 30 args).run Tryz.prog w = .ok (.enter 30 args) w := enters_of Tryz.func30 (by kernel_rfl) rfl
  have hcon := AnyQ.slices_SortFunc Tryz.sortLive 4 (fun w => Tryz.isAgg43 w) (fun w => Tryz.sizeOf43 w) lcell (fun _ => rfl) (fun x v hv => by simp [lcell] at hv; rcases hv with rfl | rfl | rfl | rfl <;> rfl) cfE swoE 30 #[] g 0 cap L.toArray w eg (eneedLays g 0 L.toArray.size w) hH hg (by simpa using hlen)
  change Calls Tryz.prog 29 _ _ _ at hcon
  rw [List.size_toArray] at hcon
  refine hcon.mono ?_
  rintro e w' ⟨rfl, d', n, os, hp, hs, rfl⟩
  obtain ⟨h1, _, h2⟩ := hp
  have hsz : d'.size = L.length := by rw [h1]; simp
  obtain ⟨o1, _⟩ := hafter d' n os hsz
  refine ⟨rfl, d'.toList, ?_, ?_, o1, sort_grown⟩
  ·
   have e1 : (d'.extract 0 L.length) = d' := by rw [← hsz]; simp
   have e2 : (L.toArray.extract 0 L.length).toList = L := by simp
   rw [e1, e2] at h2
   exact h2
  ·
   rw [List.pairwise_iff_getElem]
   intro i j hi hj hij
   have hi' : i < d'.size := by simpa using hi
   have hj' : j < d'.size := by simpa using hj
   have h3 := hs i j (Nat.zero_le _) hij (by rw [← hsz]; exact hj')
   rw [ltOf_cfE, getElem!_pos d' j hj', getElem!_pos d' i hi'] at h3
   rw [Array.getElem_toList, Array.getElem_toList]
   exact h3
theorem sorted_up {L L' : List Lv} (hp : L'.Perm L) (hs : L'.Pairwise (fun a b => dless b.d a.d = false)) (hn : (L.map Lv.d).Nodup) : UpL L' := by
 have hn' : (L'.map Lv.d).Nodup := (hp.map Lv.d).nodup_iff.2 hn
 have hn2 : L'.Pairwise fun a b => a.d ≠ b.d := List.pairwise_map.1 hn'
 refine (hs.and hn2).imp fun {a b} ⟨h1, h2⟩ => ?_
 cases h : dless a.d b.d
 ·
  have h3 : ¬ (a.d.1 < b.d.1 ∨ a.d.1 = b.d.1 ∧ a.d.2 < b.d.2) := fun e => by rw [(dm.dless_iff _ _).2 e] at h; cases h
  have h4 : ¬ (b.d.1 < a.d.1 ∨ b.d.1 = a.d.1 ∧ b.d.2 < a.d.2) := fun e => by rw [(dm.dless_iff _ _).2 e] at h1; cases h1
  exact absurd (Prod.ext (by omega) (by omega)) h2
 ·
  rfl
end Go.Proofs.YtnbdcnbhejfdhaaGreat
