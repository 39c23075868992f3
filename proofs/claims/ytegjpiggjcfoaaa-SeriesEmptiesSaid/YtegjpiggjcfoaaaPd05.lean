/- texts put together: LabCanon0, LabName2, App, LabCanon. -/
import Derived.Test.YtegjpiggjcfoaaaPd00
import Derived.Test.YtegjpiggjcfoaaaPd01
import Derived.Test.YtegjpiggjcfoaaaPd04
import Derived.Lib.AppendStr
import Derived.Maps.OwnSet
namespace Go.Proofs.Ytegjpiggjcfoaaa.lm
open Go.RowKit Go.Sort Go.Maps
theorem cf_tless (x y : Lab) : ltOf lb.cf x y = tless x.1 y.1 := by
 have h : ltOf lb.cf x y = true ↔ tless x.1 y.1 = true := by
  unfold ltOf lb.cf
  rw [decide_eq_true_iff, cmp_lt, tless_iff, ByteArray.toList_eq, ByteArray.toList_eq]
 exact Bool.eq_iff_iff.2 h
theorem swo : SWO (ltOf lb.cf) where
 irrefl x := by rw [cf_tless, tless_irrefl]
 trans x y z h1 h2 := by rw [cf_tless] at *; exact tless_trans h1 h2
 ntrans x y z h1 h2 := by
  rw [cf_tless] at *
  by_cases e1 : x.1 = y.1
  ·
   rw [e1]; exact h2
  ·
   by_cases e2 : y.1 = z.1
   ·
    rw [← e2]; exact h1
   ·
    have h3 := (tless_total e1).resolve_left (by rw [h1]; exact Bool.false_ne_true)
    have h4 := (tless_total e2).resolve_left (by rw [h2]; exact Bool.false_ne_true)
    cases h : tless x.1 z.1 with
    | false => rfl
    | true => exact (tless_asymm h (tless_trans h4 h3)).elim
theorem sorted_is {l : List Lab} {d : Array Lab} (hn : (names l).Nodup) (hp : PermIn 0 l.toArray.size l.toArray d) (hs : SortedIn (ltOf lb.cf) 0 l.toArray.size d) : d.toList = sortN l := by
 obtain ⟨h1, _, h2⟩ := hp
 have e1 : (d.extract 0 l.toArray.size) = d := by rw [← h1]; simp
 have e2 : (l.toArray.extract 0 l.toArray.size).toList = l := by simp
 rw [e1, e2] at h2
 have hnd : (names d.toList).Nodup := (names_perm h2).nodup_iff.2 hn
 refine srt_unique ?_ (sortN_srt hn) (h2.trans (sortN_perm l).symm)
 unfold Srt
 rw [List.pairwise_iff_getElem]
 intro i j hi hj hij
 have hi' : i < d.size := by simpa using hi
 have hj' : j < d.size := by simpa using hj
 have h3 := hs i j (Nat.zero_le _) hij (by rw [← h1]; exact hj')
 rw [cf_tless, getElem!_pos d j hj', getElem!_pos d i hi'] at h3
 have hne : d[i].1 ≠ d[j].1 := fun e => by
  have h4 := List.pairwise_iff_getElem.1 hnd i j (by simpa [names] using hi') (by simpa [names] using hj') hij
  exact h4 (by simpa [names] using e)
 rw [Array.getElem_toList, Array.getElem_toList]
 exact (tless_total hne).resolve_right (by rw [h3]; exact Bool.false_ne_true)
def MapN (D : DataW Unit) (U : List ByteArray) : Prop := ∀ s, Maps.has D (.string s.data.toList) = decide (s ∈ U)
theorem mapN_nil : MapN (.map []) [] := fun _ => rfl
theorem mapN_put {D : DataW Unit} {U : List ByteArray} {s : ByteArray} (h : MapN D U) (hm : IsMap D) (d : DataW Unit) : MapN (D.put (.string s.data.toList) d) (U ++ [s]) := by
 intro t
 by_cases e : t = s
 ·
  subst e
  rw [has_put_same hm (by trivial)]
  simp
 ·
  rw [has_put_other (fun e2 => e (ByteArray.ext (Array.ext' (by simpa using e2)))), h t]
  simp [e]
end Go.Proofs.Ytegjpiggjcfoaaa.lm
namespace Go.Proofs.Ytegjpiggjcfoaaa
open Go.RowKit Go.ChangeShapes Go.Maps Go.WideMaps
theorem two {w w2 : World} {x y : Value} {t : TypeId} (hb : Below (w.alloc (.cells #[x, y] t)).heap.size (w.alloc (.cells #[x, y] t)) w2) :
  w2.cell? ⟨w.heap.size, 0, none⟩ = some x ∧ w2.cell? ⟨w.heap.size, 1, none⟩ = some y ∧ w2.frozen? ⟨w.heap.size, 0, none⟩ = false ∧ w2.frozen? ⟨w.heap.size, 1, none⟩ = false ∧ w.heap.size < w2.heap.size := by
 have hs : w.heap.size < (w.alloc (.cells #[x, y] t)).heap.size := by simp
 have c : ∀ (k : Nat) (u : Value), (#[x, y] : Array Value)[k]? = some u → w2.cell? ⟨w.heap.size, k, none⟩ = some u := fun k u hu =>
  (hb.cell (p := ⟨w.heap.size, k, none⟩) hs).trans (by rw [World.cell?_alloc_at _ _ _ _ rfl]; exact hu)
 have f : ∀ k : Nat, w2.frozen? ⟨w.heap.size, k, none⟩ = false := fun k => (hb.frozen (p := ⟨w.heap.size, k, none⟩) hs).trans (World.frozen?_alloc_at _ _ _ _ rfl)
 exact ⟨c 0 x rfl, c 1 y rfl, f 0, f 1, by have := hb.size; simp at this; omega⟩
theorem mlaw : Keyed Try.prog 9 := string_keyed Try.underlying9
theorem zeroI (w : World) : (zeroValue 3).run Try.prog w = .ok (.int .i64 0) w := by kernel_rfl
theorem look_ok {H : Type} {P : Program} {w : World} {ops : Array Oper} {rest : List Oper} {o : Oper} {a : Act} {Q : Exit → Act → World → Prop} (hg : o.guard = none) (m x : Operand) (t : TypeId) (hop : o.op = Op.lookup t m x true)
  (k e : TypeId) (q : IntKind) (K : Keyed P k) (ht : P.underlying t = some (.map k e)) (he : P.underlying e = some (.int q)) (hz : (zeroValue e).run P w = .ok (.int q 0) w) (b n : Nat) (D : DataW H)
  (hm : a.eval m = .map (some b)) (hown : w.ownsMap P k (plainElem P e) b n D) (key : Value) (kl : Lit) (hx : a.eval x = key) (hkey : keyOf P k key = some kl) (r : Bool) (hr : Maps.has D kl = r)
  (hK : ∀ c : Int, wpList P ops Q rest (a.put o.dst (.tuple #[.int q c, .bool r])) w) : wpList P ops Q (o :: rest) a w :=
 wpList_lookup_own_ok_int w hg m x t hop k e q K ht he hz b n D hm hown key kl hx hkey fun c _ _ => hr ▸ hK c
theorem infoLab : (Try.prog.info? 47).map (fun i => (i.zero, i.size, i.bytes)) = some (some (.agg #[.string ⟨#[]⟩, .string ⟨#[]⟩]), 2, 32) := by kernel_rfl
def CanonP (r : Int × List Lab) (w : World) (e : Ending) (w' : World) : Prop := ∃ v, e = .returned (.tuple #[v, .int .i64 r.1]) ∧ Labs w' w'.heap.size v r.2 ∧ Below w.heap.size w w'
theorem lcells_app (a b : List Lab) : lcells (a ++ b) = lcells a ++ lcells b := by simp [lcells]
theorem own_form {w : World} {B n k : Nat} {e : TypeId} {v : Value} {xs : List Value} (h : w.ownsRow B e k v n xs) : (v = .slice none 0 0 ∧ n = 0) ∨ ∃ g cap, v = .slice (some ⟨g, 0, none⟩) n cap ∧ B ≤ g := by
 rcases h.2 with ⟨rfl, hx⟩ | ⟨g, cap, cur, rfl, hbg, _⟩
 ·
  exact Or.inl ⟨rfl, hx⟩
 ·
  exact Or.inr ⟨g, cap, rfl, hbg⟩
end Go.Proofs.Ytegjpiggjcfoaaa
namespace Go.Proofs.Ytegjpiggjcfoaaa
open Go.RowKit Go.ChangeShapes
set_option maxHeartbeats 1600000 in
set_option maxRecDepth 100000 in
theorem isval_any (s : ByteArray) (w : World) (hs : s.size ≤ maxLen) :
  Calls Try.prog 42 #[.string s] w (Said (lb.isVal s) w) := by
 unfold maxLen at hs
 have HE : Hid (lb.isVal s = decide (s.size ≤ 32 ∧ lb.VlOk s s.size)) := rfl
 obtain ⟨R, hR⟩ : ∃ R, R = lb.isVal s := ⟨_, rfl⟩
 rw [← hR] at HE ⊢
 clear hR
 by_cases h2 : 32 < s.size
 ·
  have HR : Hid (R = false) := by show _ = _; rw [HE.out]; exact decide_eq_false (fun h => by omega)
  have h2I : (32 : Int) < (s.size : Int) := by omega
  go_enter Try.func42, Try.ntmps42
  go_wp2
  go_ret
  rw [HR.out]; exact ⟨rfl, Below.refl _ _⟩
 have h2I : ¬ (32 : Int) < (s.size : Int) := by omega
 go_enter Try.func42, Try.ntmps42
 go_wp2
 go_loop [3, 9] (fun _ i => ∃ k : Nat, k ≤ s.size ∧ i = .int .i64 k ∧ Hid (lb.VlOk s k)) (fun _ i => s.size - (intOf i).toNat)
 case atStart => exact ⟨0, Nat.zero_le _, rfl, fun i hi => absurd hi (Nat.not_lt_zero _)⟩
 case round =>
  obtain ⟨k, hk, rfl, HV⟩ := hrel
  by_cases hlt : k < s.size
  ·
   have HBT := Lib.hid (lb.byte_at s k hlt)
   have hkI : (k : Int) < (s.size : Int) := by omega
   by_cases hv : 32 ≤ (s[k]'hlt).toNat ∧ (s[k]'hlt).toNat ≤ 126
   ·
    obtain ⟨hv1, hv2⟩ := hv
    have HG : Hid (lb.VlOk s (k + 1)) := lb.vl_succ HV.out (by rw [HBT.out]; exact ⟨hv1, hv2⟩)
    have g1 : ¬ ((s[k]'hlt).toNat : Int) < 32 := by omega
    have g2 : ¬ (126 : Int) < ((s[k]'hlt).toNat : Int) := by omega
    have g3 : ¬ (s[k]'hlt).toNat < 32 := by omega
    have g4 : ¬ 126 < (s[k]'hlt).toNat := by omega
    go_wp2
    go_round
    case rel => exact ⟨k + 1, by omega, by go_num, HG⟩
    case measure => simp [intOf]; omega
   ·
    have HR : Hid (R = false) := by
     show _ = _
     rw [HE.out]
     refine decide_eq_false (fun h => hv ?_)
     have := h.2 k hlt
     rw [HBT.out] at this; exact this
    by_cases h3 : (s[k]'hlt).toNat < 32
    ·
     have g1 : ((s[k]'hlt).toNat : Int) < 32 := by omega
     clear hv
     go_wp2
     go_ret
     rw [HR.out]; exact ⟨rfl, Below.refl _ _⟩
    ·
     have g1 : ¬ ((s[k]'hlt).toNat : Int) < 32 := by omega
     have g2 : (126 : Int) < ((s[k]'hlt).toNat : Int) := by omega
     have g4 : 126 < (s[k]'hlt).toNat := by omega
     clear hv
     go_wp2
     go_ret
     rw [HR.out]; exact ⟨rfl, Below.refl _ _⟩
  ·
   obtain rfl : k = s.size := by omega
   have HR : Hid (R = true) := by show _ = _; rw [HE.out]; exact decide_eq_true ⟨by omega, HV.out⟩
   go_wp2
   go_ret
   rw [HR.out]; exact ⟨rfl, Below.refl _ _⟩
end Go.Proofs.Ytegjpiggjcfoaaa
namespace Go.Proofs.Ytegjpiggjcfoaaa
open Go.RowKit Go.ChangeShapes
theorem own_stay {B : Nat} {e : TypeId} {k : Nat} {v : Value} {n : Nat} {xs : List Value} {w w' : World} (h : w.ownsRow B e k v n xs) (hb : Below w.heap.size w w') : w'.ownsRow B e k v n xs :=
 h.kept (row := none) ⟨hb.os, hb.tape, hb.output, hb.size, fun i hi _ => hb.block i hi⟩ (by cases v.ownBlock <;> simp)
theorem app1g {P : Program} {w : World} {ops : Array Oper} {rest : List Oper} {o : Oper} {a : Act} {Q : Exit → Act → World → Prop} {cs : Array Value} {e' : TypeId}
  (s x : Operand) (t : TypeId) (hgd : o.guard = none)
  (ho : o.op = .call { callee := .builtin .append, args := #[s, x], argTypes := #[t, t] })
  (base : Nat) {e : TypeId} {z : Value} {size bytes : Nat} (ht : P.underlying t = some (.slice e)) (hi : (P.info? e).map (fun i => (i.zero, i.size, i.bytes)) = some (some z, size, bytes))
  (hzs : z.cells.size = size) (hsz : 0 < size) (hb1 : 0 < bytes)
  {v : Value} {n : Nat} {xs : List Value} {c : Nat} (hown : w.ownsRow base e size v n xs) (hs : a.eval s = v) (hx : a.eval x = .slice (some ⟨w.heap.size, 0, none⟩) 1 c)
  (hcs : cs.size = size) (h1 : ∀ u ∈ cs.toList, u.oneCell' = true) (hbytes : (n + 1) * bytes ≤ 140737488355328) (hbase : base ≤ w.heap.size)
  (h : ∀ v' w', w'.ownsRow base e size v' (n + 1) (xs ++ cs.toList) → (w.alloc (.cells cs e')).grownBy w' v.ownBlock → wpList P ops Q rest (a.put o.dst v') w') :
  wpList P ops Q (o :: rest) a (w.alloc (.cells cs e')) := by
 obtain ⟨i, hi, hz, hsize, hby⟩ := info_parts hi
 have hle : n + 1 ≤ (n + 1) * bytes := Nat.le_mul_of_pos_right _ hb1
 refine wpList_append_own _ hgd s x t ho base e i z size bytes ht hi hz hsize hby hzs hsz v n xs hs (hown.alloc _) ⟨w.heap.size, 0, none⟩ 1 c cs.toList hx (by simp [hcs]) ?_ h1
  (by unfold maxLen; omega) hbytes (by simp; omega) fun v' w' r1 r2 _ => h v' w' r1 r2
 intro j u hj
 rw [Array.getElem?_toList] at hj
 rw [Addr.add_lit, Nat.zero_add, World.cell?_alloc_at _ _ _ _ rfl]
 exact hj
theorem strCells_str {l : List Nat} (h : ∀ x ∈ l, x < 256) : Lib.strCells (kit.str l) = kit.u8s l := by
 simp only [Lib.strCells, kit.str, kit.u8s, List.map_map]
 refine List.map_congr_left fun x hx => ?_
 have := h x hx
 simp [Nat.mod_eq_of_lt this]
theorem appS {P : Program} {w : World} {ops : Array Oper} {rest : List Oper} {o : Oper} {a : Act} {Q : Exit → Act → World → Prop}
  (s x : Operand) (t u : TypeId) (hgd : o.guard = none) (ho : o.op = .call { callee := .builtin .append, args := #[s, x], argTypes := #[t, u] })
  (base : Nat) {e : TypeId} (ht : P.underlying t = some (.slice e)) (hu : P.underlying u = some .string) (hi : (P.info? e).map (fun i => (i.zero, i.size, i.bytes)) = some (some (.int .u8 0), 1, 1))
  {v : Value} {l m : List Nat} (hown : w.ownsRow base e 1 v l.length (kit.u8s l)) (hs : a.eval s = v) (hx : a.eval x = .string (kit.str m)) (hm : ∀ y ∈ m, y < 256)
  (hlen : l.length + m.length ≤ 140737488355328) (hbase : base ≤ w.heap.size)
  (h : ∀ v' w', w'.ownsRow base e 1 v' (l ++ m).length (kit.u8s (l ++ m)) → w.grownBy w' v.ownBlock → wpList P ops Q rest (a.put o.dst v') w') :
  wpList P ops Q (o :: rest) a w := by
 obtain ⟨i, hi, hz, hsize, hby⟩ := info_parts hi
 refine Lib.wpList_append_own_string _ hgd s x t u ho base e i ht hu hi hz hsize hby v l.length _ hs hown (kit.str m) hx (by rw [kit.str_size]; unfold maxLen; omega) (by rw [kit.str_size]; omega) hbase fun v' w' r1 r2 _ => h v' w' ?_ r2
 rw [kit.str_size, strCells_str hm] at r1
 rw [List.length_append, kit.u8s_app]
 exact r1
theorem grown_below {w w' : World} {B k n : Nat} {e : TypeId} {v : Value} {xs : List Value} (ho : w.ownsRow B e k v n xs) (hB : B ≤ w.heap.size) (hg : w.grownBy w' v.ownBlock) : Below B w w' :=
 (Below.refl B w).grown hg hB (fun k hk => (ho.lt k hk).1)
end Go.Proofs.Ytegjpiggjcfoaaa
namespace Go.Proofs.Ytegjpiggjcfoaaa.lm
theorem canon_fault {l : List Lab} {f : Int} (h : faults [] l = f) (hf : f ≠ 0) : canonF l = (f, []) := by
 unfold canonF
 rw [h, if_neg hf]
theorem take_snoc {l : List Lab} {k : Nat} {x : Lab} (hk : k < l.length) (hx : x = l.getD k (.empty, .empty)) : l.take (k + 1) = l.take k ++ [x] := by
 rw [List.take_succ_eq_append_getElem hk, hx]
 simp [List.getD, hk]
theorem faults_step {l : List Lab} {k : Nat} {x : Lab} (hk : k < l.length) (hx : x = l.getD k (.empty, .empty)) : faults (l.take k) (l.drop k) = if fault (l.take k) x = 0 then faults (l.take (k + 1)) (l.drop (k + 1)) else fault (l.take k) x := by
 have e : l[k] = x := by rw [hx]; simp [List.getD, hk]
 rw [List.drop_eq_getElem_cons hk, take_snoc hk hx, e]
 rfl
theorem good_step {l : List Lab} {k : Nat} {x : Lab} (hk : k < l.length) (hx : x = l.getD k (.empty, .empty)) (hg : Good (l.take k)) (hf : fault (l.take k) x = 0) : Good (l.take (k + 1)) := by
 rw [take_snoc hk hx]
 refine (faults_zero [x] (l.take k) hg).1 ?_
 unfold faults
 rw [if_pos hf]; rfl
theorem kept_step {l : List Lab} {k : Nat} {x : Lab} (hk : k < l.length) (hx : x = l.getD k (.empty, .empty)) : kept (l.take (k + 1)) = if x.2 = .empty then kept (l.take k) else kept (l.take k) ++ [x] := by
 rw [take_snoc hk hx, kept_app, kept_one]
 split <;> simp
theorem names_step {l : List Lab} {k : Nat} {x : Lab} (hk : k < l.length) (hx : x = l.getD k (.empty, .empty)) : names (l.take (k + 1)) = names (l.take k) ++ [x.1] := by
 rw [take_snoc hk hx, names_app]; rfl
end Go.Proofs.Ytegjpiggjcfoaaa.lm
namespace Go.Proofs.Ytegjpiggjcfoaaa
open Go.RowKit Go.ChangeShapes Go.Maps Go.WideMaps cl Go.Sort
theorem grown_of {W W' : World} (hb : Below W.heap.size W W') : W.grownBy W' none := ⟨hb.os, hb.tape, hb.output, hb.size, fun i hi _ => hb.block i hi⟩
theorem grown_cell {w w' : World} {row : Option Nat} (hg : w.grownBy w' row) {p : Addr} (hp : p.block < w.heap.size) (hne : some p.block ≠ row) : w'.cell? p = w.cell? p :=
 World.cell?_of_block (hg.block p.block hp hne)
def SortP (g cap q B : Nat) (L : List Lab) (w : World) (e : Ending) (w' : World) : Prop := e = .returned (.tuple #[]) ∧ w'.ownsRow B 47 2 (.slice (some ⟨g, 0, none⟩) q cap) q (lcells L) ∧ Below B w w'
theorem sort_any (g cap q B : Nat) (L : List Lab) (w : World) (hown : w.ownsRow B 47 2 (.slice (some ⟨g, 0, none⟩) q cap) q (lcells L)) (hq : q = L.length) (h6 : q ≤ 12) (hn : (lm.names L).Nodup) (hB : B ≤ w.heap.size) :
  Calls Try.prog 43 #[.slice (some ⟨g, 0, none⟩) q cap, .func (.func 44) #[] #[]] w (SortP g cap q B (lm.sortN L) w) := by
 subst hq
 have hown' : w.ownsRow B 47 2 (.slice (some ⟨g, 0, none⟩) L.length cap) L.length (L.flatMap lb.enc) := hown
 obtain ⟨hH, hg, _, hafter⟩ := kit.sort_own (enc := lb.enc) (fun _ => rfl) (by decide) hown' rfl hB
 have hcon := lb.sortFunc g 0 cap L.toArray w hH hg (by simpa using h6)
 rw [List.size_toArray] at hcon
 refine hcon.mono ?_
 rintro e w' ⟨rfl, n, os, rfl⟩
 have hins := insertionSort_holds (lt := ltOf lb.cf) lm.swo L.toArray 0 L.length (Nat.zero_le _) (by simp)
 have hsz : (Sort.insertionSort (ltOf lb.cf) L.toArray 0 L.length).size = L.length := by rw [hins.1.1]; simp
 obtain ⟨h1, h2⟩ := hafter _ n os hsz
 rw [lm.sorted_is hn (by rw [List.size_toArray]; exact hins.1) (by rw [List.size_toArray]; exact hins.2)] at h1
 exact ⟨rfl, h1, h2⟩
theorem lcells_two {xa xb : ByteArray} : ∀ u ∈ (#[.string xa, .string xb] : Array Value).toList, u.oneCell' = true := by
 intro u hu
 simp only [List.mem_cons, List.not_mem_nil, or_false] at hu
 rcases hu with rfl | rfl <;> rfl
theorem ret8 {R : Int × List Lab} {f : Int} {w W : World} (h : R = (f, [])) (hb : Below w.heap.size w W) : CanonP R w (.returned (.tuple #[.slice none 0 0, .int .i64 f])) W := by
 rw [h]
 exact ⟨_, rfl, Cells.nil _ _ _, hb⟩
set_option maxHeartbeats 6400000 in
set_option maxRecDepth 100000 in
theorem canon_any (l : List Lab) (v : Value) (w : World) (h : Labs w w.heap.size v l) (hs : ∀ x ∈ l, x.1.size ≤ maxLen ∧ x.2.size ≤ maxLen) (hl6 : l.length ≤ 100000) :
  Calls Try.prog 31 #[v] w (CanonP (lm.canonF l) w) := by
 have hmm := @run_makeMap Try.prog
 obtain ⟨R, hR⟩ : ∃ R, R = lm.canonF l := ⟨_, rfl⟩
 rw [← hR]
 have HR := Lib.hid hR
 obtain ⟨n, hn⟩ : ∃ n, n = l.length := ⟨_, rfl⟩
 obtain ⟨ao, cap, rfl⟩ : ∃ ao cap, v = .slice ao n cap := by
  obtain ⟨ao, cap, e, _⟩ := h.form
  exact ⟨ao, cap, by rw [hn]; exact e⟩
 have HC := Lib.hid h
 have HN := Lib.hid hn
 have HS := Lib.hid hs
 have hn63 : n ≤ 100000 := by omega
 have HNM : Hid (∀ (s : ByteArray) (W : World), s.size ≤ maxLen → Calls Try.prog 41 #[.string s] W (Said (lb.isName s) W)) := fun s W h => isname_any s W h
 have HVL : Hid (∀ (s : ByteArray) (W : World), s.size ≤ maxLen → Calls Try.prog 42 #[.string s] W (Said (lb.isVal s) W)) := fun s W h => isval_any s W h
 have hA : Below w.heap.size w (w.alloc (.map #[] 0)) := (Below.refl _ _).alloc (Nat.le_refl _) _
 obtain ⟨i0, hi, hz0, hz1, hz2⟩ := info_parts infoLab
 clear h hn hs hR hl6
 go_enter Try.func31, Try.ntmps31
 go_wp2
 go_step3
 go_wp2
 go_step3
 go_wp2
 go_loopw [5, 6, 7, 8, 9, 13] (fun o _ _ _ _ i wr => ∃ (k : Nat) (D : DataW Unit) (q : Nat) (oa : Option Addr) (oc : Nat), o = .slice oa q oc ∧ i = .int .i64 k ∧ k ≤ n ∧ q ≤ 6 ∧ Hid (lm.faults [] l = lm.faults (l.take k) (l.drop k)) ∧ Hid (lm.Good (l.take k)) ∧ Hid (lm.MapN D (lm.names (l.take k))) ∧ Hid (wr.ownsMap Try.prog 9 (plainElem Try.prog 3) w.heap.size k D) ∧ Hid (q = (lm.kept (l.take k)).length) ∧ Hid (wr.ownsRow (w.heap.size + 1) 47 2 (.slice oa q oc) q (lcells (lm.kept (l.take k)))) ∧ Below w.heap.size w wr ∧ w.heap.size + 1 ≤ wr.heap.size) (fun _ _ _ _ _ i _ => n - (intOf i).toNat)
 case atStart =>
  refine ⟨0, .map [], 0, none, 0, rfl, rfl, by omega, by omega, rfl, lm.good_nil, lm.mapN_nil, ?_, rfl, ?_, hA, by rw [World.size_alloc]; exact Nat.le_refl _⟩
  ·
   exact World.ownsMap_made (H := Unit) w (P := Try.prog) (k := 9) (plainElem Try.prog 3)
  ·
   exact ⟨rfl, Or.inl ⟨rfl, rfl⟩⟩
 case round =>
  obtain ⟨k, D, q, oa, oc, rfl, rfl, hk, hq6, HF, HG, HM, HO, HQ, HW, hb0, hz⟩ := hrel
  by_cases hlt : k < n
  ·
   obtain ⟨b, off, rfl, hB, p0, p1⟩ := HC.out.get HN.out hlt
   have HKL : Hid (k < l.length) := by show k < l.length; rw [← HN.out]; exact hlt
   have hsz := HS.out (l.getD k (.empty, .empty)) (by have := HKL.out; simp [List.getD, this])
   obtain ⟨⟨xa, xb⟩, hx⟩ : ∃ x, x = l.getD k (.empty, .empty) := ⟨_, rfl⟩
   rw [← hx] at p0 p1 hsz
   simp only at p0 p1 hsz
   have HX := Lib.hid hx
   have e0 := (hb0.cell (p := ⟨b, off + k * 2, none⟩) hB).trans p0
   have e1 := (hb0.cell (p := ⟨b, off + k * 2 + 1, none⟩) hB).trans p1
   have HSA := Lib.hid hsz.1
   have HSB := Lib.hid hsz.2
   have hkI : (k : Int) < (n : Int) := by omega
   have HST : Hid (lm.faults (l.take k) (l.drop k) = if lm.fault (l.take k) (xa, xb) = 0 then lm.faults (l.take (k + 1)) (l.drop (k + 1)) else lm.fault (l.take k) (xa, xb)) := lm.faults_step HKL.out HX.out
   have HBAD : Hid (∀ f : Int, f ≠ 0 → lm.fault (l.take k) (xa, xb) = f → R = (f, [])) := fun f hf he => by
    rw [HR.out]
    refine lm.canon_fault ?_ hf
    rw [HF.out, HST.out, he, if_neg hf]
   have hbx : Below w.heap.size w (wr.alloc (.cells #[.string xa, .string xb] 47)) := hb0.alloc (by omega) _
   have HOX := Lib.hid (HO.out.alloc (.cells #[.string xa, .string xb] 47))
   have HWX := Lib.hid (HW.out.alloc (.cells #[.string xa, .string xb] 47))
   have HN1 := Lib.hid (HNM.out xa (wr.alloc (.cells #[.string xa, .string xb] 47)) HSA.out)
   clear p0 p1 hx hsz
   by_cases hnm : lb.isName xa = true
   rotate_left
   ·
    have hnmf : lb.isName xa = false := by simpa using hnm
    have HB8 : Hid (R = (8, [])) := HBAD.out 8 (by decide) (by unfold lm.fault lm.good; rw [hnmf]; rfl)
    rw [hnmf] at HN1
    clear hnm hnmf
    go_wp2_with fail
    (with_reducible refine HN1.out.mono ?_)
    rintro e w1 ⟨rfl, hb1⟩
    have HRET := Lib.hid (ret8 HB8.out (hbx.trans (hb1.mono (by simp; omega))))
    go_wp2
    exact bodyPost_ret (v := .tuple #[.slice none 0 0, .int .i64 8]) (by simp [results, Try.results31, go_sem]) rfl HRET.out
   rw [hnm] at HN1
   go_wp2_with fail
   (with_reducible refine HN1.out.mono ?_)
   rintro e w1 ⟨rfl, hb1⟩
   obtain ⟨c0, c1, _, _, hz1'⟩ := two hb1
   have hbx2 := hbx.trans (hb1.mono (by simp; omega))
   have hz2' : w.heap.size + 1 ≤ w1.heap.size := by omega
   have HV1 := Lib.hid (HVL.out xb w1 HSB.out)
   have HO1 := Lib.hid (HOX.out.kept (row := none) (grown_of hb1) (fun e => by cases e))
   have HW1 := Lib.hid (own_stay HWX.out hb1)
   clear HN1
   by_cases hvl : lb.isVal xb = true
   rotate_left
   ·
    have hvlf : lb.isVal xb = false := by simpa using hvl
    have HB8 : Hid (R = (8, [])) := HBAD.out 8 (by decide) (by unfold lm.fault lm.good; rw [hvlf, Bool.and_false]; rfl)
    rw [hvlf] at HV1
    clear hvl hvlf
    go_wp2_with fail
    (with_reducible refine HV1.out.mono ?_)
    rintro e w2 ⟨rfl, hb2⟩
    have HRET := Lib.hid (ret8 HB8.out (hbx2.trans (hb2.mono (by omega))))
    go_wp2
    exact bodyPost_ret (v := .tuple #[.slice none 0 0, .int .i64 8]) (by simp [results, Try.results31, go_sem]) rfl HRET.out
   rw [hvl] at HV1
   have HGD : Hid (lm.good (xa, xb) = true) := by show (_ && _) = true; rw [hnm, hvl]; rfl
   go_wp2_with fail
   (with_reducible refine HV1.out.mono ?_)
   rintro e w2 ⟨rfl, hb2⟩
   have d0 := (hb2.cell (p := ⟨wr.heap.size, 0, none⟩) hz1').trans c0
   have d1 := (hb2.cell (p := ⟨wr.heap.size, 1, none⟩) hz1').trans c1
   have hz3 : wr.heap.size < w2.heap.size := by have := hb2.size; omega
   have hbx3 := hbx2.trans (hb2.mono (by omega))
   have HO2 := Lib.hid (HO1.out.kept (row := none) (grown_of hb2) (fun e => by cases e))
   have HW2 := Lib.hid (own_stay HW1.out hb2)
   have HKEY := Lib.hid (keyOf_string_mk (s := xa) Try.underlying9 HSA.out)
   have HHAS := Lib.hid (HM.out xa)
   clear HV1 c0 c1 hvl hnm
   by_cases hin : xa ∈ lm.names (l.take k)
   ·
    have HB8 : Hid (R = (8, [])) := HBAD.out 8 (by decide) (by unfold lm.fault; rw [if_neg (by rw [HGD.out]; decide), if_pos hin])
    have HRET := Lib.hid (ret8 HB8.out hbx3)
    have HH : Hid (Maps.has D (.string xa.data.toList) = true) := by show _ = _; rw [HHAS.out]; exact decide_eq_true hin
    clear hin
    go_wp2_with (at_lookup; refine look_ok rfl _ _ 64 rfl 9 3 .i64 mlaw Try.underlying64 Try.underlying3 (zeroI _) w.heap.size k D rfl HO2.out _ _ rfl HKEY.out true HH.out ?_; intro cv)
    exact bodyPost_ret (v := .tuple #[.slice none 0 0, .int .i64 8]) (by simp [results, Try.results31, go_sem]) rfl HRET.out
   have HH : Hid (Maps.has D (.string xa.data.toList) = false) := by show _ = _; rw [HHAS.out]; exact decide_eq_false hin
   have HNI := Lib.hid hin
   have HMP : Hid (lm.MapN (D.put (.string xa.data.toList) (.lit (.int .i64 k))) (lm.names (l.take (k + 1)))) := by
    show lm.MapN _ _
    rw [lm.names_step HKL.out HX.out]
    exact lm.mapN_put HM.out (HO2.out.isMap) _
   clear hin
   have HFZ : Hid ((xb = .empty ∨ (lm.kept (l.take k)).length ≠ 6) → lm.fault (l.take k) (xa, xb) = 0) := fun h => lm.fault_zero.2 ⟨HGD.out, HNI.out, h⟩
   by_cases he : xb = .empty
   ·
    subst he
    have hF0 := HFZ.out (Or.inl rfl)
    have HF2 : Hid (lm.faults [] l = lm.faults (l.take (k + 1)) (l.drop (k + 1))) := by show _ = _; rw [HF.out, HST.out, if_pos hF0]
    have HG2 : Hid (lm.Good (l.take (k + 1))) := lm.good_step HKL.out HX.out HG.out hF0
    have HK2 : Hid (lm.kept (l.take (k + 1)) = lm.kept (l.take k)) := by show _ = _; rw [lm.kept_step HKL.out HX.out, if_pos rfl]
    clear hF0
    go_wp2_with (first | (at_lookup; refine look_ok rfl _ _ 64 rfl 9 3 .i64 mlaw Try.underlying64 Try.underlying3 (zeroI _) w.heap.size k D rfl HO2.out _ _ rfl HKEY.out false HH.out ?_; intro cv) | (at_mapUpdate; refine wpList_mapUpdate_own _ rfl _ _ _ 64 rfl 9 3 mlaw Try.underlying64 _ w.heap.size k _ rfl HO2.out (by unfold maxLen; omega) _ _ _ rfl rfl HKEY.out _ [] (plainElem_int Try.underlying3 (WalkArith.wf_i64 (by omega))) ?_; intro w3 hown3 hgrow3; have d0' := (grown_cell hgrow3 (p := ⟨wr.heap.size, 0, none⟩) hz3 (fun e => by have := Option.some.inj e; simp at this; omega)).trans d0; have d1' := (grown_cell hgrow3 (p := ⟨wr.heap.size, 1, none⟩) hz3 (fun e => by have := Option.some.inj e; simp at this; omega)).trans d1; have hz4 : wr.heap.size < w3.heap.size := Nat.lt_of_lt_of_le hz3 hgrow3.size; have hbx4 := hbx3.grown hgrow3 (by omega) (fun j hj => by cases hj; exact Nat.le_refl _); have HM3 := Lib.hid (And.intro hown3 hgrow3); clear hown3 hgrow3))
    have HM4 := Lib.hid HM3.out.1
    have HW4 : Hid (w3.ownsRow (w.heap.size + 1) 47 2 (.slice oa q oc) q (lcells (lm.kept (l.take k)))) := HW2.out.kept HM3.out.2 (Or.inr (fun e => row_ne_low HW2.out (Nat.lt_succ_self _) e.symm))
    go_roundw
    case rel => exact ⟨k + 1, _, q, oa, oc, rfl, by go_num, by omega, hq6, HF2.out, HG2.out, HMP.out, HM4.out, by show q = _; rw [HK2.out]; exact HQ.out, by show World.ownsRow _ _ _ _ _ _ _; rw [HK2.out]; exact HW4.out, hbx4, by omega⟩
    case measure => simp [intOf]; omega
   obtain ⟨hs1, hs2, hs3⟩ : xb.toList.isEmpty = false ∧ ¬ xb.toList = [] ∧ ¬ xb = ByteArray.empty := kit.ne_empty (Nat.pos_of_ne_zero fun e => he (ByteArray.ext (Array.eq_empty_of_size_eq_zero e)))
   by_cases h6 : q = 6
   ·
    have HB4 : Hid (R = (4, [])) := HBAD.out 4 (by decide) (by unfold lm.fault; rw [if_neg (by rw [HGD.out]; decide), if_neg HNI.out, if_neg he, if_pos (by rw [← HQ.out]; exact h6)])
    have HRB := Lib.hid (fun (W : World) (hb : Below w.heap.size w W) => ret8 HB4.out hb)
    subst h6
    go_wp2_with (first | (at_lookup; refine look_ok rfl _ _ 64 rfl 9 3 .i64 mlaw Try.underlying64 Try.underlying3 (zeroI _) w.heap.size k D rfl HO2.out _ _ rfl HKEY.out false HH.out ?_; intro cv) | (at_mapUpdate; refine wpList_mapUpdate_own _ rfl _ _ _ 64 rfl 9 3 mlaw Try.underlying64 _ w.heap.size k _ rfl HO2.out (by unfold maxLen; omega) _ _ _ rfl rfl HKEY.out _ [] (plainElem_int Try.underlying3 (WalkArith.wf_i64 (by omega))) ?_; intro w3 hown3 hgrow3; have d0' := (grown_cell hgrow3 (p := ⟨wr.heap.size, 0, none⟩) hz3 (fun e => by have := Option.some.inj e; simp at this; omega)).trans d0; have d1' := (grown_cell hgrow3 (p := ⟨wr.heap.size, 1, none⟩) hz3 (fun e => by have := Option.some.inj e; simp at this; omega)).trans d1; have hz4 : wr.heap.size < w3.heap.size := Nat.lt_of_lt_of_le hz3 hgrow3.size; have hbx4 := hbx3.grown hgrow3 (by omega) (fun j hj => by cases hj; exact Nat.le_refl _); have HM3 := Lib.hid (And.intro hown3 hgrow3); clear hown3 hgrow3))
    exact bodyPost_ret (v := .tuple #[.slice none 0 0, .int .i64 4]) (by simp [results, Try.results31, go_sem]) rfl (HRB.out _ hbx4)
   have hF0 := HFZ.out (Or.inr (by rw [← HQ.out]; exact h6))
   have HF2 : Hid (lm.faults [] l = lm.faults (l.take (k + 1)) (l.drop (k + 1))) := by show _ = _; rw [HF.out, HST.out, if_pos hF0]
   have HG2 : Hid (lm.Good (l.take (k + 1))) := lm.good_step HKL.out HX.out HG.out hF0
   have HK2 : Hid (lm.kept (l.take (k + 1)) = lm.kept (l.take k) ++ [(xa, xb)]) := by show _ = _; rw [lm.kept_step HKL.out HX.out, if_neg he]
   have HQ2 : Hid (q + 1 = (lm.kept (l.take (k + 1))).length) := by show _ = _; rw [HK2.out, List.length_append, ← HQ.out]; rfl
   have HL2 : Hid (lcells (lm.kept (l.take (k + 1))) = lcells (lm.kept (l.take k)) ++ [.string xa, .string xb]) := by show _ = _; rw [HK2.out, lcells_app]; rfl
   have h6b : ((q : Int) == 6) = false := by simp; omega
   have h6c : ¬ (q : Int) = 6 := by omega
   have hq5 : q ≤ 5 := by omega
   have HWA : Hid (∀ (W : World), Hid (W.ownsMap Try.prog 9 (plainElem Try.prog 3) w.heap.size (k + 1) (D.put (.string xa.data.toList) (.lit (.int .i64 k))) ∧ w2.grownBy W (some w.heap.size)) → W.ownsRow (w.heap.size + 1) 47 2 (.slice oa q oc) q (lcells (lm.kept (l.take k)))) := fun W hW => HW2.out.kept hW.out.2 (Or.inr (fun e => row_ne_low HW2.out (Nat.lt_succ_self _) e.symm))
   clear hF0 he h6
   go_wp2_with (first | (at_lookup; refine look_ok rfl _ _ 64 rfl 9 3 .i64 mlaw Try.underlying64 Try.underlying3 (zeroI _) w.heap.size k D rfl HO2.out _ _ rfl HKEY.out false HH.out ?_; intro cv) | (at_mapUpdate; refine wpList_mapUpdate_own _ rfl _ _ _ 64 rfl 9 3 mlaw Try.underlying64 _ w.heap.size k _ rfl HO2.out (by unfold maxLen; omega) _ _ _ rfl rfl HKEY.out _ [] (plainElem_int Try.underlying3 (WalkArith.wf_i64 (by omega))) ?_; intro w3 hown3 hgrow3; have d0' := (grown_cell hgrow3 (p := ⟨wr.heap.size, 0, none⟩) hz3 (fun e => by have := Option.some.inj e; simp at this; omega)).trans d0; have d1' := (grown_cell hgrow3 (p := ⟨wr.heap.size, 1, none⟩) hz3 (fun e => by have := Option.some.inj e; simp at this; omega)).trans d1; have hz4 : wr.heap.size < w3.heap.size := Nat.lt_of_lt_of_le hz3 hgrow3.size; have hbx4 := hbx3.grown hgrow3 (by omega) (fun j hj => by cases hj; exact Nat.le_refl _); have HM3 := Lib.hid (And.intro hown3 hgrow3); clear hown3 hgrow3) | (at_builtin; refine app1g (.tmp 46) (.tmp 48) 38 rfl rfl (w.heap.size + 1) Try.underlying38 infoLab rfl (by decide) (by decide) (HWA.out _ HM3) rfl rfl rfl lcells_two (by omega) (by omega) ?_; intro v4 w4 hown4 hgrow4))
   have hbel4 := grown_below ((HWA.out _ HM3).alloc _) (by rw [World.size_alloc]; omega) hgrow4
   have HM4 := Lib.hid ((HM3.out.1.alloc (.cells #[.string xa, .string xb] 47)).kept hgrow4 (row_ne_low (HWA.out _ HM3) (Nat.lt_succ_self _)))
   have hbx5 := (hbx4.alloc (by omega) (.cells #[.string xa, .string xb] 47)).trans (hbel4.mono (by omega))
   have hz5 : w.heap.size + 1 ≤ w4.heap.size := by have := hbel4.size; rw [World.size_alloc] at this; omega
   have HW5 := Lib.hid hown4
   clear hown4 hgrow4 hbel4
   rcases own_form HW5.out with ⟨_, h0⟩ | ⟨g4, cap4, rfl, hg4⟩
   ·
    omega
   go_wp2
   go_roundw
   case rel => exact ⟨k + 1, _, q + 1, some ⟨g4, 0, none⟩, cap4, ⟨rfl, rfl, rfl⟩, by go_num, by omega, by omega, HF2.out, HG2.out, HMP.out, HM4.out, HQ2.out, by show World.ownsRow _ _ _ _ _ _ _; rw [HL2.out]; exact HW5.out⟩
   case measure => simp [intOf]; omega
  ·
   obtain rfl : k = n := by omega
   have HT : Hid (l.take k = l ∧ l.drop k = []) := ⟨List.take_of_length_le (by rw [HN.out]; exact Nat.le_refl _), List.drop_eq_nil_of_le (by rw [HN.out]; exact Nat.le_refl _)⟩
   have HF0 : Hid (lm.faults [] l = 0) := by show _ = _; rw [HF.out, HT.out.2]; rfl
   have HQ1 : Hid (q = (lm.kept l).length) := by show _ = _; have := HQ.out; rw [HT.out.1] at this; exact this
   by_cases h0 : q = 0
   ·
    have HB8 : Hid (R = (8, [])) := by
     show _ = _
     rw [HR.out, lm.canonF, if_pos HF0.out, if_pos (List.eq_nil_of_length_eq_zero (by rw [← HQ1.out]; exact h0))]
    have HRET := Lib.hid (ret8 HB8.out hb0)
    subst h0
    go_wp2
    exact bodyPost_ret (v := .tuple #[.slice none 0 0, .int .i64 8]) (by simp [results, Try.results31, go_sem]) rfl HRET.out
   ·
    have h0b : ((q : Int) == 0) = false := by simp; omega
    have h0c : ¬ (q : Int) = 0 := by omega
    rcases own_form HW.out with ⟨_, h⟩ | ⟨g, cap2, hv, hg⟩
    ·
     exact absurd h h0
    simp only [Value.slice.injEq] at hv
    obtain ⟨rfl, _, rfl⟩ := hv
    have HWL : Hid (wr.ownsRow (w.heap.size + 1) 47 2 (.slice (some ⟨g, 0, none⟩) q oc) q (lcells (lm.kept l))) := by
     show World.ownsRow _ _ _ _ _ _ _
     have := HW.out
     rw [HT.out.1] at this; exact this
    have HGL := (lm.faults_iff l).1 HF0.out
    have HSO := Lib.hid (sort_any g oc q (w.heap.size + 1) (lm.kept l) wr HWL.out HQ1.out (by omega) (HGL.2.1.sublist ((lm.kept_sub l).map _)) hz)
    have HRS : Hid (R = (0, lm.sortN (lm.kept l))) := by
     show _ = _
     rw [HR.out, lm.canon_ok HGL (fun e => by have := HQ1.out; rw [e] at this; exact h0 this)]
    have HLS : Hid (q = (lm.sortN (lm.kept l)).length) := by show _ = _; rw [(lm.sortN_perm _).length_eq]; exact HQ1.out
    have HRET : Hid (∀ W, W.ownsRow (w.heap.size + 1) 47 2 (.slice (some ⟨g, 0, none⟩) q oc) q (lcells (lm.sortN (lm.kept l))) → Below (w.heap.size + 1) wr W → CanonP R w (.returned (.tuple #[.slice (some ⟨g, 0, none⟩) q oc, .int .i64 0])) W) := fun W hW hb => by
     rw [HRS.out]
     refine ⟨_, rfl, ?_, hb0.trans (hb.mono (by omega))⟩
     show Cells _ _ _ _ _ _
     rw [← HLS.out]
     exact Cells.own hW
    clear h0 HGL
    go_wp2_with fail
    (with_reducible refine HSO.out.mono ?_)
    rintro e w5 ⟨rfl, hown5, hb5⟩
    have HR5 := Lib.hid (HRET.out _ hown5 hb5)
    clear hown5 hb5
    go_wp2
    exact bodyPost_ret (v := .tuple #[.slice (some ⟨g, 0, none⟩) q oc, .int .i64 0]) (by simp [results, Try.results31, go_sem]) rfl HR5.out
end Go.Proofs.Ytegjpiggjcfoaaa
