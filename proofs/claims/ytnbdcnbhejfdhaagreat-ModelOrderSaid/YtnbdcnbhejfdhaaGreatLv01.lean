/- texts put together: SortRow, DotSort, DotLess, Flow, Labels, LabVal, LabName. -/
import Derived.Test.YtnbdcnbhejfdhaaGreatLv00
import Derived.ChangeArms
import Derived.Deep.RegionHeld3
import Derived.Deep.SlicePairs
import Derived.Laws.RangeAny
import Derived.Lib.OthersKept
import Derived.Shelf.GgSortFunc.InsertionK
import Derived.Sort.OwnSorted
import Derived.StillTail
import Derived.Test.YtnbdcnbhejfdhaaGreatRows
import Derived.WideShapes
namespace Go.Proofs.YtnbdcnbhejfdhaaGreat.kit
open Go.RowKit Go.Sort
variable {α : Type} [Inhabited α]
theorem flat_len {α : Type} (enc : α → List Value) (k : Nat) (hk : ∀ x, (enc x).length = k) : ∀ l : List α, (l.flatMap enc).length = l.length * k := by
 intro l
 induction l with
 | nil => simp
 | cons x r ih => rw [List.flatMap_cons, List.length_append, hk, ih, List.length_cons, Nat.add_mul, Nat.one_mul, Nat.add_comm]
theorem flat_get (enc : α → List Value) (k : Nat) (hk : ∀ x, (enc x).length = k) (k0 : 0 < k) : ∀ (l : List α) (t : Nat), t < l.length * k → (l.flatMap enc)[t]! = (enc l[t / k]!)[t % k]! := by
 intro l
 induction l with
 | nil => intro t h; simp at h
 | cons x r ih =>
  intro t h
  rw [List.flatMap_cons]
  have hx := hk x
  by_cases ht : t < k
  ·
   have e1 : t / k = 0 := Nat.div_eq_of_lt ht
   have e2 : t % k = t := Nat.mod_eq_of_lt ht
   rw [e1, e2]
   have h1 : t < (enc x ++ r.flatMap enc).length := by rw [List.length_append]; omega
   rw [getElem!_pos _ t h1, List.getElem_append_left (by omega)]
   have : (x :: r)[0]! = x := rfl
   rw [this, getElem!_pos _ t (by omega)]
  ·
   obtain ⟨u, rfl⟩ : ∃ u, t = u + k := ⟨t - k, by omega⟩
   have hu : u < r.length * k := by rw [List.length_cons, Nat.add_mul, Nat.one_mul] at h; omega
   have hlen := flat_len enc k hk r
   have h1 : u + k < (enc x ++ r.flatMap enc).length := by rw [List.length_append]; omega
   have e1 : (u + k) / k = u / k + 1 := Nat.add_div_right u k0
   have e2 : (u + k) % k = u % k := Nat.add_mod_right u k
   have e3 : u + k - (enc x).length = u := by omega
   rw [getElem!_pos _ (u + k) h1, List.getElem_append_right (by omega), e1, e2]
   have h2 := ih u hu
   rw [getElem!_pos _ u (by omega)] at h2
   have e4 : (x :: r)[u / k + 1]! = r[u / k]! := by simp
   rw [e4, ← h2]
   simp only [e3]
theorem flatK_list (enc : α → List Value) (k : Nat) (hk : ∀ x, (enc x).length = k) (k0 : 0 < k) (d : Array α) : (flatK enc k d).toList = d.toList.flatMap enc := by
 have hlen := flat_len enc k hk d.toList
 refine List.ext_getElem (by rw [hlen, Array.length_toList, size_flatK, Array.length_toList]) fun t h1 h2 => ?_
 have ht : t < d.size * k := by rw [Array.length_toList, size_flatK] at h1; exact h1
 have a := get_flatK enc k d t ht
 have b := flat_get enc k hk k0 d.toList t (by rw [Array.length_toList]; exact ht)
 rw [getElem!_pos _ t (by rw [size_flatK]; exact ht)] at a
 rw [getElem!_pos _ t h2] at b
 rw [Array.getElem_toList, a, b]
 have : d.toList[t / k]! = d[t / k]! := by
  simp [Array.getElem!_eq_getD, Array.getD, List.getElem!_eq_getElem?_getD]
  by_cases h : t / k < d.size <;> simp [h]
 rw [this]
theorem sort_own {w : World} {base : Nat} {e : TypeId} {enc : α → List Value} {k n g cap : Nat} {l : List α} (hk : ∀ x, (enc x).length = k) (k0 : 0 < k) (hown : w.ownsRow base e k (.slice (some ⟨g, 0, none⟩) n cap) n (l.flatMap enc)) (hl : l.length = n) (hB : base ≤ w.heap.size) :
  HoldsK enc k w g 0 l.toArray ∧ g < w.heap.size ∧ base ≤ g ∧ ∀ (d : Array α) (m : Nat) (os : Array Obj), d.size = n →
   (sortWorldK enc k w g 0 m d os).ownsRow base e k (.slice (some ⟨g, 0, none⟩) n cap) n (d.toList.flatMap enc) ∧ Below base w (sortWorldK enc k w g 0 m d os) := by
 have hlt := hown.lt g rfl
 rcases hown.2 with ⟨hv, _⟩ | ⟨g', cap', cur, hv, hbg, hg, hnc, hcm, hcs, htake⟩
 ·
  cases hv
 simp only [Value.slice.injEq, Option.some.injEq, Addr.mk.injEq] at hv
 obtain ⟨⟨rfl, _, _⟩, _, rfl⟩ := hv
 have hfl := flatK_list enc k hk k0 l.toArray
 have hnk : n * k ≤ cap * k := Nat.mul_le_mul_right _ hnc
 refine ⟨?_, hlt.2, hbg, fun d m os hd => ⟨?_, ?_⟩⟩
 ·
  intro j hj
  have hj2 : j < n * k := by rw [size_flatK, List.size_toArray, hl] at hj; exact hj
  refine ⟨?_, by simp [World.frozen?, hg]⟩
  have hc : (l.flatMap enc)[j]? = some ((flatK enc k l.toArray)[j]!) := by
   have h1 : j < (flatK enc k l.toArray).toList.length := by rw [Array.length_toList]; exact hj
   have h2 : (flatK enc k l.toArray).toList[j]? = (l.flatMap enc)[j]? := by rw [hfl]
   rw [← h2, List.getElem?_eq_getElem h1, Array.getElem_toList, getElem!_pos _ j hj]
  have := hown.cells (g := g) rfl j _ hc
  rw [Addr.add_lit] at this
  exact this
 ·
  have hs : (flatK enc k d).size = n * k := by rw [size_flatK, hd]
  refine ⟨by rw [flat_len enc k hk, Array.length_toList, hd], Or.inr ⟨g, cap, putCells id 0 (flatK enc k d) cur, rfl, hbg, ?_, hnc, hcm, by simp [putCells, hcs], ?_⟩⟩
  ·
   unfold sortWorldK putRowK
   rw [heap_grow_old _ _ (by simpa using hlt.2)]
   simp [putRow, mapBlock, Sort.ahead, Array.getElem?_modify, hg, onCells]
  ·
   rw [← flatK_list enc k hk k0 d]
   apply List.ext_getElem?
   intro j
   by_cases hj : j < n * k
   ·
    have hjf : j < (flatK enc k d).size := by omega
    rw [List.getElem?_take_of_lt hj, Array.getElem?_toList, Array.getElem?_toList]
    have hjc : j < cur.size := by omega
    rw [getElem?_pos (flatK enc k d) j hjf]
    simp only [putCells, Array.getElem?_mapIdx, getElem?_pos cur j hjc, Option.map_some, Nat.sub_zero, id]
    rw [if_pos (show 0 ≤ j ∧ j < 0 + (flatK enc k d).size from ⟨Nat.zero_le _, by omega⟩), getElem!_pos (flatK enc k d) j hjf]
   ·
    rw [List.getElem?_eq_none (by rw [List.length_take]; omega), List.getElem?_eq_none (by rw [Array.length_toList]; omega)]
 ·
  unfold sortWorldK putRowK
  refine ⟨rfl, rfl, rfl, by simp, fun i hi => ?_⟩
  have hne : g ≠ i := by omega
  rw [heap_grow_old _ _ (by simp; omega)]
  simp [putRow, mapBlock, Sort.ahead, Array.getElem?_modify, hne]
end Go.Proofs.YtnbdcnbhejfdhaaGreat.kit
namespace Go.Proofs.YtnbdcnbhejfdhaaGreat
open Go Go.RowKit Go.ChangeShapes cl Go.Sort Go.Shelf
theorem cc : CC := fun x y w => Tryz.cmp_Compare_int x y w
end Go.Proofs.YtnbdcnbhejfdhaaGreat
namespace Go.Proofs.YtnbdcnbhejfdhaaGreat
open Go Go.RowKit Go.ChangeShapes cl Go.Sort
theorem below_grow (W : World) (q : Nat) (os : Array Obj) : Below W.heap.size W (grow (W.drewN q) os) := by
 have h := below_drewND (Below.refl W.heap.size W) q
 refine h.trans ⟨rfl, rfl, rfl, by simp, fun i hi => ?_⟩
 have hs := h.size
 exact heap_grow_old _ _ (by omega)
def CtxAt (w : World) (B : Nat) (v : Value) (c : dm.Ctx) : Prop := ∃ v1 v2, v = .agg #[v1, v2] ∧ Dots w B v1 c.1 ∧ Dots w B v2 c.2
theorem CtxAt.next {w w' : World} {v : Value} {c : dm.Ctx} (h : CtxAt w w.heap.size v c) (hb : Below w.heap.size w w') : CtxAt w' w'.heap.size v c := by
 obtain ⟨v1, v2, rfl, h1, h2⟩ := h
 exact ⟨v1, v2, rfl, Cells.next h1 hb, Cells.next h2 hb⟩
end Go.Proofs.YtnbdcnbhejfdhaaGreat
namespace Go
section
variable {P : Program} {ops : Array Oper} {Q : Exit → Act → World → Prop}
def flowBack (ops : Array Oper) : Bool := (List.range ops.size).all fun i => ((ops[i]?).map fun o => o.after.all fun e => !Region.binds .any e || decide (e.on < i)).getD true
def flowPred (ops : Array Oper) (i : Nat) : List Nat := ((ops[i]?).map fun o => (o.after.toList.filter (Region.binds .any)).map (·.on)).getD []
def flowAnc (ops : Array Oper) (k : Nat) : List Nat := ((List.range k).reverse).foldl (fun m j => if m.contains j then m ++ flowPred ops j else m) (flowPred ops k)
theorem anc_fold {D : Nat → Prop} (hD : ∀ j, D j → ∀ i ∈ flowPred ops j, D i) : ∀ (L m : List Nat), (∀ i ∈ m, D i) → ∀ i ∈ L.foldl (fun m j => if m.contains j then m ++ flowPred ops j else m) m, D i := by
 intro L
 induction L with
 | nil => intro m h; exact h
 | cons j r ih =>
  intro m h
  rw [List.foldl_cons]
  refine ih _ fun i hi => ?_
  split at hi
  ·
   rename_i hc
   rcases List.mem_append.1 hi with h1 | h1
   ·
    exact h i h1
   ·
    exact hD j (h j (by simpa using hc)) i h1
  ·
   exact h i hi
def flowHead (m n : Nat) : Array Bool := ((List.range m).map fun j => decide (j < n)).toArray
def flowB (ops : Array Oper) (n : Nat) : Bool :=
 (decide (n = ops.size) || decide (n < ops.size) && Region.sinkB .any ops n && Region.chainB .any ops n) && flowBack ops && Region.seqB .any ops (ops.size - n) n (flowHead ops.size n)
theorem flowB_spec {n : Nat} (h : flowB ops n = true) : n ≤ ops.size ∧ flowBack ops = true ∧ Region.seqB .any ops (ops.size - n) n (flowHead ops.size n) = true ∧
  ∀ listed, HeadInv .any ops n listed → ∀ i0, i0 < n → listed.getD i0 true = false → ∀ t, n ≤ t → t ∉ Region.ready .any ops listed := by
 simp only [flowB, Bool.and_eq_true, Bool.or_eq_true, decide_eq_true_eq] at h
 obtain ⟨⟨h1, h2⟩, h3⟩ := h
 rcases h1 with h1 | ⟨⟨hn, hs⟩, hc⟩
 ·
  refine ⟨by omega, h2, h3, fun listed inv i0 hi0 _ t ht hr => ?_⟩
  obtain ⟨_, ot, hot, _⟩ := mem_ready.1 hr
  have := (Array.getElem?_eq_some_iff.1 hot).1
  omega
 ·
  exact ⟨by omega, h2, h3, fun listed inv i0 hi0 hl => tail_waits hs hc hn inv _ i0 rfl hi0 hl⟩
def upd (x : Nat → Value) (k : Nat) (v : Value) : Nat → Value := fun j => if j = k then v else x j
def FlowStep (P : Program) (ops : Array Oper) (Q : Exit → Act → World → Prop) (fill : (Nat → Value) → Act) (n : Nat) (die : Nat → Nat) (R : World → Prop) (T : Nat → World → World → Prop) (F : Nat → Value → World → Prop) (P2 : Nat → Nat → Value → Value → Prop) (i : Nat) (o : Oper) : Prop :=
 ∀ x w, R w → (∀ j, ((flowPred ops i).contains j && (die j == i || decide (n ≤ die j))) = true → F j (x j) w) → ∀ K : Act → World → Prop, Shut (∀ v w', T i w w' → F i v w' → (∀ j u, F j u w → P2 i j v u ∧ P2 j i u v) → K ((fill x).put o.dst v) w') →
  if Region.wanted o (yielded ops (fill x).tmps) then o.wp P (fill x) w K Q else K ((fill x).put o.dst undef) w
theorem flow_eq {listed : Array Bool} {n : Nat} (hs : listed.size = ops.size) (h1 : ∀ j, j < n → listed.getD j false = true) (h2 : ∀ t, n ≤ t → t < ops.size → listed.getD t true = false) : listed = flowHead ops.size n := by
 apply Array.ext
 ·
  simp [flowHead, hs]
 ·
  intro i hi hi2
  have e : (flowHead ops.size n)[i] = decide (i < n) := by simp [flowHead]
  rw [e]
  by_cases h : i < n
  ·
   have := h1 i h
   simp [hi] at this
   simp [this, h]
  ·
   have := h2 i (by omega) (by omega)
   simp [hi] at this
   simp [this, h]
theorem flow_ready {listed : Array Bool} {n : Nat} (hb : flowBack ops = true) (inv : HeadInv .any ops n listed) (hn : n ≤ ops.size) : ∀ i, i < n → listed.getD i false = false → ∃ j, j ≤ i ∧ j ∈ Region.ready .any ops listed := by
 intro i
 induction i using Nat.strongRecOn with
 | _ i ih =>
  intro hi hl
  have hlt : i < ops.size := by omega
  by_cases h : ∃ j, j < i ∧ listed.getD j false = false
  ·
   obtain ⟨j, hj, hlj⟩ := h
   obtain ⟨k, hk, hr⟩ := ih j hj (by omega) hlj
   exact ⟨k, by omega, hr⟩
  ·
   refine ⟨i, Nat.le_refl _, mem_ready.2 ⟨getD_in (by rw [inv.size]; exact hlt) hl, ops[i], by simp [hlt], fun e he hbi => ?_⟩⟩
   have h1 := List.all_eq_true.1 hb i (List.mem_range.2 hlt)
   simp only [Array.getElem?_eq_getElem hlt, Option.map_some, Option.getD_some] at h1
   have h2 := Array.all_eq_true_iff_forall_mem.1 h1 e he
   simp only [hbi, Bool.not_true, Bool.false_or, decide_eq_true_eq] at h2
   cases h3 : listed.getD e.on false with
   | true => rfl
   | false => exact absurd ⟨e.on, h2, h3⟩ h
theorem flow_go {fill : (Nat → Value) → Act} {die : Nat → Nat} {R : World → Prop} {T : Nat → World → World → Prop} {F : Nat → Value → World → Prop} {P2 : Nat → Nat → Value → Value → Prop} {n : Nat} (hB : flowB ops n = true)
  (hst : ∀ k i v w w', k < n → i < n → k ≠ i → die k ≠ i → (flowAnc ops k).contains i = false → (flowAnc ops i).contains (die k) = false → F k v w → T i w w' → F k v w') (hR : ∀ i w w', R w → T i w w' → R w')
  (hput : ∀ i o, i < n → ops[i]? = some o → ∀ x v, (fill x).put o.dst v = fill (upd x i v))
  (hstep : ∀ i o, i < n → ops[i]? = some o → FlowStep P ops Q fill n die R T F P2 i o)
  (hend : ∀ x w, R w → (∀ k, k < n → n ≤ die k → F k (x k) w) → (∀ j k, j < n → k < n → n ≤ die j → n ≤ die k → j ≠ k → P2 j k (x j) (x k)) → wpList P ops Q (ops.toList.drop n) (fill x) w) :
  ∀ (f : Nat) (L : List Nat) (listed : Array Bool) (x : Nat → Value) (w : World), L.Nodup → L.length = f → (∀ j, j ∈ L ↔ j < n ∧ listed.getD j false = false) → HeadInv .any ops n listed →
   R w → (∀ k, k < n → listed.getD k false = true → listed.getD (die k) false = false → F k (x k) w) → (∀ j k, j < n → k < n → j ≠ k → listed.getD j false = true → listed.getD k false = true → listed.getD (die j) false = false → listed.getD (die k) false = false → P2 j k (x j) (x k)) → wpAny P .any ops Q (f + (ops.size - n)) listed (fill x) w := by
 obtain ⟨hn, hback, hseq, htail⟩ := flowB_spec hB
 intro f
 induction f with
 | zero =>
  intro L listed x w _ hlen hL inv hw hF hP
  obtain rfl : L = [] := List.eq_nil_of_length_eq_zero hlen
  have hall : ∀ j, j < n → listed.getD j false = true := fun j hj => by
   cases h : listed.getD j false with
   | true => rfl
   | false => exact absurd ((hL j).2 ⟨hj, h⟩) (by simp)
  have he := flow_eq inv.size hall inv.tail
  have far : ∀ {j : Nat}, n ≤ j → listed.getD j false = false := fun {j} hj => by
   rcases Nat.lt_or_ge j ops.size with h | h
   ·
    exact getD_both (inv.tail j hj h)
   ·
    have : listed.size ≤ j := by rw [inv.size]; exact h
    simp [this]
  have hlen2 : (ops.toList.drop n).length = ops.size - n := by simp
  have := wpAny_of_seq (md := .any) (P := P) (ops := ops) (Q' := Q) (ops.toList.drop n) n listed (fill x) w (fun j => by simp [List.getElem?_drop]) (by rw [he, hlen2]; exact hseq) (hend x w hw (fun k hk hd => hF k hk (hall k hk) (far hd)) (fun j k hj hk hdj hdk hne => hP j k hj hk hne (hall j hj) (hall k hk) (far hdj) (far hdk)))
  rw [hlen2] at this
  rw [Nat.zero_add]; exact this
 | succ f ih =>
  intro L listed x w hnd hlen hL inv hw hF hP
  obtain ⟨i0, hi0⟩ : ∃ i0, i0 ∈ L := by
   cases L with
   | nil => simp at hlen
   | cons a r => exact ⟨a, List.mem_cons_self⟩
  obtain ⟨hi0n, hi0l⟩ := (hL i0).1 hi0
  rw [show f + 1 + (ops.size - n) = (f + (ops.size - n)) + 1 by omega]
  refine ⟨fun h0 => ?_, fun i hi => ?_⟩
  ·
   obtain ⟨j, _, hj⟩ := flow_ready hback inv hn i0 hi0n hi0l
   rw [h0] at hj; cases hj
  ·
   have hin : i < n := by
    rcases Nat.lt_or_ge i n with h | h
    ·
     exact h
    ·
     exact absurd hi (htail listed inv i0 hi0n (getD_in (by rw [inv.size]; omega) hi0l) i h)
   obtain ⟨hiun, oi, hoi, hall⟩ := mem_ready.1 hi
   have hif := getD_both hiun
   have hsz : i < listed.size := by rw [inv.size]; omega
   have hmem : i ∈ L := (hL i).2 ⟨hin, hif⟩
   have alive : ∀ {d : Nat}, (listed.setIfInBounds i true).getD d false = false → d ≠ i ∧ listed.getD d false = false := fun {d} h => by
    have hne : d ≠ i := fun e => by
     rw [e, show (listed.setIfInBounds i true).getD i false = true by simp [hsz]] at h
     cases h
    exact ⟨hne, by rwa [getD_set_ne false (fun e => hne e.symm)] at h⟩
   have hanc : ∀ k, listed.getD k false = true → (flowAnc ops k).contains i = false := fun k hk => by
    cases hc : (flowAnc ops k).contains i with
    | false => rfl
    | true =>
     have hD : ∀ j, listed.getD j false = true → ∀ e ∈ flowPred ops j, listed.getD e false = true := fun j hj e he => by
      unfold flowPred at he
      cases hoj : ops[j]? with
      | none => rw [hoj] at he; simp at he
      | some oj =>
       rw [hoj] at he
       simp only [Option.map_some, Option.getD_some, List.mem_map, List.mem_filter] at he
       obtain ⟨ed, ⟨h1, h2⟩, rfl⟩ := he
       exact inv.closed j oj hoj hj ed (by simpa using h1) h2
     have := anc_fold hD ((List.range k).reverse) (flowPred ops k) (hD k hk) i (by simpa [flowAnc] using hc)
     rw [hif] at this
     cases this
   have hdanc : ∀ d, listed.getD d false = false → (flowAnc ops i).contains d = false := fun d hd => by
    cases hc : (flowAnc ops i).contains d with
    | false => rfl
    | true =>
     have hD : ∀ j, listed.getD j false = true → ∀ e ∈ flowPred ops j, listed.getD e false = true := fun j hj e he => by
      unfold flowPred at he
      cases hoj : ops[j]? with
      | none => rw [hoj] at he; simp at he
      | some oj =>
       rw [hoj] at he
       simp only [Option.map_some, Option.getD_some, List.mem_map, List.mem_filter] at he
       obtain ⟨ed, ⟨h1, h2⟩, rfl⟩ := he
       exact inv.closed j oj hoj hj ed (by simpa using h1) h2
     have h0 : ∀ e ∈ flowPred ops i, listed.getD e false = true := fun e he => by
      unfold flowPred at he
      rw [hoi] at he
      simp only [Option.map_some, Option.getD_some, List.mem_map, List.mem_filter] at he
      obtain ⟨ed, ⟨h1, h2⟩, rfl⟩ := he
      exact hall ed (by simpa using h1) h2
     have := anc_fold hD ((List.range i).reverse) (flowPred ops i) h0 d (by simpa [flowAnc] using hc)
     rw [hd] at this
     cases this
   have key : ∀ v w', T i w w' → F i v w' → (∀ j u, F j u w → P2 i j v u ∧ P2 j i u v) → wpAny P .any ops Q (f + (ops.size - n)) (listed.setIfInBounds i true) ((fill x).put oi.dst v) w' := by
    intro v w' hT hv hp
    rw [hput i oi hin hoi x v]
    refine ih (L.erase i) _ _ w' (hnd.erase i) (by rw [List.length_erase_of_mem hmem]; omega) (fun j => ?_) (inv.set hi hin) (hR i w w' hw hT) (fun k hk hl hl' => ?_) (fun j k hj hk hne hl1 hl2 hl1' hl2' => ?_)
    ·
     rw [hnd.mem_erase_iff, hL j]
     by_cases hij : j = i
     ·
      subst hij
      constructor
      ·
       rintro ⟨h, _⟩; exact absurd rfl h
      ·
       rintro ⟨_, h⟩
       rw [show (listed.setIfInBounds j true).getD j false = true by simp [hsz]] at h
       cases h
     ·
      rw [getD_set_ne false (fun e => hij e.symm)]
      exact ⟨fun h => h.2, fun h => ⟨hij, h⟩⟩
    ·
     unfold upd
     by_cases hki : k = i
     ·
      rw [if_pos hki, hki]; exact hv
     ·
      rw [if_neg hki]
      rw [getD_set_ne false (fun e => hki e.symm)] at hl
      exact hst k i _ w w' hk hin hki (alive hl').1 (hanc k hl) (hdanc _ (alive hl').2) (hF k hk hl (alive hl').2) hT
    ·
     unfold upd
     by_cases hji : j = i
     ·
      have hki : k ≠ i := fun e => hne (hji.trans e.symm)
      rw [if_pos hji, if_neg hki, hji]
      rw [getD_set_ne false (fun e => hki e.symm)] at hl2
      exact (hp k _ (hF k hk hl2 (alive hl2').2)).1
     ·
      rw [if_neg hji]
      rw [getD_set_ne false (fun e => hji e.symm)] at hl1
      by_cases hki : k = i
      ·
       rw [if_pos hki, hki]
       exact (hp j _ (hF j hj hl1 (alive hl1').2)).2
      ·
       rw [if_neg hki]
       rw [getD_set_ne false (fun e => hki e.symm)] at hl2
       exact hP j k hj hk hne hl1 hl2 (alive hl1').2 (alive hl2').2
   have hs1 := hstep i oi hin hoi x w hw (fun j hj => by
    simp only [flowPred, hoi, Option.map_some, Option.getD_some, List.contains_eq_mem, List.mem_map, List.mem_filter, decide_eq_true_eq, Bool.and_eq_true, Bool.or_eq_true, beq_iff_eq] at hj
    obtain ⟨⟨e, ⟨he, hb⟩, rfl⟩, hdj⟩ := hj
    have hal : listed.getD (die e.on) false = false := by
     rcases hdj with h | h
     ·
      rw [h]; exact hif
     ·
      rcases Nat.lt_or_ge (die e.on) ops.size with h' | h'
      ·
       exact getD_both (inv.tail _ h h')
      ·
       have : listed.size ≤ die e.on := by rw [inv.size]; exact h'
       simp [this]
    have h1 : e.on < i := by
     have h1 := List.all_eq_true.1 hback i (List.mem_range.2 (by omega))
     simp only [hoi, Option.map_some, Option.getD_some] at h1
     have h2 := Array.all_eq_true_iff_forall_mem.1 h1 e (by simpa using he)
     simpa only [hb, Bool.not_true, Bool.false_or, decide_eq_true_eq] using h2
    exact hF e.on (by omega) (hall e (by simpa using he) hb) hal) (fun a' w' => wpAny P .any ops Q (f + (ops.size - n)) (listed.setIfInBounds i true) a' w') key
   unfold wpOp
   simp only [hoi]
   split
   ·
    rename_i hwt
    rw [if_pos hwt] at hs1
    exact Or.inl hs1
   ·
    rename_i hwt
    rw [if_neg hwt] at hs1
    exact hs1
theorem wp_region_flow {id : Nat} {a : Act} {w : World} {l : List Oper} (n : Nat) (die : Nat → Nat) (fill : (Nat → Value) → Act) (x0 : Nat → Value) (R : World → Prop) (T : Nat → World → World → Prop) (F : Nat → Value → World → Prop) (P2 : Nat → Nat → Value → Value → Prop)
  (hm : P.follows .mixedOrders = true) (hB : flowB l.toArray n = true) (ha : a = fill x0) (h0 : R w.drew)
  (hR : ∀ i w w', R w → T i w w' → R w') (hst : ∀ k, k < n → ∀ i, i < n → k ≠ i → die k ≠ i → (flowAnc l.toArray k).contains i = false → (flowAnc l.toArray i).contains (die k) = false → ∀ v w w', F k v w → T i w w' → F k v w')
  (hput : ∀ i, i < n → ∀ o, l[i]? = some o → ∀ x v, (fill x).put o.dst v = fill (upd x i v))
  (hstep : ∀ i, i < n → ∀ o, l[i]? = some o → FlowStep P l.toArray Q fill n die R T F P2 i o)
  (hend : ∀ x w, R w → (∀ k, k < n → n ≤ die k → F k (x k) w) → (∀ j k, j < n → k < n → n ≤ die j → n ≤ die k → j ≠ k → P2 j k (x j) (x k)) → wpList P l.toArray Q (l.drop n) (fill x) w) : (Code.region id l.toArray true).wp P Q a w := by
 have hn : n ≤ l.toArray.size := (flowB_spec hB).1
 refine wp_region_any hm ?_
 rw [ha]
 have := flow_go (P := P) (Q := Q) (ops := l.toArray) hB (fun k i v w w' hk hi hne hd ha hb => hst k hk i hi hne hd ha hb v w w') hR (fun i o hi ho => hput i hi o (by simpa using ho)) (fun i o hi ho => hstep i hi o (by simpa using ho)) (fun x w hw hF hP => by simpa using hend x w hw hF hP)
  n (List.range n) (Array.replicate l.toArray.size false) x0 w.drew List.nodup_range (by simp) (fun j => by rw [List.mem_range, getD_replicate_false]; simp)
  ⟨by simp, fun j oj _ hl => (by rw [getD_replicate_false] at hl; cases hl), fun t _ ht => getD_in (by simpa using ht) (getD_replicate_false _ _)⟩ h0 (fun k _ hl _ => by rw [getD_replicate_false] at hl; cases hl) (fun _ _ _ _ _ hl _ _ _ => by rw [getD_replicate_false] at hl; cases hl)
 rw [show n + (l.toArray.size - n) = l.toArray.size by omega] at this
 exact this
def fillOf (a : Act) : List Oper → Nat → (Nat → Value) → Act
 | [], _, _ => a
 | o :: r, i, x => fillOf (a.put o.dst (x i)) r (i + 1) x
theorem put_put (a : Act) (d : Option Tmp) (v v' : Value) : (a.put d v).put d v' = a.put d v' := by
 cases d with
 | none => rfl
 | some d => simp [Act.put]
theorem put_comm {d d' : Option Tmp} (a : Act) (v v' : Value) (h : ∀ x, d = some x → d' = some x → False) : (a.put d v).put d' v' = (a.put d' v').put d v := by
 cases d with
 | none => rfl
 | some x =>
  cases d' with
  | none => rfl
  | some y =>
   have : x ≠ y := fun e => h x rfl (by rw [e])
   simp only [Act.put]
   rw [Array.setIfInBounds_comm _ _ this]
theorem fillOf_put : ∀ (r : List Oper) (a : Act) (i : Nat) (x : Nat → Value) (d : Option Tmp) (v : Value), (∀ o ∈ r, ∀ t, o.dst = some t → d = some t → False) → (fillOf a r i x).put d v = fillOf (a.put d v) r i x := by
 intro r
 induction r with
 | nil => intro a i x d v _; rfl
 | cons o r ih =>
  intro a i x d v h
  unfold fillOf
  rw [ih _ _ _ _ _ (fun o ho => h o (List.mem_cons_of_mem _ ho)), put_comm _ _ _ (h o List.mem_cons_self)]
theorem fillOf_congr : ∀ (r : List Oper) (a : Act) (i : Nat) (x y : Nat → Value), (∀ j, i ≤ j → x j = y j) → fillOf a r i x = fillOf a r i y := by
 intro r
 induction r with
 | nil => intro a i x y _; rfl
 | cons o r ih =>
  intro a i x y h
  unfold fillOf
  rw [h i (Nat.le_refl _)]
  exact ih _ _ _ _ (fun j hj => h j (by omega))
def apartB : List Oper → Bool
 | [] => true
 | o :: r => (match o.dst with | none => true | some t => r.all fun p => decide (p.dst ≠ some t)) && apartB r
theorem fill_put : ∀ (l : List Oper) (i : Nat) (a : Act) (x : Nat → Value) (k : Nat) (o : Oper) (v : Value), l[k]? = some o → apartB l = true → (fillOf a l i x).put o.dst v = fillOf a l i (upd x (i + k) v) := by
 intro l
 induction l with
 | nil => intro i a x k o v h _; simp at h
 | cons p r ih =>
  intro i a x k o v h hd
  simp only [apartB, Bool.and_eq_true] at hd
  cases k with
  | zero =>
   simp only [List.getElem?_cons_zero, Option.some.injEq] at h
   subst h
   unfold fillOf
   rw [fillOf_put r _ _ _ _ _ (fun q hq t ht hp => by
    rw [hp] at hd
    have := List.all_eq_true.1 hd.1 q hq
    simp [ht] at this), put_put]
   have e : upd x (i + 0) v i = v := by simp [upd]
   rw [e]
   exact fillOf_congr r _ _ _ _ (fun j hj => by unfold upd; rw [if_neg (by omega)])
  | succ k =>
   simp only [List.getElem?_cons_succ] at h
   unfold fillOf
   rw [ih (i + 1) _ x k o v h hd.2]
   have e : upd x (i + (k + 1)) v i = x i := by unfold upd; rw [if_neg (by omega)]
   rw [e, show i + 1 + k = i + (k + 1) by omega]
theorem fill_start : ∀ (l : List Oper) (i : Nat) (a : Act), apartB l = true → ∃ x, fillOf a l i x = a := by
 intro l
 induction l with
 | nil => intro i a _; exact ⟨fun _ => undef, rfl⟩
 | cons o r ih =>
  intro i a hd
  simp only [apartB, Bool.and_eq_true] at hd
  obtain ⟨x, hx⟩ := ih (i + 1) a hd.2
  have hv : ∃ v, a.put o.dst v = a := by
   cases o.dst with
   | none => exact ⟨undef, rfl⟩
   | some t =>
    rcases Nat.lt_or_ge t a.tmps.size with h | h
    ·
     refine ⟨a.tmps[t], ?_⟩
     have e : a.tmps.setIfInBounds t a.tmps[t] = a.tmps := by
      apply Array.ext
      ·
       simp
      ·
       intro j _ _
       rw [Array.getElem_setIfInBounds]
       split
       ·
        rename_i e; subst e; rfl
       ·
        rfl
     simp only [Act.put, e]
    ·
     refine ⟨undef, ?_⟩
     simp [Act.put, Array.setIfInBounds_eq_of_size_le h]
  obtain ⟨v, hv⟩ := hv
  refine ⟨upd x i v, ?_⟩
  unfold fillOf
  have e : upd x i v i = v := by simp [upd]
  rw [e, hv, fillOf_congr r a (i + 1) _ x (fun j hj => by unfold upd; rw [if_neg (by omega)]), hx]
def FlowAll (P : Program) (ops : Array Oper) (Q : Exit → Act → World → Prop) (fill : (Nat → Value) → Act) (n : Nat) (die : Nat → Nat) (R : World → Prop) (T : Nat → World → World → Prop) (F : Nat → Value → World → Prop) (P2 : Nat → Nat → Value → Value → Prop) : Nat → List Oper → Prop
 | _, [] => True
 | i, o :: r => FlowStep P ops Q fill n die R T F P2 i o ∧ FlowAll P ops Q fill n die R T F P2 (i + 1) r
theorem FlowAll.nil {fill : (Nat → Value) → Act} {n : Nat} {die : Nat → Nat} {R : World → Prop} {T : Nat → World → World → Prop} {F : Nat → Value → World → Prop} {P2 : Nat → Nat → Value → Value → Prop} {i : Nat} : FlowAll P ops Q fill n die R T F P2 i [] := trivial
theorem FlowAll.cons {fill : (Nat → Value) → Act} {n : Nat} {die : Nat → Nat} {R : World → Prop} {T : Nat → World → World → Prop} {F : Nat → Value → World → Prop} {P2 : Nat → Nat → Value → Value → Prop} {i : Nat} {o : Oper} {r : List Oper} (h : FlowStep P ops Q fill n die R T F P2 i o) (h2 : FlowAll P ops Q fill n die R T F P2 (i + 1) r) : FlowAll P ops Q fill n die R T F P2 i (o :: r) := ⟨h, h2⟩
theorem FlowAll.get {fill : (Nat → Value) → Act} {n : Nat} {die : Nat → Nat} {R : World → Prop} {T : Nat → World → World → Prop} {F : Nat → Value → World → Prop} {P2 : Nat → Nat → Value → Value → Prop} : ∀ {l : List Oper} {i k : Nat} {o : Oper}, FlowAll P ops Q fill n die R T F P2 i l → l[k]? = some o → FlowStep P ops Q fill n die R T F P2 (i + k) o := by
 intro l
 induction l with
 | nil => intro i k o _ h; simp at h
 | cons p r ih =>
  intro i k o h ho
  cases k with
  | zero => simp only [List.getElem?_cons_zero, Option.some.injEq] at ho; subst ho; exact h.1
  | succ k => simp only [List.getElem?_cons_succ] at ho; have := ih h.2 ho; rwa [show i + (k + 1) = i + 1 + k by omega]
theorem wp_flow {id : Nat} {a : Act} {w : World} {l : List Oper} (n : Nat) (die : Nat → Nat) (R : World → Prop) (T : Nat → World → World → Prop) (F : Nat → Value → World → Prop) (P2 : Nat → Nat → Value → Value → Prop)
  (hm : P.follows .mixedOrders = true) (hB : (flowB l.toArray n && apartB (l.take n)) = true) (h0 : R w.drew)
  (hR : ∀ i w w', R w → T i w w' → R w') (hst : ∀ k, k < n → ∀ i, i < n → k ≠ i → die k ≠ i → (flowAnc l.toArray k).contains i = false → (flowAnc l.toArray i).contains (die k) = false → ∀ v w w', F k v w → T i w w' → F k v w')
  (hstep : FlowAll P l.toArray Q (fillOf a (l.take n) 0) n die R T F P2 0 (l.take n))
  (hend : ∀ x w, R w → (∀ k, k < n → n ≤ die k → F k (x k) w) → (∀ j k, j < n → k < n → n ≤ die j → n ≤ die k → j ≠ k → P2 j k (x j) (x k)) → wpList P l.toArray Q (l.drop n) (fillOf a (l.take n) 0 x) w) : (Code.region id l.toArray true).wp P Q a w := by
 simp only [Bool.and_eq_true] at hB
 obtain ⟨x0, hx0⟩ := fill_start (l.take n) 0 a hB.2
 have hget : ∀ i o, i < n → l[i]? = some o → (l.take n)[i]? = some o := fun i o hi ho => by rw [List.getElem?_take]; simp [hi, ho]
 exact wp_region_flow n die (fillOf a (l.take n) 0) x0 R T F P2 hm hB.1 hx0.symm h0 hR hst
  (fun i hi o ho x v => by have := fill_put (l.take n) 0 a x i o v (hget i o hi ho) hB.2; rwa [Nat.zero_add] at this)
  (fun i hi o ho => by have := hstep.get (hget i o hi ho); rwa [Nat.zero_add] at this) hend
end
end Go
namespace Go.Proofs.YtnbdcnbhejfdhaaGreat
open Go.RowKit Go.WideShapes Go.ChangeShapes cl
abbrev Lab := ByteArray × ByteArray
def lcells (l : List Lab) : List Value := l.flatMap fun x => [.string x.1, .string x.2]
theorem lcells_get : ∀ (l : List Lab) (j : Nat) (h : j < l.length), (lcells l)[j * 2]? = some (.string l[j].1) ∧ (lcells l)[j * 2 + 1]? = some (.string l[j].2) := by
 intro l
 induction l with
 | nil => intro j h; simp at h
 | cons x l ih =>
  intro j h
  have e : lcells (x :: l) = .string x.1 :: .string x.2 :: lcells l := rfl
  rw [e]
  cases j with
  | zero => exact ⟨rfl, rfl⟩
  | succ j =>
   have := ih j (by simpa using h)
   rw [Nat.succ_mul]
   simpa using this
abbrev Labs (w : World) (B : Nat) (v : Value) (l : List Lab) : Prop := Cells w B v l.length 2 (lcells l)
theorem Labs.get {w : World} {B n c : Nat} {ao : Option Addr} {l : List Lab} (h : Labs w B (.slice ao n c) l) (hn : n = l.length) {j : Nat} (hj : j < n) : ∃ b off, ao = some ⟨b, off, none⟩ ∧ b < B ∧
  w.cell? ⟨b, off + j * 2, none⟩ = some (.string (l.getD j (.empty, .empty)).1) ∧ w.cell? ⟨b, off + j * 2 + 1, none⟩ = some (.string (l.getD j (.empty, .empty)).2) := by
 subst hn
 obtain ⟨_, ao', c', e, _, _, h4⟩ := h
 simp only [Value.slice.injEq] at e
 obtain ⟨rfl, _, rfl⟩ := e
 obtain ⟨b, off, rfl, hB, hc⟩ := h4 (by omega)
 obtain ⟨g0, g1⟩ := lcells_get l j hj
 have e : l.getD j (.empty, .empty) = l[j] := by simp [List.getD, hj]
 rw [e]
 exact ⟨b, off, rfl, hB, hc _ _ g0, hc _ _ g1⟩
end Go.Proofs.YtnbdcnbhejfdhaaGreat
namespace Go.Proofs.YtnbdcnbhejfdhaaGreat
open Go.RowKit Go.ChangeShapes cl
def lval : List Lab → ByteArray → ByteArray
 | [], _ => .empty
 | x :: l, n => if x.1 = n then x.2 else lval l n
theorem lval_skip : ∀ (l : List Lab) (k : Nat) (n : ByteArray), (∀ j, j < k → j < l.length → (l.getD j (.empty, .empty)).1 ≠ n) → lval l n = lval (l.drop k) n := by
 intro l
 induction l with
 | nil => intro k n _; simp
 | cons x l ih =>
  intro k n h
  cases k with
  | zero => rfl
  | succ k =>
   have h0 : x.1 ≠ n := by simpa using h 0 (by omega) (by simp)
   show (if x.1 = n then x.2 else lval l n) = _
   rw [if_neg h0, List.drop_succ_cons]
   exact ih k n fun j hj hl => by simpa using h (j + 1) (by omega) (by simpa using hl)
theorem lval_here {l : List Lab} {k : Nat} {n : ByteArray} (hk : k < l.length) (h : ∀ j, j < k → (l.getD j (.empty, .empty)).1 ≠ n) (he : (l.getD k (.empty, .empty)).1 = n) : lval l n = (l.getD k (.empty, .empty)).2 := by
 rw [lval_skip l k n fun j hj _ => h j hj, List.drop_eq_getElem_cons hk]
 have e : l.getD k (.empty, .empty) = l[k] := by simp [List.getD, hk]
 rw [e] at he ⊢
 show (if l[k].1 = n then l[k].2 else _) = _
 rw [if_pos he]
theorem lval_none {l : List Lab} {k : Nat} {n : ByteArray} (hk : l.length ≤ k) (h : ∀ j, j < k → (l.getD j (.empty, .empty)).1 ≠ n) : lval l n = .empty := by
 rw [lval_skip l k n fun j hj _ => h j hj, List.drop_eq_nil_of_le hk]
 rfl
def SaysT (s : ByteArray) (w : World) (e : Ending) (w' : World) : Prop := e = .returned (.string s) ∧ Below w.heap.size w w'
set_option maxHeartbeats 1600000 in
set_option maxRecDepth 100000 in
theorem value_any (l : List Lab) (v : Value) (x : ByteArray) (w : World) (h : Labs w w.heap.size v l) :
  Calls Tryz.prog 45 #[v, .string x] w (SaysT (lval l x) w) := by
 obtain ⟨n, hn⟩ : ∃ n, n = l.length := ⟨_, rfl⟩
 obtain ⟨ao, cap, rfl, hn63⟩ : ∃ ao cap, v = .slice ao n cap ∧ n ≤ 9223372036854775807 := by
  obtain ⟨ao, cap, e, _, h9⟩ := h.form
  unfold maxLen at h9
  exact ⟨ao, cap, by rw [hn]; exact e, by rw [hn]; exact h9⟩
 obtain ⟨R, hR⟩ : ∃ R, R = lval l x := ⟨_, rfl⟩
 rw [← hR]
 have HR := Lib.hid hR
 have HC := Lib.hid h
 have HN := Lib.hid hn
 clear h hn hR
 go_enter Tryz.func45, Tryz.ntmps45
 go_wp2
 go_loopw [6, 9] (fun _ i wr => ∃ k : Nat, i = .int .i64 k ∧ k ≤ n ∧ Hid (∀ j, j < k → (l.getD j (.empty, .empty)).1 ≠ x) ∧ Below w.heap.size w wr) (fun _ i _ => n - (intOf i).toNat)
 case atStart => exact ⟨0, rfl, by omega, fun j hj => absurd hj (Nat.not_lt_zero _), Below.refl _ _⟩
 case round =>
  obtain ⟨k, rfl, hk, HK, hbl⟩ := hrel
  have hzr := hbl.size
  by_cases hlt : k < n
  ·
   obtain ⟨b, off, rfl, hB, x0, x1⟩ := HC.out.get HN.out hlt
   have HKL : Hid (k < l.length) := by show k < l.length; rw [← HN.out]; exact hlt
   obtain ⟨⟨xa, xb⟩, hx⟩ : ∃ x, x = l.getD k (.empty, .empty) := ⟨_, rfl⟩
   rw [← hx] at x0 x1
   have HX := Lib.hid hx
   have c0 := (hbl.cell (p := ⟨b, off + k * 2, none⟩) hB).trans x0
   have c1 := (hbl.cell (p := ⟨b, off + k * 2 + 1, none⟩) hB).trans x1
   simp only at c0 c1
   have hkI : (k : Int) < (n : Int) := by omega
   have hbl2 := hbl.alloc hzr (.cells #[.string xa, .string xb] 82)
   clear hx x0 x1
   by_cases he : xa = x
   ·
    have HE : Hid (R = xb) := by
     show R = xb
     rw [HR.out, lval_here HKL.out HK.out (by rw [← HX.out]; exact he), ← HX.out]
    subst he
    go_wp2
    go_ret
    rw [HE.out]
    exact ⟨rfl, hbl2⟩
   ·
    have HK' : Hid (∀ j, j < k + 1 → (l.getD j (.empty, .empty)).1 ≠ x) := fun j hj => by
     by_cases e : j = k
     ·
      rw [e, ← HX.out]; exact he
     ·
      exact HK.out j (by omega)
    have hne : ¬ xa.toList = x.toList := fun e => he (ByteArray.ext (Array.ext' (by rw [← ByteArray.toList_eq, ← ByteArray.toList_eq]; exact e)))
    have hneb : (xa.toList == x.toList) = false := by simpa using hne
    clear he
    go_wp2
    go_roundw
    case rel => exact ⟨k + 1, by go_num, by omega, HK', hbl2⟩
    case measure => simp [intOf]; omega
  ·
   have HE : Hid (R = .empty) := by
    show R = .empty
    rw [HR.out, lval_none (k := k) (by rw [← HN.out]; omega) HK.out]
   go_wp2
   go_ret
   rw [HE.out]
   exact ⟨rfl, hbl⟩
end Go.Proofs.YtnbdcnbhejfdhaaGreat
namespace Go.Proofs.YtnbdcnbhejfdhaaGreat.lb
def NmOk (s : ByteArray) (k : Nat) : Prop := ∀ i, i < k → ((97 ≤ (kit.bytes s).getD i 0 ∧ (kit.bytes s).getD i 0 ≤ 122) ∨ (kit.bytes s).getD i 0 = 95) ∨ (48 ≤ (kit.bytes s).getD i 0 ∧ (kit.bytes s).getD i 0 ≤ 57 ∧ 0 < i)
instance (s : ByteArray) (k : Nat) : Decidable (NmOk s k) := inferInstanceAs (Decidable (∀ i, i < k → _))
def isName (s : ByteArray) : Bool := decide (1 ≤ s.size ∧ s.size ≤ 16 ∧ NmOk s s.size)
def VlOk (s : ByteArray) (k : Nat) : Prop := ∀ i, i < k → 32 ≤ (kit.bytes s).getD i 0 ∧ (kit.bytes s).getD i 0 ≤ 126
instance (s : ByteArray) (k : Nat) : Decidable (VlOk s k) := inferInstanceAs (Decidable (∀ i, i < k → _))
def isVal (s : ByteArray) : Bool := decide (s.size ≤ 32 ∧ VlOk s s.size)
theorem byte_at (s : ByteArray) (k : Nat) (h : k < s.size) : (kit.bytes s).getD k 0 = s[k].toNat := by
 simp only [List.getD, kit.bytes_get s k h, Option.getD_some]
theorem nm_succ {s : ByteArray} {k : Nat} (h : NmOk s k) (h2 : ((97 ≤ (kit.bytes s).getD k 0 ∧ (kit.bytes s).getD k 0 ≤ 122) ∨ (kit.bytes s).getD k 0 = 95) ∨ (48 ≤ (kit.bytes s).getD k 0 ∧ (kit.bytes s).getD k 0 ≤ 57 ∧ 0 < k)) : NmOk s (k + 1) := by
 intro i hi
 by_cases e : i = k
 ·
  subst e; exact h2
 ·
  exact h i (by omega)
theorem vl_succ {s : ByteArray} {k : Nat} (h : VlOk s k) (h2 : 32 ≤ (kit.bytes s).getD k 0 ∧ (kit.bytes s).getD k 0 ≤ 126) : VlOk s (k + 1) := by
 intro i hi
 by_cases e : i = k
 ·
  subst e; exact h2
 ·
  exact h i (by omega)
end Go.Proofs.YtnbdcnbhejfdhaaGreat.lb
namespace Go.Proofs.YtnbdcnbhejfdhaaGreat
open Go.RowKit Go.ChangeShapes
def Said (x : Bool) (w : World) (e : Ending) (w' : World) : Prop := e = .returned (.bool x) ∧ Below w.heap.size w w'
theorem below_drewN {B : Nat} {w w' : World} (h : Below B w w') (n : Nat) : Below B w (w'.drewN n) := by
 induction n with
 | zero => exact h
 | succ n ih => exact ih.drew
set_option maxHeartbeats 3200000 in
set_option maxRecDepth 100000 in
theorem isname_any (s : ByteArray) (w : World) (hs : s.size ≤ maxLen) :
  Calls Tryz.prog 104 #[.string s] w (Said (lb.isName s) w) := by
 unfold maxLen at hs
 have HE : Hid (lb.isName s = decide (1 ≤ s.size ∧ s.size ≤ 16 ∧ lb.NmOk s s.size)) := rfl
 obtain ⟨R, hR⟩ : ∃ R, R = lb.isName s := ⟨_, rfl⟩
 rw [← hR] at HE ⊢
 clear hR
 by_cases h1 : s.size < 1
 ·
  have HR : Hid (R = false) := by show _ = _; rw [HE.out]; exact decide_eq_false (fun h => by omega)
  have h1I : (s.size : Int) < 1 := by omega
  go_enter Tryz.func104, Tryz.ntmps104
  go_wp2
  go_ret
  rw [HR.out]; exact ⟨rfl, Below.refl _ _⟩
 have h1I : ¬ (s.size : Int) < 1 := by omega
 by_cases h2 : 16 < s.size
 ·
  have HR : Hid (R = false) := by show _ = _; rw [HE.out]; exact decide_eq_false (fun h => by omega)
  have h2I : (16 : Int) < (s.size : Int) := by omega
  go_enter Tryz.func104, Tryz.ntmps104
  go_wp2
  go_ret
  rw [HR.out]; exact ⟨rfl, Below.refl _ _⟩
 have h2I : ¬ (16 : Int) < (s.size : Int) := by omega
 have hb0 : Below w.heap.size w (w.iter s 0) := (Below.refl _ _).alloc (Nat.le_refl _) _
 go_enter Tryz.func104, Tryz.ntmps104
 go_wp2
 go_loopw [] (fun wr => ∃ pos : Nat, wr.heap[w.heap.size]? = some (.stringIter s pos) ∧ pos ≤ s.size ∧ Hid (lb.NmOk s pos) ∧ Below w.heap.size w wr) (fun wr => s.size - wr.iterPos w.heap.size)
 case atStart => exact ⟨0, World.iter_heap w s 0, Nat.zero_le _, fun i hi => absurd hi (Nat.not_lt_zero _), hb0⟩
 case round =>
  obtain ⟨pos, hit, hps, HNM, hbl⟩ := hrel
  have hsz : w.heap.size < wr.heap.size := (Array.getElem?_eq_some_iff.1 hit).1
  by_cases hp : pos < s.size
  ·
   have HBT := Lib.hid (lb.byte_at s pos hp)
   by_cases ha : (s[pos]'hp).toNat < 128
   ·
    have hnx : ∀ ty, (Instr.next (.pointer (some ⟨w.heap.size, 0, none⟩)) true ty).run Tryz.prog wr = _ := fun ty => Lib.run_next_ascii_at wr w.heap.size s pos ty hit hp ha
    have hit2 := Lib.iterAt_heap wr w.heap.size s pos (pos + 1) hit
    have hbw2 := Lib.below_iterAt hbl (k := w.heap.size) (by omega) s (pos + 1)
    have HBAD : Hid (¬ (((97 ≤ (s[pos]'hp).toNat ∧ (s[pos]'hp).toNat ≤ 122) ∨ (s[pos]'hp).toNat = 95) ∨ (48 ≤ (s[pos]'hp).toNat ∧ (s[pos]'hp).toNat ≤ 57 ∧ 0 < pos)) → R = false) := fun hn => by
     rw [HE.out]
     refine decide_eq_false (fun h => hn ?_)
     have := h.2.2 pos hp
     rw [HBT.out] at this; exact this
    have HGOOD : Hid ((((97 ≤ (s[pos]'hp).toNat ∧ (s[pos]'hp).toNat ≤ 122) ∨ (s[pos]'hp).toNat = 95) ∨ (48 ≤ (s[pos]'hp).toNat ∧ (s[pos]'hp).toNat ≤ 57 ∧ 0 < pos)) → lb.NmOk s (pos + 1)) := fun hg => lb.nm_succ HNM.out (by rw [HBT.out]; exact hg)
    have HM : Hid (s.size - (wr.iterAt w.heap.size s (pos + 1)).iterPos w.heap.size < s.size - wr.iterPos w.heap.size) := by
     show _ < _
     simp only [World.iterPos, hit2, hit]; omega
    obtain ⟨b, hb⟩ : ∃ b, b = (s[pos]'hp).toNat := ⟨_, rfl⟩
    rw [← hb] at hnx HBAD HGOOD ha
    clear hb
    have hb0I : (0 : Int) ≤ (b : Int) := by omega
    rcases (by omega : (97 ≤ b ∧ b ≤ 122) ∨ b = 95 ∨ (48 ≤ b ∧ b ≤ 57 ∧ 0 < pos) ∨ (48 ≤ b ∧ b ≤ 57 ∧ pos = 0) ∨ b < 48 ∨ (57 < b ∧ b < 97 ∧ b ≠ 95) ∨ 122 < b) with hc | hc | hc | hc | hc | hc | hc
    ·
     have HG := Lib.hid (HGOOD.out (by omega))
     have g0 : (97 : Int) ≤ (b : Int) := by omega
     have g1 : (b : Int) ≤ 122 := by omega
     clear hc
     go_wp2
     go_roundw
     case rel => exact ⟨pos + 1, hit2, by omega, HG.out, hbw2⟩
     case measure => exact HM.out
    ·
     have HG := Lib.hid (HGOOD.out (by omega))
     subst hc
     go_wp2
     go_roundw
     case rel => exact ⟨pos + 1, hit2, by omega, HG.out, hbw2⟩
     case measure => exact HM.out
    ·
     have HG := Lib.hid (HGOOD.out (by omega))
     have g0 : ¬ (97 : Int) ≤ (b : Int) := by omega
     have g1 : ((b : Int) == 95) = false := by simp; omega
     have g2 : (48 : Int) ≤ (b : Int) := by omega
     have g3 : (b : Int) ≤ 57 := by omega
     have g4 : 0 < pos := by omega
     clear hc
     go_wp2
     go_roundw
     case rel => exact ⟨pos + 1, hit2, by omega, HG.out, hbw2⟩
     case measure => exact HM.out
    ·
     have HR := Lib.hid (HBAD.out (by omega))
     have g0 : ¬ (97 : Int) ≤ (b : Int) := by omega
     have g1 : ((b : Int) == 95) = false := by simp; omega
     have g2 : (48 : Int) ≤ (b : Int) := by omega
     have g3 : (b : Int) ≤ 57 := by omega
     have g4 : ¬ 0 < pos := by omega
     clear hc
     go_wp2
     go_ret
     rw [HR.out]; exact ⟨rfl, hbw2⟩
    ·
     have HR := Lib.hid (HBAD.out (by omega))
     have g0 : ¬ (97 : Int) ≤ (b : Int) := by omega
     have g1 : ((b : Int) == 95) = false := by simp; omega
     have g2 : ¬ (48 : Int) ≤ (b : Int) := by omega
     clear hc
     go_wp2
     go_ret
     rw [HR.out]; exact ⟨rfl, hbw2⟩
    ·
     have HR := Lib.hid (HBAD.out (by omega))
     have g0 : ¬ (97 : Int) ≤ (b : Int) := by omega
     have g1 : ((b : Int) == 95) = false := by simp; omega
     have g2 : (48 : Int) ≤ (b : Int) := by omega
     have g3 : ¬ (b : Int) ≤ 57 := by omega
     clear hc
     go_wp2
     go_ret
     rw [HR.out]; exact ⟨rfl, hbw2⟩
    ·
     have HR := Lib.hid (HBAD.out (by omega))
     have g0 : (97 : Int) ≤ (b : Int) := by omega
     have g1 : ¬ (b : Int) ≤ 122 := by omega
     have g2 : ((b : Int) == 95) = false := by simp; omega
     have g3 : (48 : Int) ≤ (b : Int) := by omega
     have g4 : ¬ (b : Int) ≤ 57 := by omega
     clear hc
     go_wp2
     go_ret
     rw [HR.out]; exact ⟨rfl, hbw2⟩
   ·
    have hnx : ∀ ty, (Instr.next (.pointer (some ⟨w.heap.size, 0, none⟩)) true ty).run Tryz.prog wr = _ := fun ty => Lib.run_next_any_at wr w.heap.size s pos ty hit hp
    have hh := (decode_high s pos hp (by omega)).1
    obtain ⟨r, hr⟩ : ∃ r, r = (Utf8.decode s pos).1 := ⟨_, rfl⟩
    obtain ⟨d, hd⟩ : ∃ d, d = (Utf8.decode s pos).2 := ⟨_, rfl⟩
    rw [← hr, ← hd] at hnx
    rw [← hr] at hh
    have hbw2 := Lib.below_iterAt hbl (k := w.heap.size) (by omega) s (pos + d)
    have HR : Hid (R = false) := by
     show _ = _
     rw [HE.out]
     refine decide_eq_false (fun h => ?_)
     have := h.2.2 pos hp
     rw [HBT.out] at this; omega
    have g1 : (97 : Int) ≤ (r : Int) := by omega
    have g2 : ¬ (r : Int) ≤ 122 := by omega
    have g3 : ((r : Int) == 95) = false := by simp; omega
    have g4 : (48 : Int) ≤ (r : Int) := by omega
    have g5 : ¬ (r : Int) ≤ 57 := by omega
    clear hr hd hh
    go_wp2
    go_ret
    rw [HR.out]; exact ⟨rfl, hbw2⟩
  ·
   have hnx : ∀ ty, (Instr.next (.pointer (some ⟨w.heap.size, 0, none⟩)) true ty).run Tryz.prog wr = _ := fun ty => Lib.run_next_end_at wr w.heap.size s pos ty hit hp
   obtain rfl : pos = s.size := by omega
   have HR : Hid (R = true) := by show _ = _; rw [HE.out]; exact decide_eq_true ⟨by omega, by omega, HNM.out⟩
   go_wp2
   go_ret
   rw [HR.out]; exact ⟨rfl, hbl⟩
end Go.Proofs.YtnbdcnbhejfdhaaGreat
