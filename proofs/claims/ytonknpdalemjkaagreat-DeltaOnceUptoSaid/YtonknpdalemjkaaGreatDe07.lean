/- texts put together: DotLaw, DotF, HeldW. -/
import Derived.Test.YtonknpdalemjkaaGreatDe06
import Derived.Deep.RegionHeld3
namespace Go.Proofs.YtonknpdalemjkaaGreat.dm
theorem from_knows {l L : List Dot} (hp : L.Perm (l.filter fun d => valid d)) (hu : Up L) : Right (layF (fun _ => 0) L) ∧ ∀ d, Knows (layF (fun _ => 0) L) d ↔ valid d = true ∧ d ∈ l := by
 have hv : ∀ d ∈ L, valid d = true := fun d hd => (List.mem_filter.1 (hp.mem_iff.1 hd)).2
 obtain ⟨h1, h2⟩ := lay_right (K := fun _ => 0) (fun _ => ⟨Int.le_refl _, by omega⟩) hu hv
 refine ⟨h1, fun d => ?_⟩
 rw [h2 d, hp.mem_iff, List.mem_filter]
 constructor
 ·
  rintro ⟨a, b | b⟩
  ·
   have := (valid_iff d).1 a
   omega
  ·
   exact ⟨a, b.1⟩
 ·
  rintro ⟨a, b⟩
  exact ⟨a, Or.inr ⟨b, a⟩⟩
theorem add_knows {c : Ctx} {d : Dot} {L : List Dot} (hc : Right c) (hd : valid d = true) (hp : L.Perm (c.2 ++ [d])) (hu : Up L) : Right (layF (kn c.1) L) ∧ ∀ e, Knows (layF (kn c.1) L) e ↔ Knows c e ∨ e = d := by
 have hv : ∀ e ∈ L, valid e = true := fun e he => by
  rcases List.mem_append.1 (hp.mem_iff.1 he) with h | h
  ·
   exact (hc.cok e h).1
  ·
   simp only [List.mem_cons, List.not_mem_nil, or_false] at h
   rw [h]; exact hd
 obtain ⟨h1, h2⟩ := lay_right hc.kn0 hu hv
 refine ⟨h1, fun e => ?_⟩
 rw [h2 e, hp.mem_iff, List.mem_append]
 simp only [List.mem_cons, List.not_mem_nil, or_false]
 constructor
 ·
  rintro ⟨a, b | b | b⟩
  ·
   exact Or.inl ⟨a, Or.inl b⟩
  ·
   exact Or.inl ⟨a, Or.inr b⟩
  ·
   exact Or.inr b
 ·
  rintro (⟨a, b | b⟩ | b)
  ·
   exact ⟨a, Or.inl b⟩
  ·
   exact ⟨a, Or.inr (Or.inl b)⟩
  ·
   exact ⟨by rw [b]; exact hd, Or.inr (Or.inr b)⟩
theorem join_knows {a b : Ctx} {L : List Dot} (ha : Right a) (hb : Right b) (hp : L.Perm (a.2 ++ b.2)) (hu : Up L) :
  Right (layF (fun n => max (kn a.1 n) (kn b.1 n)) L) ∧ ∀ e, Knows (layF (fun n => max (kn a.1 n) (kn b.1 n)) L) e ↔ Knows a e ∨ Knows b e := by
 have hv : ∀ e ∈ L, valid e = true := fun e he => by
  rcases List.mem_append.1 (hp.mem_iff.1 he) with h | h
  ·
   exact (ha.cok e h).1
  ·
   exact (hb.cok e h).1
 obtain ⟨h1, h2⟩ := lay_right (K := fun n => max (kn a.1 n) (kn b.1 n)) (fun n => by have := ha.kn0 n; have := hb.kn0 n; omega) hu hv
 refine ⟨h1, fun e => ?_⟩
 rw [h2 e, hp.mem_iff, List.mem_append]
 constructor
 ·
  rintro ⟨x, y | y | y⟩
  ·
   rcases (by omega : e.2 ≤ kn a.1 e.1 ∨ e.2 ≤ kn b.1 e.1) with z | z
   ·
    exact Or.inl ⟨x, Or.inl z⟩
   ·
    exact Or.inr ⟨x, Or.inl z⟩
  ·
   exact Or.inl ⟨x, Or.inr y⟩
  ·
   exact Or.inr ⟨x, Or.inr y⟩
 ·
  rintro (⟨x, y | y⟩ | ⟨x, y | y⟩)
  ·
   exact ⟨x, Or.inl (by omega)⟩
  ·
   exact ⟨x, Or.inr (Or.inl y)⟩
  ·
   exact ⟨x, Or.inl (by omega)⟩
  ·
   exact ⟨x, Or.inr (Or.inr y)⟩
end Go.Proofs.YtonknpdalemjkaaGreat.dm
namespace Go.Proofs.YtonknpdalemjkaaGreat.dm
theorem step_prev (s : St) (d : Dot) : (step s d).prev = some d := by
 unfold step
 split
 ·
  rfl
 ·
  split <;> rfl
theorem run_prev (K : Int → Int) (l : List Dot) : (run K l).prev = l.getLast? := by
 rcases List.eq_nil_or_concat l with rfl | ⟨p, d, rfl⟩
 ·
  rfl
 ·
  rw [List.concat_eq_append, run_snoc, step_prev]; simp
theorem step_len (s : St) (d : Dot) : (step s d).cloud.length ≤ s.cloud.length + 1 := by
 unfold step
 split
 ·
  exact Nat.le_succ _
 ·
  split
  ·
   exact Nat.le_succ _
  ·
   simp
theorem fold_len : ∀ (l : List Dot) (s : St), (l.foldl step s).cloud.length ≤ s.cloud.length + l.length := by
 intro l
 induction l with
 | nil => intro s; simp
 | cons d r ih =>
  intro s
  have h1 := ih (step s d)
  have h2 := step_len s d
  rw [List.foldl_cons, List.length_cons]
  omega
theorem run_len (K : Int → Int) (l : List Dot) : (run K l).cloud.length ≤ l.length := by
 have := fold_len l ⟨K, [], none⟩
 simpa [run] using this
def layVn (K : Int → Int) (n : Nat) : List Dot := (List.range n).filterMap fun i : Nat => if 0 < K i then some ((i : Int), K i) else none
theorem layVn_pos {K : Int → Int} {n : Nat} (h : 0 < K n) : layVn K (n + 1) = layVn K n ++ [((n : Int), K n)] := by
 unfold layVn
 rw [List.range_succ, List.filterMap_append]
 simp [h]
theorem layVn_neg {K : Int → Int} {n : Nat} (h : ¬ 0 < K n) : layVn K (n + 1) = layVn K n := by
 unfold layVn
 rw [List.range_succ, List.filterMap_append]
 simp [h]
theorem layVn_len (K : Int → Int) (n : Nat) : (layVn K n).length ≤ n := by
 have := List.length_filterMap_le (fun i : Nat => if 0 < K i then some ((i : Int), K i) else none) (List.range n)
 simpa [layVn] using this
theorem layV_n (K : Int → Int) : layV K = layVn K 16 := rfl
theorem layF_len1 (K : Int → Int) (l : List Dot) : (layF K l).1.length ≤ 16 := layVn_len _ 16
theorem layF_len2 (K : Int → Int) (l : List Dot) : (layF K l).2.length ≤ l.length := run_len K l
structure Is (c : Ctx) (S : Dot → Prop) (m : Nat) : Prop where
 right : Right c
 know : ∀ d, Knows c d ↔ S d
 len1 : c.1.length ≤ 16
 len2 : c.2.length ≤ m
theorem Is.eq {a b : Ctx} {S T : Dot → Prop} {m n : Nat} (ha : Is a S m) (hb : Is b T n) (h : ∀ d, S d ↔ T d) : a = b :=
 ext ha.right hb.right fun d => by rw [ha.know, hb.know]; exact h d
theorem kn_first : ∀ (l : List Dot) (i : Nat) (n : Int) (h : i < l.length), l[i].1 = n → (∀ j (hj : j < i), (l[j]'(by omega)).1 ≠ n) → kn l n = l[i].2 := by
 intro l
 induction l with
 | nil => intro i n h; simp at h
 | cons e r ih =>
  intro i n h he hno
  cases i with
  | zero =>
   simp only [List.getElem_cons_zero] at he ⊢
   rw [kn_cons, if_pos he]
  | succ i =>
   have h0 := hno 0 (by omega)
   simp only [List.getElem_cons_zero] at h0
   simp only [List.getElem_cons_succ] at he ⊢
   rw [kn_cons, if_neg h0]
   refine ih i n (by simpa using h) he fun j hj => ?_
   have := hno (j + 1) (by omega)
   simpa using this
theorem kn_none {l : List Dot} {n : Int} (h : ∀ d ∈ l, d.1 ≠ n) : kn l n = 0 := by
 rcases kn_cases l n with ⟨e, _⟩ | hm
 ·
  exact e
 ·
  exact absurd rfl (h _ hm)
theorem first_or (l : List Dot) (n : Int) : (∀ j (hj : j < l.length), l[j].1 ≠ n) ∨ ∃ i, ∃ h : i < l.length, l[i].1 = n ∧ ∀ j (hj : j < i), (l[j]'(by omega)).1 ≠ n := by
 have : ∀ k, k ≤ l.length → (∀ j (_ : j < k) (hj : j < l.length), l[j].1 ≠ n) ∨ ∃ i, ∃ h : i < l.length, l[i].1 = n ∧ ∀ j (hj : j < i), (l[j]'(by omega)).1 ≠ n := by
  intro k
  induction k with
  | zero => intro _; exact Or.inl fun j hj => absurd hj (by omega)
  | succ k ih =>
   intro hk
   rcases ih (by omega) with h | h
   ·
    by_cases he : (l[k]'(by omega)).1 = n
    ·
     exact Or.inr ⟨k, by omega, he, fun j hj => h j hj _⟩
    ·
     refine Or.inl fun j hj hj2 => ?_
     by_cases e : j = k
     ·
      subst e; exact he
     ·
      exact h j (by omega) hj2
   ·
    exact Or.inr h
 rcases this l.length (Nat.le_refl _) with h | h
 ·
  exact Or.inl fun j hj => h j hj hj
 ·
  exact Or.inr h
end Go.Proofs.YtonknpdalemjkaaGreat.dm
namespace Go
section
variable {P : Program} {ops : Array Oper} {Q : Exit → Act → World → Prop} {S : World → Prop}
def HW (P : Program) (ops : Array Oper) (Q : Exit → Act → World → Prop) (S : World → Prop) : List Oper → List Bool → Act → World → Prop
 | [], _, a, w => Q .normal a w
 | _ :: _, [], _, _ => False
 | o :: l, f :: fs, a, w =>
  (Region.wanted o (yielded ops a.tmps) = false ∧ HW P ops Q S l fs (a.put o.dst undef) w) ∨
  (Region.wanted o (yielded ops a.tmps) = true ∧
   if f = true then o.wp P a w (fun a' w' => S w' ∧ HW P ops Q S l fs a' w') Q
   else ∃ v, (∀ w, S w → (execOp a.eval o).run P w = .ok (.value v) w) ∧ HW P ops Q S l fs (a.put o.dst v) w)
theorem HW.skip {o : Oper} {l : List Oper} {f : Bool} {fs : List Bool} {a : Act} {w : World} (hw : Region.wanted o (yielded ops a.tmps) = false)
  (h : HW P ops Q S l fs (a.put o.dst undef) w) : HW P ops Q S (o :: l) (f :: fs) a w := Or.inl ⟨hw, h⟩
theorem HW.take {o : Oper} {l : List Oper} {fs : List Bool} {a : Act} {w : World} (v : Value) (hw : Region.wanted o (yielded ops a.tmps) = true)
  (hy : ∀ w, S w → (execOp a.eval o).run P w = .ok (.value v) w) (h : HW P ops Q S l fs (a.put o.dst v) w) : HW P ops Q S (o :: l) (false :: fs) a w :=
 Or.inr ⟨hw, by rw [if_neg Bool.false_ne_true]; exact ⟨v, hy, h⟩⟩
theorem HW.run {o : Oper} {l : List Oper} {fs : List Bool} {a : Act} {w : World} (hw : Region.wanted o (yielded ops a.tmps) = true)
  (h : ∀ K : Act → World → Prop, Shut (∀ a w, S w → (S w → HW P ops Q S l fs a w) → K a w) → o.wp P a w K Q) : HW P ops Q S (o :: l) (true :: fs) a w :=
 Or.inr ⟨hw, by rw [if_pos rfl]; exact h _ (fun a w hS hW => ⟨hS, hW hS⟩)⟩
def planB (md : Region.Mode) (ops : Array Oper) : List Bool → Nat → Array Bool → Bool
 | [], _, listed => (Region.ready md ops listed).isEmpty
 | f :: fs, k, listed => (if f then decide (Region.ready md ops listed = [k]) else (Region.ready md ops listed).contains k && Region.free md ops listed k) && planB md ops fs (k + 1) (listed.setIfInBounds k true)
theorem HW.sound {md : Region.Mode} (hsel : Region.noSelect ops = true) (hQ : ∀ c d v a w, Q (.panic c) (Act.put a d v) w → Q (.panic c) a w) :
  ∀ (l : List Oper) (fs : List Bool) (k : Nat) (listed : Array Bool) (a : Act) (w : World), (∀ j, l[j]? = ops[k + j]?) → fs.length = l.length → planB md ops fs k listed = true →
   S w → HW P ops Q S l fs a w → wpAnyH P md ops Q S l.length listed a w := by
 intro l
 induction l with
 | nil =>
  intro fs k listed a w _ hlen hB _ h
  obtain rfl : fs = [] := List.eq_nil_of_length_eq_zero (by simpa using hlen)
  exact ⟨by simpa [planB] using hB, h⟩
 | cons o l ih =>
  intro fs k listed a w hl hlen hB hS h
  cases fs with
  | nil => simp at hlen
  | cons f fs =>
   have h0 : ops[k]? = some o := by simpa using (hl 0).symm
   have hl' : ∀ j, l[j]? = ops[k + 1 + j]? := fun j => by
    have := hl (j + 1)
    rw [show k + 1 + j = k + (j + 1) by omega, ← this]
    simp
   have hlen' : fs.length = l.length := by simpa using hlen
   simp only [planB, Bool.and_eq_true] at hB
   obtain ⟨hf, hB'⟩ := hB
   cases f with
   | false =>
    simp only [Bool.false_eq_true, if_false, Bool.and_eq_true] at hf
    rcases h with ⟨hw, h⟩ | ⟨hw, h⟩
    ·
     exact wpAnyH_take h0 hsel hf.2 hf.1 (fun c a w => hQ c _ _ a w) (Or.inr ⟨hw, rfl⟩) hS (ih fs (k + 1) _ _ _ hl' hlen' hB' hS h)
    ·
     rw [if_neg Bool.false_ne_true] at h
     obtain ⟨v, hy, h⟩ := h
     exact wpAnyH_take h0 hsel hf.2 hf.1 (fun c a w => hQ c _ _ a w) (Or.inl ⟨hw, hy⟩) hS (ih fs (k + 1) _ _ _ hl' hlen' hB' hS h)
   | true =>
    simp only [if_true, decide_eq_true_eq] at hf
    refine wpAnyH_all hf (by simp) fun i hi => ?_
    obtain rfl : i = k := by simpa using hi
    unfold wpOp
    simp only [h0]
    rcases h with ⟨hw, h⟩ | ⟨hw, h⟩
    ·
     rw [if_neg (by rw [hw]; exact Bool.false_ne_true)]
     exact ⟨hS, ih fs (i + 1) _ _ _ hl' hlen' hB' hS h⟩
    ·
     rw [if_pos hw]
     rw [if_pos rfl] at h
     exact Or.inl (Oper.wp_mono (fun a' w' h' => ⟨h'.1, ih fs (i + 1) _ _ _ hl' hlen' hB' h'.1 h'.2⟩) h)
theorem wp_region_plan {id : Nat} {a : Act} {w : World} {l : List Oper} (fs : List Bool) (S : World → Prop) (hm : P.follows .mixedOrders = true)
  (hB : (Region.noSelect l.toArray && decide (fs.length = l.length) && planB .any l.toArray fs 0 (Array.replicate l.toArray.size false)) = true)
  (hS : S w.drew) (h : S w.drew → HW P l.toArray (NoPanic Q) S l fs a w.drew) : (Code.region id l.toArray true).wp P Q a w := by
 simp only [Bool.and_eq_true, decide_eq_true_eq] at hB
 obtain ⟨⟨hsel, hlen⟩, hB⟩ := hB
 refine wp_region_noPanic (wp_region_held (S := S) hm ?_)
 have := HW.sound (md := .any) hsel (fun _ _ _ _ _ h => h) l fs 0 (Array.replicate l.toArray.size false) a w.drew (fun j => by simp) hlen hB hS (h hS)
 simpa using this
theorem HW.done {a : Act} {w : World} (h : Q .normal a w) : HW P ops (NoPanic Q) S [] [] a w := h
end
end Go
