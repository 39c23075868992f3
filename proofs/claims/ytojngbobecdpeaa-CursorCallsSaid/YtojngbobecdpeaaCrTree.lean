/- trees of cursors of the call's own, told with the blocks that their rows lie in. -/
import Derived.Test.YtojngbobecdpeaaCurT
import Derived.Test.YtojngbobecdpeaaCurApp
namespace Go.Proofs.Ytojngbobecdpeaa
open Go Go.RowKit Go.ChangeShapes at_ pm cl
/-- cursors in a row of the call's own: its block, and those of each one, are unlike -/
def OTs (R : World → List Value → Cur → List Nat → Prop) (W : World) (v : Value) (l : List Cur) (bs : List Nat) : Prop :=
  ∃ (cs : List (List Value)) (bss : List (List Nat)), cs.length = l.length ∧ bss.length = l.length ∧ (∀ (j : Nat) (c : List Value) (y : Cur) (b : List Nat), cs[j]? = some c → l[j]? = some y → bss[j]? = some b → c.length = 4 ∧ R W c y b) ∧
    W.ownsRow 0 25 4 v l.length cs.flatten ∧ bs = v.ownBlock.toList ++ bss.flatten ∧ bs.Nodup
def OT : Nat → World → List Value → Cur → List Nat → Prop
  | 0 => fun _ _ _ _ => False
  | d + 1 => fun W c x bs => ∃ (lo : Option Addr) (ln lc : Nat) (ko : Option Addr) (kn kc : Nat), c = [.int .i64 x.k, .slice lo ln lc, .int .i64 x.a, .slice ko kn kc] ∧ At W W.heap.size (.slice lo ln lc) x.l ∧ TyI W lo ln ∧ OTs (OT d) W (.slice ko kn kc) x.ks bs
theorem OT.form : ∀ {d : Nat} {W : World} {c : List Value} {x : Cur} {bs : List Nat}, OT d W c x bs → ∃ (lo : Option Addr) (ln lc : Nat) (ko : Option Addr) (kn kc : Nat), c = [.int .i64 x.k, .slice lo ln lc, .int .i64 x.a, .slice ko kn kc]
  | 0, _, _, _, _, h => h.elim
  | _ + 1, _, _, _, _, ⟨lo, ln, lc, ko, kn, kc, e, _⟩ => ⟨lo, ln, lc, ko, kn, kc, e⟩
theorem get3 {α β γ : Type} {cs : List α} {l : List β} {bss : List γ} {n j : Nat} (h1 : cs.length = n) (h2 : l.length = n) (h3 : bss.length = n) (hj : j < n) : ∃ c y b, cs[j]? = some c ∧ l[j]? = some y ∧ bss[j]? = some b :=
  ⟨_, _, _, List.getElem?_eq_getElem (by omega), List.getElem?_eq_getElem (by omega), List.getElem?_eq_getElem (by omega)⟩
theorem OT.cur : ∀ {d : Nat} {W : World} {c : List Value} {x : Cur} {bs : List Nat}, OT d W c x bs → curR d W W.heap.size c x
  | 0, _, _, _, _, h => h.elim
  | d + 1, W, c, x, bs, ⟨lo, ln, lc, ko, kn, kc, e, hA, _, cs, bss, h0, h1, h2, h3, _, _⟩ => by
    refine ⟨lo, ln, lc, ko, kn, kc, e, hA, RowsAt.own rfl h0 (fun j c y hc hy => ?_) h3⟩
    have hj := (List.getElem?_eq_some_iff.1 hy).1
    have h4 := h2 j c y _ hc hy (List.getElem?_eq_getElem (by omega))
    exact ⟨h4.1, h4.2.cur⟩
theorem OTs.rows {d : Nat} {W : World} {v : Value} {l : List Cur} {bs : List Nat} (h : OTs (OT d) W v l bs) : RowsAt 4 (curR d) W W.heap.size v l := by
  obtain ⟨cs, bss, h0, h1, h2, h3, _, _⟩ := h
  refine RowsAt.own rfl h0 (fun j c y hc hy => ?_) h3
  have hj := (List.getElem?_eq_some_iff.1 hy).1
  have h4 := h2 j c y _ hc hy (List.getElem?_eq_getElem (by omega))
  exact ⟨h4.1, h4.2.cur⟩
theorem own_block {W : World} {B k n : Nat} {T : TypeId} {v : Value} {xs : List Value} (h : W.ownsRow B T k v n xs) : ∀ b, v.ownBlock = some b → B ≤ b ∧ ∃ arr, W.heap[b]? = some (.cells arr T (0, 0)) := by
  intro b hb
  rcases h.2 with ⟨rfl, _⟩ | ⟨g, cap, cur, rfl, hB, hg, _⟩
  · simp [Value.ownBlock] at hb
  · simp only [Value.ownBlock, Option.some.injEq] at hb
    subst hb
    exact ⟨hB, cur, hg⟩
theorem OT.typed : ∀ {d : Nat} {W : World} {c : List Value} {x : Cur} {bs : List Nat}, OT d W c x bs → ∀ b ∈ bs, ∃ arr, W.heap[b]? = some (.cells arr 25 (0, 0))
  | 0, _, _, _, _, h => h.elim
  | d + 1, W, c, x, bs, ⟨lo, ln, lc, ko, kn, kc, e, hA, _, cs, bss, h0, h1, h2, h3, h4, _⟩ => by
    intro b hb
    rw [h4] at hb
    rcases List.mem_append.1 hb with hb | hb
    · exact (own_block h3 b (by simpa using hb)).2
    · obtain ⟨l, hl, hbl⟩ := List.mem_flatten.1 hb
      obtain ⟨j, hj, rfl⟩ := List.mem_iff_getElem.1 hl
      exact (h2 j _ _ _ (List.getElem?_eq_getElem (by omega)) (List.getElem?_eq_getElem (by omega)) (List.getElem?_eq_getElem hj)).2.typed b hbl
theorem OTs.typed {d : Nat} {W : World} {v : Value} {l : List Cur} {bs : List Nat} (h : OTs (OT d) W v l bs) : ∀ b ∈ bs, ∃ arr, W.heap[b]? = some (.cells arr 25 (0, 0)) := by
  obtain ⟨cs, bss, h0, h1, h2, h3, h4, _⟩ := h
  intro b hb
  rw [h4] at hb
  rcases List.mem_append.1 hb with hb | hb
  · exact (own_block h3 b (by simpa using hb)).2
  · obtain ⟨l, hl, hbl⟩ := List.mem_flatten.1 hb
    obtain ⟨j, hj, rfl⟩ := List.mem_iff_getElem.1 hl
    exact (h2 j _ _ _ (List.getElem?_eq_getElem (by omega)) (List.getElem?_eq_getElem (by omega)) (List.getElem?_eq_getElem hj)).2.typed b hbl
/-- blocks of numbers are as before -/
def KI (W W' : World) : Prop := W.heap.size ≤ W'.heap.size ∧ ∀ (j : Nat) (arr : Array Value) (fr : Nat × Nat), W.heap[j]? = some (.cells arr 3 fr) → W'.heap[j]? = W.heap[j]?
theorem KI.below {W W' : World} (h : Below W.heap.size W W') : KI W W' := ⟨h.size, fun j _ _ hj => h.block j (lt_of_block hj)⟩
theorem KI.trans {a b c : World} (h : KI a b) (k : KI b c) : KI a c := ⟨Nat.le_trans h.1 k.1, fun j arr fr hj => (k.2 j arr fr ((h.2 j arr fr hj).trans hj)).trans (h.2 j arr fr hj)⟩
theorem list_keep {W W' : World} {lo : Option Addr} {ln lc : Nat} {l : List Int} (h : At W W.heap.size (.slice lo ln lc) l) (ht : TyI W lo ln) (hk : KI W W') : At W' W'.heap.size (.slice lo ln lc) l ∧ TyI W' lo ln := by
  obtain ⟨ao, cap, e, h1, h2, h3⟩ := h
  refine ⟨⟨ao, cap, e, h1, h2, fun h0 => ?_⟩, fun h0 a ha => ?_⟩
  · obtain ⟨b, off, hao, hB, hc⟩ := h3 h0
    refine ⟨b, off, hao, Nat.lt_of_lt_of_le hB hk.1, fun j hj => ?_⟩
    simp only [Value.slice.injEq] at e
    obtain ⟨cs, fr, hb⟩ := ht (by omega) ⟨b, off, none⟩ (by rw [e.1, hao])
    rw [World.cell?_of_block (w := W) (hk.2 b cs fr hb)]
    exact hc j hj
  · obtain ⟨cs, fr, hb⟩ := ht h0 a ha
    exact ⟨cs, fr, (hk.2 _ cs fr hb).trans hb⟩
theorem row_keep {W W' : World} {B k n : Nat} {T : TypeId} {v : Value} {xs : List Value} (h : W.ownsRow B T k v n xs) (hk : ∀ b, v.ownBlock = some b → W'.heap[b]? = W.heap[b]?) : W'.ownsRow B T k v n xs := by
  refine ⟨h.1, ?_⟩
  rcases h.2 with h | ⟨g, cap, cur, hv, hb, hg, r⟩
  · exact Or.inl h
  · exact Or.inr ⟨g, cap, cur, hv, hb, by rw [hk g (by rw [hv]; rfl)]; exact hg, r⟩
theorem OT.keep : ∀ {d : Nat} {W W' : World} {c : List Value} {x : Cur} {bs : List Nat}, OT d W c x bs → KI W W' → (∀ b ∈ bs, W'.heap[b]? = W.heap[b]?) → OT d W' c x bs
  | 0, _, _, _, _, _, h, _, _ => h.elim
  | d + 1, W, W', c, x, bs, ⟨lo, ln, lc, ko, kn, kc, e, hA, hT, cs, bss, h0, h1, h2, h3, h4, h5⟩, hk, hb => by
    obtain ⟨g1, g2⟩ := list_keep hA hT hk
    refine ⟨lo, ln, lc, ko, kn, kc, e, g1, g2, cs, bss, h0, h1, fun j c y b hc hy hbj => ?_, row_keep h3 (fun b hb' => hb b (by rw [h4]; simp [hb'])), h4, h5⟩
    obtain ⟨g3, g4⟩ := h2 j c y b hc hy hbj
    refine ⟨g3, g4.keep hk (fun b' hb' => hb b' ?_)⟩
    rw [h4]
    exact List.mem_append_right _ (List.mem_flatten.2 ⟨b, List.mem_of_getElem? hbj, hb'⟩)
theorem OTs.keep {d : Nat} {W W' : World} {v : Value} {l : List Cur} {bs : List Nat} (h : OTs (OT d) W v l bs) (hk : KI W W') (hb : ∀ b ∈ bs, W'.heap[b]? = W.heap[b]?) : OTs (OT d) W' v l bs := by
  obtain ⟨cs, bss, h0, h1, h2, h3, h4, h5⟩ := h
  refine ⟨cs, bss, h0, h1, fun j c y b hc hy hbj => ?_, row_keep h3 (fun b hb' => hb b (by rw [h4]; simp [hb'])), h4, h5⟩
  obtain ⟨g3, g4⟩ := h2 j c y b hc hy hbj
  refine ⟨g3, g4.keep hk (fun b' hb' => hb b' ?_)⟩
  rw [h4]
  exact List.mem_append_right _ (List.mem_flatten.2 ⟨b, List.mem_of_getElem? hbj, hb'⟩)
theorem OTs.next {d : Nat} {W W' : World} {v : Value} {l : List Cur} {bs : List Nat} (h : OTs (OT d) W v l bs) (hb : Below W.heap.size W W') : OTs (OT d) W' v l bs :=
  h.keep (KI.below hb) (fun b hbb => by obtain ⟨arr, ha⟩ := h.typed b hbb; exact hb.block b (lt_of_block ha))
theorem OT.next {d : Nat} {W W' : World} {c : List Value} {x : Cur} {bs : List Nat} (h : OT d W c x bs) (hb : Below W.heap.size W W') : OT d W' c x bs :=
  h.keep (KI.below hb) (fun b hbb => by obtain ⟨arr, ha⟩ := h.typed b hbb; exact hb.block b (lt_of_block ha))
theorem OTs.nil (d : Nat) (W : World) : OTs (OT d) W (.slice none 0 0) [] [] := ⟨[], [], rfl, rfl, fun j c y b hc => by simp at hc, World.ownsRow_nil _ _ _ _, rfl, List.nodup_nil⟩
theorem OTs.nodup {d : Nat} {W : World} {v : Value} {l : List Cur} {bs : List Nat} (h : OTs (OT d) W v l bs) : bs.Nodup := by obtain ⟨_, _, _, _, _, _, _, h⟩ := h; exact h
theorem own_up {W : World} {B k n : Nat} {T : TypeId} {v : Value} {xs : List Value} (h : W.ownsRow 0 T k v n xs) (hb : ∀ b, v.ownBlock = some b → B ≤ b) : W.ownsRow B T k v n xs := by
  refine ⟨h.1, ?_⟩
  rcases h.2 with h | ⟨g, cap, cur, e, _, r⟩
  · exact Or.inl h
  · exact Or.inr ⟨g, cap, cur, e, hb g (by rw [e]; rfl), r⟩
theorem nodup_app {a b : List Nat} (ha : a.Nodup) (hb : b.Nodup) (h : ∀ x ∈ a, x ∉ b) : (a ++ b).Nodup := by
  rw [List.nodup_append]
  exact ⟨ha, hb, fun x hx y hy e => h x hx (e ▸ hy)⟩
/-- one more behind: what was appended, and where the row lies then -/
theorem OTs.snoc {d B n : Nat} {W0 W' : World} {v v' : Value} {l : List Cur} {bs b' : List Nat} {c : List Value} {x : Cur} {o : Obj} {cs : List (List Value)} {bss : List (List Nat)}
    (h0 : cs.length = l.length) (h1 : bss.length = l.length) (h2 : ∀ (j : Nat) (c : List Value) (y : Cur) (b : List Nat), cs[j]? = some c → l[j]? = some y → bss[j]? = some b → c.length = 4 ∧ OT d W0 c y b) (hn : n = l.length) (h3 : W0.ownsRow B 25 4 v n cs.flatten) (h4 : bs = v.ownBlock.toList ++ bss.flatten) (h5 : bs.Nodup)
    (hB : ∀ b ∈ bs, B ≤ b) (hx : OT d W0 c x b') (hx4 : c.length = 4) (hxB : ∀ b ∈ b', B ≤ b) (hxn : b'.Nodup) (hd : ∀ b ∈ b', b ∉ bs)
    (hO : W'.ownsRow B 25 4 v' (n + 1) (cs.flatten ++ c)) (hg : (W0.alloc o).grownBy W' v.ownBlock) (hv : v'.ownBlock = v.ownBlock ∨ ∀ b, v'.ownBlock = some b → (W0.alloc o).heap.size ≤ b) :
    ∃ bs', OTs (OT d) W' v' (l ++ [x]) bs' ∧ ∀ b ∈ bs', B ≤ b := by
  subst hn
  have hT : ∀ b ∈ bs, ∃ arr, W0.heap[b]? = some (.cells arr 25 (0, 0)) := by
    intro b hb
    rw [h4] at hb
    rcases List.mem_append.1 hb with hb | hb
    · exact (own_block h3 b (by simpa using hb)).2
    · obtain ⟨l, hl, hbl⟩ := List.mem_flatten.1 hb
      obtain ⟨j, hj, rfl⟩ := List.mem_iff_getElem.1 hl
      exact (h2 j _ _ _ (List.getElem?_eq_getElem (by omega)) (List.getElem?_eq_getElem (by omega)) (List.getElem?_eq_getElem hj)).2.typed b hbl
  have hsz : W0.heap.size ≤ (W0.alloc o).heap.size := by rw [World.size_alloc]; omega
  have hown : ∀ b, v.ownBlock = some b → b ∈ bs := fun b hb => by rw [h4]; simp [hb]
  have hnd : v.ownBlock.toList ++ bss.flatten = bs := h4.symm
  rw [h4] at h5
  have hn5 := h5
  rw [List.nodup_append] at hn5
  have hKI : KI W0 W' := by
    refine ⟨Nat.le_trans hsz hg.size, fun j arr fr hj => ?_⟩
    have hj0 := lt_of_block hj
    rw [hg.block j (by omega) ?_]
    · exact (below1 (w := W0) (o := o)).block j hj0
    · intro e
      obtain ⟨arr', ha'⟩ := (own_block h3 j e.symm).2
      rw [hj] at ha'
      simp only [Option.some.injEq, Obj.cells.injEq] at ha'
      exact absurd ha'.2.1 (by decide)
  have hkeep : ∀ b, b < W0.heap.size → v.ownBlock ≠ some b → W'.heap[b]? = W0.heap[b]? := fun b hb hne => by
    rw [hg.block b (by omega) (fun e => hne e.symm)]
    exact (below1 (w := W0) (o := o)).block b hb
  have hxT := hx.typed
  have hv' : ∀ b, v'.ownBlock = some b → b ∉ bss.flatten ∧ b ∉ b' := by
    intro b hb
    rcases hv with hv | hv
    · rw [hv] at hb
      refine ⟨fun hm => hn5.2.2 b (by simp [hb]) b hm rfl, fun hm => hd b hm (hown b hb)⟩
    · have := hv b hb
      refine ⟨fun hm => ?_, fun hm => ?_⟩
      · obtain ⟨arr, ha⟩ := hT b (by rw [← hnd]; exact List.mem_append_right _ hm)
        have := lt_of_block ha; omega
      · obtain ⟨arr, ha⟩ := hxT b hm
        have := lt_of_block ha; omega
  refine ⟨v'.ownBlock.toList ++ (bss ++ [b']).flatten, ⟨cs ++ [c], bss ++ [b'], by simp [h0], by simp [h1], ?_, ?_, rfl, ?_⟩, ?_⟩
  · intro j c1 y1 b1 hc hy hb
    rcases Nat.lt_or_ge j l.length with hj | hj
    · rw [List.getElem?_append_left (by omega)] at hc hy hb
      obtain ⟨g1, g2⟩ := h2 j c1 y1 b1 hc hy hb
      refine ⟨g1, g2.keep hKI (fun b hbb => hkeep b ?_ (fun e => ?_))⟩
      · obtain ⟨arr, ha⟩ := g2.typed b hbb; exact lt_of_block ha
      · exact hn5.2.2 b (by simp [e]) b (List.mem_flatten.2 ⟨b1, List.mem_of_getElem? hb, hbb⟩) rfl
    · have hjl : j = l.length := by
        have := (List.getElem?_eq_some_iff.1 hy).1
        simp at this; omega
      subst hjl
      rw [List.getElem?_append_right (by omega), Nat.sub_self] at hy
      rw [List.getElem?_append_right (by omega), h0, Nat.sub_self] at hc
      rw [List.getElem?_append_right (by omega), h1, Nat.sub_self] at hb
      cases hc; cases hy; cases hb
      refine ⟨hx4, hx.keep hKI (fun b hbb => hkeep b ?_ (fun e => hd b hbb (hown b e)))⟩
      obtain ⟨arr, ha⟩ := hxT b hbb; exact lt_of_block ha
  · rw [List.flatten_append, List.length_append]
    simp only [List.flatten_cons, List.flatten_nil, List.append_nil, List.length_singleton]
    refine ⟨hO.1, ?_⟩
    rcases hO.2 with h | ⟨g, cap, cur, e, _, r⟩
    · exact Or.inl h
    · exact Or.inr ⟨g, cap, cur, e, Nat.zero_le _, r⟩
  · rw [List.flatten_append]
    simp only [List.flatten_cons, List.flatten_nil, List.append_nil]
    refine nodup_app ?_ (nodup_app hn5.2.1 hxn ?_) ?_
    · cases v'.ownBlock <;> simp
    · intro b hb hb'
      exact hd b hb' (by rw [← hnd]; exact List.mem_append_right _ hb)
    · intro b hb hm
      obtain ⟨g1, g2⟩ := hv' b (by simpa using hb)
      rcases List.mem_append.1 hm with hm | hm
      · exact g1 hm
      · exact g2 hm
  · intro b hb
    rw [List.flatten_append] at hb
    simp only [List.flatten_cons, List.flatten_nil, List.append_nil] at hb
    rcases List.mem_append.1 hb with hb | hb
    · exact (own_block hO b (by simpa using hb)).1
    · rcases List.mem_append.1 hb with hb | hb
      · exact hB b (by rw [← hnd]; exact List.mem_append_right _ hb)
      · exact hxB b hb
/-- all blocks but these are as before -/
def KB (bs : List Nat) (W W' : World) : Prop := (W'.os = W.os ∧ W'.tape = W.tape ∧ W'.output = W.output) ∧ W.heap.size ≤ W'.heap.size ∧ ∀ j, j < W.heap.size → j ∉ bs → W'.heap[j]? = W.heap[j]?
theorem KB.below {bs : List Nat} {W W' : World} (h : Below W.heap.size W W') : KB bs W W' := ⟨⟨h.os, h.tape, h.output⟩, h.size, fun j hj _ => h.block j hj⟩
theorem KB.refl {bs : List Nat} {W : World} : KB bs W W := ⟨⟨rfl, rfl, rfl⟩, Nat.le_refl _, fun _ _ _ => rfl⟩
theorem KB.trans {bs bs' : List Nat} {a b c : World} (h : KB bs a b) (k : KB bs' b c) (hs : ∀ x ∈ bs', x ∈ bs ∨ a.heap.size ≤ x) : KB bs a c := by
  obtain ⟨⟨h1, h2, h3⟩, h4, h5⟩ := h
  obtain ⟨⟨k1, k2, k3⟩, k4, k5⟩ := k
  refine ⟨⟨k1.trans h1, k2.trans h2, k3.trans h3⟩, Nat.le_trans h4 k4, fun j hj hn => (k5 j (by omega) (fun hm => ?_)).trans (h5 j hj hn)⟩
  rcases hs j hm with h | h
  · exact hn h
  · omega
theorem KB.to {bs : List Nat} {W W' : World} {B : Nat} (h : KB bs W W') (hs : ∀ x ∈ bs, B ≤ x) (hB : B ≤ W.heap.size) : Below B W W' :=
  ⟨h.1.1, h.1.2.1, h.1.2.2, h.2.1, fun j hj => h.2.2 j (by omega) (fun hm => by have := hs j hm; omega)⟩
/-- one of them is another one now, in its place -/
theorem OTs.put {d k : Nat} {W W1 W2 : World} {v : Value} {l : List Cur} {bs b' : List Nat} {c' : List Value} {x : Cur} {g : Nat} {cs : List (List Value)} {bss : List (List Nat)}
    (h0 : cs.length = l.length) (h1 : bss.length = l.length) (h2 : ∀ (j : Nat) (c : List Value) (y : Cur) (b : List Nat), cs[j]? = some c → l[j]? = some y → bss[j]? = some b → c.length = 4 ∧ OT d W c y b) (_h3 : W.ownsRow 0 25 4 v l.length cs.flatten) (h4 : bs = v.ownBlock.toList ++ bss.flatten) (h5 : bs.Nodup)
    (hgv : v.ownBlock = some g) (hk : k < l.length) (hb' : bss[k]? = some b') (hc' : OT d W1 c' x b') (hc4 : c'.length = 4) (hK1 : KB b' W W1) (hs : W1.heap.size ≤ W2.heap.size) (hK2 : ∀ j, j ≠ g → W2.heap[j]? = W1.heap[j]?) (hO : W2.ownsRow 0 25 4 v l.length ((cs.set k c').flatten)) :
    OTs (OT d) W2 v (l.set k x) bs := by
  rw [h4, List.nodup_append] at h5
  obtain ⟨n1, n2, n3⟩ := h5
  have hgb : g ∉ bss.flatten := fun hm => n3 g (by simp [hgv]) g hm rfl
  have hb'm : ∀ b ∈ b', b ∈ bss.flatten := fun b hb => List.mem_flatten.2 ⟨b', List.mem_of_getElem? hb', hb⟩
  have hw := List.pairwise_flatten.1 n2
  have hdj : ∀ (j : Nat) (b1 : List Nat), j ≠ k → bss[j]? = some b1 → ∀ b ∈ b1, b ∉ b' := by
    intro j b1 hjk hb1 b hb hbb
    have hjl := (List.getElem?_eq_some_iff.1 hb1).1
    have hkl := (List.getElem?_eq_some_iff.1 hb').1
    have e1 := (List.getElem?_eq_some_iff.1 hb1).2
    have e2 := (List.getElem?_eq_some_iff.1 hb').2
    rcases Nat.lt_or_gt_of_ne hjk with h | h
    · have := List.pairwise_iff_getElem.1 hw.2 j k hjl hkl h b (by rw [e1]; exact hb) b (by rw [e2]; exact hbb)
      exact this rfl
    · have := List.pairwise_iff_getElem.1 hw.2 k j hkl hjl h b (by rw [e2]; exact hbb) b (by rw [e1]; exact hb)
      exact this rfl
  have hbT := (h2 k _ _ b' (List.getElem?_eq_getElem (by omega)) (List.getElem?_eq_getElem hk) hb').2.typed
  have hKI1 : KI W W1 := ⟨hK1.2.1, fun j arr fr hj => hK1.2.2 j (lt_of_block hj) (fun hm => by
    obtain ⟨arr', ha'⟩ := hbT j hm
    rw [hj] at ha'
    simp only [Option.some.injEq, Obj.cells.injEq] at ha'
    exact absurd ha'.2.1 (by decide))⟩
  obtain ⟨ga, hga⟩ := (own_block _h3 g hgv).2
  have hgW1 : W1.heap[g]? = some (.cells ga 25 (0, 0)) := (hK1.2.2 g (lt_of_block hga) (fun hm => hgb (hb'm g hm))).trans hga
  have hKI2 : KI W1 W2 := ⟨hs, fun j arr fr hj => hK2 j (fun e => by
    subst e
    rw [hj] at hgW1
    simp only [Option.some.injEq, Obj.cells.injEq] at hgW1
    exact absurd hgW1.2.1 (by decide))⟩
  refine ⟨cs.set k c', bss, by simp [h0], by simp [h1], fun j c1 y1 b1 hc hy hb => ?_, by rw [List.length_set]; exact hO, h4, ?_⟩
  · by_cases hjk : j = k
    · subst hjk
      rw [List.getElem?_set_self (by omega)] at hc hy
      rw [hb'] at hb
      cases hc; cases hy; cases hb
      exact ⟨hc4, hc'.keep hKI2 (fun b hbb => hK2 b (fun e => hgb (by rw [← e]; exact hb'm b hbb)))⟩
    · rw [List.getElem?_set_ne (Ne.symm hjk)] at hc hy
      obtain ⟨g1, g2⟩ := h2 j c1 y1 b1 hc hy hb
      refine ⟨g1, g2.keep (hKI1.trans hKI2) (fun b hbb => ?_)⟩
      obtain ⟨arr, ha⟩ := g2.typed b hbb
      rw [hK2 b (fun e => hgb (by rw [← e]; exact List.mem_flatten.2 ⟨b1, List.mem_of_getElem? hb, hbb⟩))]
      exact hK1.2.2 b (lt_of_block ha) (hdj j b1 hjk hb b hbb)
  · rw [h4, List.nodup_append]; exact ⟨n1, n2, n3⟩
end Go.Proofs.Ytojngbobecdpeaa
