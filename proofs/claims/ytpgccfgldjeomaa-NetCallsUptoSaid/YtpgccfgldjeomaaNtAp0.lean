/- net's law: append copies; far; what stays while texts and dots of one's own are turned. -/
import Derived.Test.YtpgccfgldjeomaaNtKeep0
import Derived.Test.YtpgccfgldjeomaaNtArgsB
namespace Go.Proofs.Ytpgccfgldjeomaa
open Go Go.RowKit Go.ChangeShapes cl
def Ends (w : World) (e : Ending) (w' : World) : Prop := (∃ r, e = .returned (.bool r)) ∧ Below w.heap.size w w'
theorem copy_str {w : World} {ops : Array Oper} {rest : List Oper} {o : Oper} {a : Act} {Q : Exit → Act → World → Prop} (s x : Operand) (B : Nat) (hB : B = w.heap.size) (hgd : o.guard = none) (ho : o.op = .call { callee := .builtin .append, args := #[s, x], argTypes := #[31, 31] })
    {l : List ByteArray} {ao : Option Addr} {n c : Nat} (h : RowsAt 1 strR w w.heap.size (.slice ao n c) l) (hl : l.length ≤ 1000000000000) (hs : a.eval s = .slice (some ⟨B, 0, none⟩) 0 0) (hx : a.eval x = .slice ao n c)
    (hk : ∀ o' c' w', RowsO w.heap.size 9 1 strO w' (.slice o' n c') l → Below w.heap.size w w' → wpList Try.prog ops Q rest (a.put o.dst (.slice o' n c')) w') :
    wpList Try.prog ops Q (o :: rest) a (w.alloc (.cells #[] 9)) := by
  subst hB
  have hA : Below w.heap.size w (w.alloc (.cells #[] 9)) := (Below.refl _ _).alloc (Nat.le_refl _) _
  obtain ⟨hn, cs, h0, h1, hlen, hno, hnw⟩ := RowsAt.raw (RowsAt.next strR_steady h hA)
  have hone := flat_one h0 h1 (fun c x h u hu => by obtain ⟨rfl, _⟩ := h; simp at hu; subst hu; rfl)
  refine kit.appN s x 31 hgd ho w.heap.size Try.underlying31 ninfo_str rfl (by decide) (by decide) (own_none 9 (Nat.le_refl _) 1) hs cs.flatten hx hlen hno hnw hone (by omega) (by simp) ?_
  intro v' w' hown hb
  rw [Nat.zero_add, List.nil_append] at hown
  obtain ⟨o', c', rfl⟩ := own_form4 hown
  exact hk o' c' w' ⟨cs, h0, h1, by rw [← hn]; exact hown⟩ (hA.trans hb)
theorem copy_dot {w : World} {ops : Array Oper} {rest : List Oper} {o : Oper} {a : Act} {Q : Exit → Act → World → Prop} (s x : Operand) (B : Nat) (hB : B = w.heap.size) (hgd : o.guard = none) (ho : o.op = .call { callee := .builtin .append, args := #[s, x], argTypes := #[24, 24] })
    {l : List cd.D} {ao : Option Addr} {n c : Nat} (h : RowsAt 2 dotR w w.heap.size (.slice ao n c) l) (hl : l.length ≤ 1000000000000) (hs : a.eval s = .slice (some ⟨B, 0, none⟩) 0 0) (hx : a.eval x = .slice ao n c)
    (hk : ∀ o' c' w', RowsO w.heap.size 57 2 dotO w' (.slice o' n c') l → Below w.heap.size w w' → wpList Try.prog ops Q rest (a.put o.dst (.slice o' n c')) w') :
    wpList Try.prog ops Q (o :: rest) a (w.alloc (.cells #[] 57)) := by
  subst hB
  have hA : Below w.heap.size w (w.alloc (.cells #[] 57)) := (Below.refl _ _).alloc (Nat.le_refl _) _
  obtain ⟨hn, cs, h0, h1, hlen, hno, hnw⟩ := RowsAt.raw (RowsAt.next dotR_steady h hA)
  have hone := flat_one h0 h1 (fun c x h u hu => by obtain rfl := h; simp at hu; rcases hu with rfl | rfl <;> rfl)
  refine kit.appN s x 24 hgd ho w.heap.size Try.underlying24 ninfo_dot rfl (by decide) (by decide) (own_none 57 (Nat.le_refl _) 2) hs cs.flatten hx hlen hno hnw hone (by omega) (by simp) ?_
  intro v' w' hown hb
  rw [Nat.zero_add, List.nil_append] at hown
  obtain ⟨o', c', rfl⟩ := own_form4 hown
  exact hk o' c' w' ⟨cs, h0, h1, by rw [← hn]; exact hown⟩ (hA.trans hb)
theorem copy_lnk {w : World} {ops : Array Oper} {rest : List Oper} {o : Oper} {a : Act} {Q : Exit → Act → World → Prop} (s x : Operand) (B : Nat) (hB : B = w.heap.size) (hgd : o.guard = none) (ho : o.op = .call { callee := .builtin .append, args := #[s, x], argTypes := #[76, 76] })
    {l : List cd.Lk} {ao : Option Addr} {n c : Nat} (h : RowsAt 3 lnkR w w.heap.size (.slice ao n c) l) (hl : l.length ≤ 1000000000000) (hs : a.eval s = .slice (some ⟨B, 0, none⟩) 0 0) (hx : a.eval x = .slice ao n c)
    (hk : ∀ o' c' w', RowsO w.heap.size 95 3 lnkO w' (.slice o' n c') l → Below w.heap.size w w' → wpList Try.prog ops Q rest (a.put o.dst (.slice o' n c')) w') :
    wpList Try.prog ops Q (o :: rest) a (w.alloc (.cells #[] 95)) := by
  subst hB
  have hA : Below w.heap.size w (w.alloc (.cells #[] 95)) := (Below.refl _ _).alloc (Nat.le_refl _) _
  obtain ⟨hn, cs, h0, h1, hlen, hno, hnw⟩ := RowsAt.raw (RowsAt.next lnkR_steady h hA)
  have hone := flat_one h0 h1 (fun c x h u hu => by obtain rfl := h; simp at hu; rcases hu with rfl | rfl | rfl <;> rfl)
  refine kit.appN s x 76 hgd ho w.heap.size Try.underlying76 ninfo_lnk rfl (by decide) (by decide) (own_none 95 (Nat.le_refl _) 3) hs cs.flatten hx hlen hno hnw hone (by omega) (by simp) ?_
  intro v' w' hown hb
  rw [Nat.zero_add, List.nil_append] at hown
  obtain ⟨o', c', rfl⟩ := own_form4 hown
  exact hk o' c' w' ⟨cs, h0, h1, by rw [← hn]; exact hown⟩ (hA.trans hb)
/-- only blocks of type T, below V, are turned -/
structure Fr (w0 : World) (T : TypeId) (V : Nat) (w w' : World) : Prop where
  size : w'.heap.size = w.heap.size
  other : ∀ q : Nat, (∀ cur fr, w.heap[q]? ≠ some (.cells cur T fr)) → w'.heap[q]? = w.heap[q]?
  high : ∀ q : Nat, V ≤ q → w'.heap[q]? = w.heap[q]?
  below : Below w0.heap.size w w'
theorem Fr.refl (w0 : World) (T : TypeId) (V : Nat) (w : World) : Fr w0 T V w w := ⟨rfl, fun _ _ => rfl, fun _ _ => rfl, Below.refl _ _⟩
theorem Fr.set {w0 w w' : World} {T : TypeId} {V g : Nat} {cur : Array Value} {fr : Nat × Nat} (h : Fr w0 T V w w') (hg : w'.heap[g]? = some (.cells cur T fr)) (hV : g < V) (hB : w0.heap.size ≤ g) (i : Nat) (u : Value) : Fr w0 T V w (w'.setCell ⟨g, i, none⟩ u) := by
  refine ⟨by rw [World.size_setCell]; exact h.size, fun q hq => ?_, fun q hq => ?_, h.below.setCell hB u⟩
  · have e := h.other q hq
    have hne : q ≠ g := by
      rintro rfl
      rw [hg] at e
      exact hq cur fr e.symm
    rw [Below.heap_setCell _ _ _ _ hne]; exact e
  · rw [Below.heap_setCell _ _ _ _ (by show q ≠ g; omega)]; exact h.high q hq
section
variable {w0 w w' : World} {T T' : TypeId} {V B k n : Nat} {v : Value} {xs : List Value}
theorem own_fr (h : w.ownsRow B T' k v n xs) (hf : Fr w0 T V w w') (hV : V ≤ B ∨ T' ≠ T) : w'.ownsRow B T' k v n xs := by
  refine ⟨h.1, ?_⟩
  rcases h.2 with h | ⟨g, cap, cur, hv, hb, hg, r⟩
  · exact Or.inl h
  · refine Or.inr ⟨g, cap, cur, hv, hb, ?_, r⟩
    rcases hV with hV | hV
    · rw [hf.high g (by omega)]; exact hg
    · rw [hf.other g (fun cur' fr e => by
        rw [hg] at e
        simp only [Option.some.injEq, Obj.cells.injEq] at e
        exact hV e.2.1)]
      exact hg
theorem RowsO.fr {α : Type} {R : RelO α} {l : List α} (h : RowsO B T' k R w v l) (hf : Fr w0 T V w w') (hR : ∀ c x, R w c x → R w' c x) (hV : V ≤ B ∨ T' ≠ T) : RowsO B T' k R w' v l := by
  obtain ⟨cs, h0, h1, h2⟩ := h
  exact ⟨cs, h0, fun j c x hc hx => ⟨(h1 j c x hc hx).1, hR _ _ (h1 j c x hc hx).2⟩, own_fr h2 hf hV⟩
theorem MsgF.fr {c : List Value} {m : cd.Msg} (h : MsgF B w c m) (hf : Fr w0 T V w w') (hV : V ≤ B) (hT : 95 ≠ T) : MsgF B w' c m := by
  obtain ⟨oe, me, ke, oa, ma, ka, ov, mv, kv, oc, mc, kc, pv, nv, lv, pc, nc, lc, os, ms, ks, hc, g1, g2, g3, g4, g5, g6, g7, g8, g9⟩ := h
  have hE : ∀ c x, entO w c x → entO w' c x := fun c x ⟨ao, n, cap, h, hs, hr⟩ => ⟨ao, n, cap, h, hs, hr.fr hf (fun _ _ h => h) (Or.inr hT)⟩
  exact ⟨oe, me, ke, oa, ma, ka, ov, mv, kv, oc, mc, kc, pv, nv, lv, pc, nc, lc, os, ms, ks, hc, g1.fr hf hE (Or.inl hV), g2.fr hf (fun _ _ h => h) (Or.inl hV), g3.fr hf (fun _ _ h => h) (Or.inl hV), g4.fr hf (fun _ _ h => h) (Or.inl hV), g5.fr hf (fun _ _ h => h) (Or.inl hV), g6.fr hf (fun _ _ h => h) (Or.inl hV), g7, g8, g9.fr hf (fun _ _ h => h) (Or.inl hV)⟩
/-- a row of one's own whose cells are all of a kind -/
def Turn (P : Value → Prop) (B : Nat) (T : TypeId) (k : Nat) (w : World) (v : Value) (n : Nat) : Prop := ∃ xs, w.ownsRow B T k v n xs ∧ ∀ u ∈ xs, P u
theorem Turn.fr {P : Value → Prop} (h : Turn P B T' k w v n) (hf : Fr w0 T V w w') (hV : V ≤ B ∨ T' ≠ T) : Turn P B T' k w' v n := by
  obtain ⟨xs, h1, h2⟩ := h
  exact ⟨xs, own_fr h1 hf hV, h2⟩
theorem Turn.next {P : Value → Prop} (h : Turn P B T' k w v n) (hb : Below w.heap.size w w') : Turn P B T' k w' v n := by
  obtain ⟨xs, h1, h2⟩ := h
  exact ⟨xs, own_stay h1 hb, h2⟩
theorem Turn.imp {P P' : Value → Prop} (h : Turn P B T k w v n) (hP : ∀ u, P u → P' u) : Turn P' B T k w v n := by
  obtain ⟨xs, h1, h2⟩ := h
  exact ⟨xs, h1, fun u hu => hP u (h2 u hu)⟩
/-- a cell of it, and what is when it is turned -/
theorem Turn.cell {P : Value → Prop} {ao : Option Addr} {c i : Nat} (h : Turn P B T k w (.slice ao n c) n) (hi : i < n * k) : ∃ g u cur, ao = some ⟨g, 0, none⟩ ∧ B ≤ g ∧ w.heap[g]? = some (.cells cur T (0, 0)) ∧ P u ∧ w.cell? ⟨g, i, none⟩ = some u ∧ w.frozen? ⟨g, i, none⟩ = false ∧
    ∀ (P' : Value → Prop) u', (∀ u, P u → P' u) → P' u' → Turn P' B T k (w.setCell ⟨g, i, none⟩ u') (.slice ao n c) n := by
  obtain ⟨xs, h1, h2⟩ := h
  have hlx := h1.1
  rcases h1.2 with ⟨e, hx⟩ | ⟨g, cap, cur, e, hb, hg, r⟩
  · simp only [Value.slice.injEq] at e
    rw [e.2.1] at hi; omega
  · simp only [Value.slice.injEq, true_and] at e
    obtain ⟨rfl, rfl⟩ := e
    have hix : i < xs.length := by rw [hlx]; exact hi
    obtain ⟨hc, hf⟩ := own_cell h1 hix
    refine ⟨g, xs[i], cur, rfl, hb, hg, h2 _ (List.getElem_mem _), hc, hf, fun P' u' hP hu' => ⟨_, (kit.own_set h1).1, fun u hu => ?_⟩⟩
    rcases List.mem_or_eq_of_mem_set hu with h | rfl
    · exact hP u (h2 u h)
    · exact hu'
end
theorem turn_str {B n : Nat} {w : World} {ao : Option Addr} {c N : Nat} {l : List ByteArray} (h : RowsO B 9 1 strO w (.slice ao n c) l) (hn : n = l.length) (hN : ∀ x ∈ l, x.size ≤ N) : Turn (fun u => ∃ s : ByteArray, u = .string s ∧ s.size ≤ N + 0) B 9 1 w (.slice ao n c) n := by
  obtain ⟨cs, h0, h1, h2⟩ := h
  rw [← hn] at h2
  refine ⟨_, h2, fun u hu => ?_⟩
  obtain ⟨c, hc, huc⟩ := List.mem_flatten.1 hu
  obtain ⟨j, hj, rfl⟩ := List.mem_iff_getElem.1 hc
  have hjl : j < l.length := by omega
  have h3 := (h1 j _ l[j] (List.getElem?_eq_getElem hj) (List.getElem?_eq_getElem hjl)).2.1
  rw [h3, List.mem_singleton] at huc
  exact ⟨l[j], huc, hN _ (List.getElem_mem _)⟩
theorem turn_dot {B n : Nat} {w : World} {ao : Option Addr} {c : Nat} {l : List cd.D} (h : RowsO B 57 2 dotO w (.slice ao n c) l) (hn : n = l.length) : Turn (fun u => ∃ z : Int, u = .int .i64 z) B 57 2 w (.slice ao n c) n := by
  obtain ⟨cs, h0, h1, h2⟩ := h
  rw [← hn] at h2
  refine ⟨_, h2, fun u hu => ?_⟩
  obtain ⟨c, hc, huc⟩ := List.mem_flatten.1 hu
  obtain ⟨j, hj, rfl⟩ := List.mem_iff_getElem.1 hc
  have hjl : j < l.length := by omega
  have h3 := (h1 j _ l[j] (List.getElem?_eq_getElem hj) (List.getElem?_eq_getElem hjl)).2
  rw [h3] at huc
  simp only [List.mem_cons, List.not_mem_nil, or_false] at huc
  rcases huc with rfl | rfl <;> exact ⟨_, rfl⟩
theorem rowsO_at {α : Type} {B k : Nat} {T : TypeId} {R : RelO α} {R' : Rel α} {w w' : World} {v : Value} {l : List α} (h : RowsO B T k R w v l) (hR : ∀ (W : World) c x, R w c x → R' W W.heap.size c x) (hb : Below w.heap.size w w') : RowsAt k R' w' w'.heap.size v l := by
  obtain ⟨cs, h0, h1, h2⟩ := h
  exact RowsAt.own rfl h0 (fun j c x hc hx => ⟨(h1 j c x hc hx).1, hR w' c x (h1 j c x hc hx).2⟩) (own_stay h2 hb)
theorem own_lt {B k n n' c : Nat} {T : TypeId} {w : World} {ao : Option Addr} {xs : List Value} (h : w.ownsRow B T k (.slice ao n' c) n xs) : ∀ a, ao = some a → a.block < w.heap.size := by
  intro a e
  rcases h.2 with ⟨hv, _⟩ | ⟨g, cap, cur, hv, hb, hg, _⟩
  · simp only [Value.slice.injEq] at hv
    rw [hv.1] at e; cases e
  · simp only [Value.slice.injEq] at hv
    rw [hv.1] at e
    obtain rfl := Option.some.inj e
    exact lt_of_block hg
/-- what Write answers, in one form -/
def ansS (t : cd.W) : ByteArray := match t with | some b => kit.str b | none => ⟨#[]⟩
def ansE (t : cd.W) : Int := match t with | some _ => 0 | none => 1
theorem write_f (m : cd.Msg) (c : List Value) (w : World) (h : msgRel w w.heap.size c m) : Calls Try.prog 24 #[.agg c.toArray] w fun e w' => e = .returned (.tuple #[.string (ansS (cd.msg m)), .int .i64 (ansE (cd.msg m))]) ∧ Below w.heap.size w w' :=
  (write_m m c w h).mono fun e w' ⟨⟨b, h⟩, hb⟩ => by
    rcases h with ⟨ht, rfl⟩ | ⟨ht, rfl⟩
    · rw [ht]; exact ⟨rfl, hb⟩
    · rw [ht]; exact ⟨rfl, hb⟩
theorem send_one (m : cd.Msg) (c : List Value) (w : World) (hm : msgRel w w.heap.size c m) (hf : Fit m) : Calls Try.prog 9 #[.slice none 0 0, .agg c.toArray] w fun e w' => ∃ (g cap : Nat) (c' : List Value), e = .returned (.tuple #[.slice (some ⟨g, 0, none⟩) 1 cap, .int .i64 0]) ∧ MsgF w.heap.size w' c' m ∧ w'.ownsRow w.heap.size 34 16 (.slice (some ⟨g, 0, none⟩) 1 cap) 1 c' ∧ Below w.heap.size w w' := by
  refine (send_cs [] [] m _ c w rfl (fun j c x hc => by simp at hc) (Cells.nil _ _ _) hm hf (by simp)).mono ?_
  rintro e w' ⟨hb, g, cap, c', he, hM, ho⟩
  exact ⟨g, cap, c', he, hM, by simpa using ho, hb⟩
theorem Small.fit {N : Nat} {m : cd.Msg} (h : Small N m) (hN : N ≤ 1000000000) : Fit m := by
  obtain ⟨h1, h2, h3, h4, h5, h6, h7, h8, h9, h10, h11⟩ := h
  exact ⟨by omega, fun x hx => by have := (h2 x hx).2; omega, by omega, by omega, by omega, by omega, by omega, by omega⟩
set_option maxHeartbeats 6400000 in
set_option maxRecDepth 100000 in
theorem far_any (l : List cd.Msg) (v : Value) (w : World) (hl : RowsAt 16 msgRel w w.heap.size v l) : Calls Try.prog 7 #[v] w (Ends w) := by
  obtain ⟨n, hn⟩ : ∃ n, n = l.length := ⟨_, rfl⟩
  obtain ⟨ao, cap, rfl, hnc, hnm⟩ := hl.form' hn
  unfold maxLen at hnm
  have HL := Lib.hid hl
  have HN := Lib.hid hn
  clear hl hn
  by_cases h60 : (60 : Int) < (n : Int)
  · go_enter Try.func7, Try.ntmps7
    go_wp2
    go_loopw [7, 22] (fun i _ wr => ∃ k : Nat, i = .int .i64 k ∧ k ≤ n ∧ Below w.heap.size w wr) (fun i _ _ => n - (intOf i).toNat)
    case atStart => exact ⟨0, rfl, by omega, Below.refl _ _⟩
    case round =>
      obtain ⟨k, rfl, hk, hbl⟩ := hrel
      by_cases hlt : k < n
      · have hkI : (k : Int) < (n : Int) := by omega
        obtain ⟨m, hm⟩ : ∃ x, x = l.getD k default := ⟨_, rfl⟩
        obtain ⟨ba, oa, c, rfl, hR, hC⟩ := rows_cells (HL.out.next msgRel_steady hbl) HN.out hlt hm.symm
        obtain ⟨ae, ne, ce, aa, na, ca, p1, n1, c1, p2, n2, c2, p3, n3, c3, p4, n4, c4, sa, sn, sc, rfl, g⟩ := hR
        obtain ⟨_, _, e1, _⟩ := g.1.form
        have q0 : wr.cell? ⟨ba, oa + k * 16, none⟩ = _ := hC wr (Below.refl _ _) 0 _ rfl
        have q1 := hC wr (Below.refl _ _) 1 _ rfl
        have q2 := hC wr (Below.refl _ _) 2 _ rfl
        have q3 := hC wr (Below.refl _ _) 3 _ rfl
        have q4 := hC wr (Below.refl _ _) 4 _ rfl
        have q5 := hC wr (Below.refl _ _) 5 _ rfl
        have q6 := hC wr (Below.refl _ _) 6 _ rfl
        have q7 := hC wr (Below.refl _ _) 7 _ rfl
        have q8 := hC wr (Below.refl _ _) 8 _ rfl
        have q9 := hC wr (Below.refl _ _) 9 _ rfl
        have q10 := hC wr (Below.refl _ _) 10 _ rfl
        have q11 := hC wr (Below.refl _ _) 11 _ rfl
        have q12 := hC wr (Below.refl _ _) 12 _ rfl
        have q13 := hC wr (Below.refl _ _) 13 _ rfl
        have q14 := hC wr (Below.refl _ _) 14 _ rfl
        have q15 := hC wr (Below.refl _ _) 15 _ rfl
        have hB : Below w.heap.size w (wr.alloc (.cells #[.int .i64 m.k, .int .i64 m.f, .int .i64 m.to, .int .i64 m.g, .int .i64 m.n, .slice ae ne ce, .slice aa na ca, .slice p1 n1 c1, .slice p2 n2 c2, .slice p3 n3 c3, .slice p4 n4 c4, .int .i64 m.ki, .string m.mn, .string m.mv, .slice sa sn sc, .int .i64 m.er] 34)) := hbl.trans (below1.mono hbl.size)
        clear g hC e1 hm
        by_cases h1 : (40 : Int) < (sn : Int)
        · go_wp2
          go_ret
          exact ⟨⟨_, rfl⟩, hB⟩
        · by_cases h2 : (40 : Int) < (ne : Int)
          · go_wp2
            go_ret
            exact ⟨⟨_, rfl⟩, hB⟩
          · go_wp2
            go_roundw
            case rel => exact ⟨k + 1, by go_num, by omega, hB⟩
            case measure => simp [intOf]; omega
      · go_wp2
        go_ret
        exact ⟨⟨_, rfl⟩, hbl⟩
  · go_enter Try.func7, Try.ntmps7
    go_wp2
    go_loopw [7, 22] (fun i _ wr => ∃ k : Nat, i = .int .i64 k ∧ k ≤ n ∧ Below w.heap.size w wr) (fun i _ _ => n - (intOf i).toNat)
    case atStart => exact ⟨0, rfl, by omega, Below.refl _ _⟩
    case round =>
      obtain ⟨k, rfl, hk, hbl⟩ := hrel
      by_cases hlt : k < n
      · have hkI : (k : Int) < (n : Int) := by omega
        obtain ⟨m, hm⟩ : ∃ x, x = l.getD k default := ⟨_, rfl⟩
        obtain ⟨ba, oa, c, rfl, hR, hC⟩ := rows_cells (HL.out.next msgRel_steady hbl) HN.out hlt hm.symm
        obtain ⟨ae, ne, ce, aa, na, ca, p1, n1, c1, p2, n2, c2, p3, n3, c3, p4, n4, c4, sa, sn, sc, rfl, g⟩ := hR
        obtain ⟨_, _, e1, _⟩ := g.1.form
        have q0 : wr.cell? ⟨ba, oa + k * 16, none⟩ = _ := hC wr (Below.refl _ _) 0 _ rfl
        have q1 := hC wr (Below.refl _ _) 1 _ rfl
        have q2 := hC wr (Below.refl _ _) 2 _ rfl
        have q3 := hC wr (Below.refl _ _) 3 _ rfl
        have q4 := hC wr (Below.refl _ _) 4 _ rfl
        have q5 := hC wr (Below.refl _ _) 5 _ rfl
        have q6 := hC wr (Below.refl _ _) 6 _ rfl
        have q7 := hC wr (Below.refl _ _) 7 _ rfl
        have q8 := hC wr (Below.refl _ _) 8 _ rfl
        have q9 := hC wr (Below.refl _ _) 9 _ rfl
        have q10 := hC wr (Below.refl _ _) 10 _ rfl
        have q11 := hC wr (Below.refl _ _) 11 _ rfl
        have q12 := hC wr (Below.refl _ _) 12 _ rfl
        have q13 := hC wr (Below.refl _ _) 13 _ rfl
        have q14 := hC wr (Below.refl _ _) 14 _ rfl
        have q15 := hC wr (Below.refl _ _) 15 _ rfl
        have hB : Below w.heap.size w (wr.alloc (.cells #[.int .i64 m.k, .int .i64 m.f, .int .i64 m.to, .int .i64 m.g, .int .i64 m.n, .slice ae ne ce, .slice aa na ca, .slice p1 n1 c1, .slice p2 n2 c2, .slice p3 n3 c3, .slice p4 n4 c4, .int .i64 m.ki, .string m.mn, .string m.mv, .slice sa sn sc, .int .i64 m.er] 34)) := hbl.trans (below1.mono hbl.size)
        clear g hC e1 hm
        by_cases h1 : (40 : Int) < (sn : Int)
        · go_wp2
          go_ret
          exact ⟨⟨_, rfl⟩, hB⟩
        · by_cases h2 : (40 : Int) < (ne : Int)
          · go_wp2
            go_ret
            exact ⟨⟨_, rfl⟩, hB⟩
          · go_wp2
            go_roundw
            case rel => exact ⟨k + 1, by go_num, by omega, hB⟩
            case measure => simp [intOf]; omega
      · go_wp2
        go_ret
        exact ⟨⟨_, rfl⟩, hbl⟩
end Go.Proofs.Ytpgccfgldjeomaa
