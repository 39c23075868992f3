/- net.Send. -/
import Derived.Test.YtpgccfgldjeomaaNtMsg
import Derived.Test.YtpgccfgldjeomaaNtCopy
namespace Go.Proofs.Ytpgccfgldjeomaa
open Go.RowKit Go.ChangeShapes cl
theorem ninfo_msg : (Try.prog.info? 34).map (fun i => (i.zero, i.size, i.bytes)) = some (some (.agg #[.int .i64 0, .int .i64 0, .int .i64 0, .int .i64 0, .int .i64 0, .slice none 0 0, .slice none 0 0, .slice none 0 0, .slice none 0 0, .slice none 0 0, .slice none 0 0, .int .i64 0, .string ⟨#[]⟩, .string ⟨#[]⟩, .slice none 0 0, .int .i64 0]), 16, 256) := by kernel_rfl
theorem nsize_msg : (Try.prog.info? 34).map (·.size) = some 16 := by kernel_rfl
/-- cells written one behind the other into a list -/
def lset : List Value → Nat → List Value → List Value
  | xs, _, [] => xs
  | xs, i, u :: us => lset (xs.set i u) (i + 1) us
theorem lset_tail : ∀ (us a b : List Value), us.length = b.length → lset (a ++ b) a.length us = a ++ us := by
  intro us
  induction us with
  | nil => intro a b h; obtain rfl := List.eq_nil_of_length_eq_zero h.symm; rfl
  | cons u us ih =>
    intro a b h
    cases b with
    | nil => simp at h
    | cons y b =>
      show lset ((a ++ y :: b).set a.length u) (a.length + 1) us = a ++ u :: us
      have e : (a ++ y :: b).set a.length u = (a ++ [u]) ++ b := by simp
      have := ih (a ++ [u]) b (by simpa using h)
      rw [List.length_append] at this
      rw [e]
      simpa using this
section
variable {w : World} {base : Nat} {e : TypeId} {k n g cap : Nat} {xs : List Value}
theorem own_block (h : w.ownsRow base e k (.slice (some ⟨g, 0, none⟩) n cap) n xs) : ∃ cur, w.heap[g]? = some (.cells cur e (0, 0)) ∧ base ≤ g := by
  rcases h.2 with ⟨hv, _⟩ | ⟨g', cap', cur, hv, hbg, hg, _⟩
  · cases hv
  · simp only [Value.slice.injEq, Option.some.injEq, Addr.mk.injEq] at hv
    obtain ⟨⟨rfl, _, _⟩, _, _⟩ := hv
    exact ⟨cur, hg, hbg⟩
theorem own_cell (h : w.ownsRow base e k (.slice (some ⟨g, 0, none⟩) n cap) n xs) {j : Nat} (hj : j < xs.length) : w.cell? ⟨g, j, none⟩ = some xs[j] ∧ w.frozen? ⟨g, j, none⟩ = false := by
  have c0 := h.cells (g := g) rfl _ _ (List.getElem?_eq_getElem hj)
  rw [Addr.add_lit, Nat.zero_add] at c0
  obtain ⟨cur, hg, _⟩ := own_block h
  exact ⟨c0, by simp [World.frozen?, hg]⟩
end
theorem own_wset {base : Nat} {e : TypeId} {k n g cap : Nat} : ∀ (us : List Value) (w : World) (xs : List Value) (i : Nat), w.ownsRow base e k (.slice (some ⟨g, 0, none⟩) n cap) n xs → (wset w g i us).ownsRow base e k (.slice (some ⟨g, 0, none⟩) n cap) n (lset xs i us) ∧ Below base w (wset w g i us) := by
  intro us
  induction us with
  | nil => intro w xs i h; exact ⟨h, Below.refl _ _⟩
  | cons u us ih =>
    intro w xs i h
    obtain ⟨h1, h2⟩ := kit.own_set (j := i) (u := u) h
    obtain ⟨h3, h4⟩ := ih _ _ (i + 1) h1
    exact ⟨h3, h2.trans h4⟩
theorem MsgF.low {B B' : Nat} {w : World} {c : List Value} {m : cd.Msg} (h : MsgF B w c m) (hB : B' ≤ B) : MsgF B' w c m := by
  obtain ⟨oe, me, ke, oa, ma, ka, ov, mv, kv, oc, mc, kc, pv, nv, lv, pc, nc, lc, os, ms, ks, hc, h1, h2, h3, h4, h5, h6, h7, h8, h9⟩ := h
  exact ⟨oe, me, ke, oa, ma, ka, ov, mv, kv, oc, mc, kc, pv, nv, lv, pc, nc, lc, os, ms, ks, hc, h1.low hB, h2.low hB, h3.low hB, h4.low hB, h5.low hB, h6.low hB, h7, h8, h9.low hB⟩
theorem ownsRow_low {w : World} {B B' k n : Nat} {e : TypeId} {v : Value} {xs : List Value} (h : w.ownsRow B e k v n xs) (hB : B' ≤ B) : w.ownsRow B' e k v n xs := own_base h hB
theorem msg_one {w : World} {B : Nat} (c : List Value) (x : cd.Msg) (h : msgRel w B c x) : c.length = 16 ∧ ∀ u ∈ c, u.oneCell' = true := by
  obtain ⟨ae, ne, ce, aa, na, ca, p1, n1, c1, p2, n2, c2, p3, n3, c3, p4, n4, c4, sa, sn, sc, rfl, _⟩ := h
  refine ⟨rfl, fun u hu => ?_⟩
  simp only [List.mem_cons, List.not_mem_nil, or_false] at hu
  rcases hu with rfl | rfl | rfl | rfl | rfl | rfl | rfl | rfl | rfl | rfl | rfl | rfl | rfl | rfl | rfl | rfl <;> rfl
/-- what Send answers -/
def SendP (L : List cd.Msg) (m : cd.Msg) (v : Value) (w : World) (e : Ending) (w' : World) : Prop := Below w.heap.size w w' ∧
  ((600 ≤ L.length ∧ e = .returned (.tuple #[v, .int .i64 7])) ∨
   (L.length < 600 ∧ ∃ (g cap : Nat) (cs : List (List Value)) (c' : List Value), e = .returned (.tuple #[.slice (some ⟨g, 0, none⟩) (L.length + 1) cap, .int .i64 0]) ∧ cs.length = L.length ∧
      (∀ (j : Nat) (c : List Value) (x : cd.Msg), cs[j]? = some c → L[j]? = some x → c.length = 16 ∧ msgRel w w.heap.size c x) ∧ MsgF w.heap.size w' c' m ∧ w'.ownsRow w.heap.size 34 16 (.slice (some ⟨g, 0, none⟩) (L.length + 1) cap) (L.length + 1) (cs.flatten ++ c')))
theorem snoc_rows {α : Type} {P : List Value → α → Prop} {cs : List (List Value)} {L : List α} {c : List Value} {x : α} (h0 : cs.length = L.length) (h1 : ∀ (j : Nat) (c : List Value) (x : α), cs[j]? = some c → L[j]? = some x → P c x) (hx : P c x) :
    ∀ (j : Nat) (c' : List Value) (x' : α), (cs ++ [c])[j]? = some c' → (L ++ [x])[j]? = some x' → P c' x' := by
  intro j c' x' hc' hx'
  rcases Nat.lt_or_ge j cs.length with h | h
  · rw [List.getElem?_append_left h] at hc'
    rw [List.getElem?_append_left (by omega)] at hx'
    exact h1 j c' x' hc' hx'
  · have hj : j = cs.length := by
      have := (List.getElem?_eq_some_iff.1 hc').1
      simp at this; omega
    subst hj
    rw [List.getElem?_append_right (Nat.le_refl _), Nat.sub_self] at hc'
    rw [List.getElem?_append_right (by omega), h0, Nat.sub_self] at hx'
    cases hc'
    cases hx'
    exact hx
/-- in short: the messages, and the new one behind -/
theorem SendP.rows {L : List cd.Msg} {m : cd.Msg} {v : Value} {w w' : World} {e : Ending} (h : SendP L m v w e w') (hL : L.length < 600) :
    ∃ ao n cap, e = .returned (.tuple #[.slice ao n cap, .int .i64 0]) ∧ RowsAt 16 msgRel w' w'.heap.size (.slice ao n cap) (L ++ [m]) ∧ n = L.length + 1 ∧ Below w.heap.size w w' := by
  obtain ⟨hb, h | ⟨_, g, cap, cs, c', rfl, h0, h1, hm, ho⟩⟩ := h
  · omega
  · refine ⟨_, _, _, rfl, ?_, rfl, hb⟩
    refine RowsAt.own (e := 34) (base := w.heap.size) (n := L.length + 1) (cs := cs ++ [c']) (by simp) (by simp [h0]) (snoc_rows (P := fun c x => c.length = 16 ∧ msgRel w' w'.heap.size c x) h0 (fun j c x hc hx => ⟨(h1 j c x hc hx).1, msgRel_steady _ _ _ _ _ _ (h1 j c x hc hx).2 hb hb.size⟩) ⟨(msg_one _ _ hm.at).1, hm.at⟩) ?_
    simpa using ho
set_option maxHeartbeats 6400000 in
set_option maxRecDepth 100000 in
theorem send_full (L : List cd.Msg) (m : cd.Msg) (v : Value) (c : List Value) (w : World) (hL : RowsAt 16 msgRel w w.heap.size v L) (hl : 600 ≤ L.length) :
    Calls Try.prog 9 #[v, .agg c.toArray] w (SendP L m v w) := by
  obtain ⟨n, hn⟩ : ∃ n, n = L.length := ⟨_, rfl⟩
  obtain ⟨ao, cap, rfl, hnc, hnm⟩ := hL.form' hn
  rw [← hn] at hl
  unfold maxLen at hnm
  have hlI : (600 : Int) ≤ (n : Int) := by omega
  have HN : Hid (600 ≤ L.length) := by show _ ≤ _; omega
  clear hn hL
  go_enter Try.func9, Try.ntmps9
  go_wp2
  exact bodyPost_ret (v := .tuple #[.slice ao n cap, .int .i64 7]) (by simp [results, Try.results9, go_sem]) rfl ⟨below1, Or.inl ⟨HN.out, rfl⟩⟩
/-- .. the elements' cells named -/
def SendC (cs : List (List Value)) (L : List cd.Msg) (m : cd.Msg) (w : World) (e : Ending) (w' : World) : Prop := Below w.heap.size w w' ∧
   ∃ (g cap : Nat) (c' : List Value), e = .returned (.tuple #[.slice (some ⟨g, 0, none⟩) (L.length + 1) cap, .int .i64 0]) ∧ MsgF w.heap.size w' c' m ∧ w'.ownsRow w.heap.size 34 16 (.slice (some ⟨g, 0, none⟩) (L.length + 1) cap) (L.length + 1) (cs.flatten ++ c')
set_option maxHeartbeats 6400000 in
set_option maxRecDepth 100000 in
theorem send_cs (cs : List (List Value)) (L : List cd.Msg) (m : cd.Msg) (v : Value) (c : List Value) (w : World) (h0 : cs.length = L.length) (h1 : ∀ (j : Nat) (c : List Value) (x : cd.Msg), cs[j]? = some c → L[j]? = some x → c.length = 16 ∧ msgRel w w.heap.size c x) (hC : Cells w w.heap.size v L.length 16 cs.flatten) (hm : msgRel w w.heap.size c m) (hf : Fit m) (hl : L.length < 600) :
    Calls Try.prog 9 #[v, .agg c.toArray] w (SendC cs L m w) := by
  have hL : RowsAt 16 msgRel w w.heap.size v L := ⟨cs, h0, h1, hC⟩
  obtain ⟨n, hn⟩ : ∃ n, n = L.length := ⟨_, rfl⟩
  obtain ⟨ao, cap, rfl, hnc, hnm⟩ := hL.form' hn
  rw [← hn] at hl
  unfold maxLen at hnm
  have hlI : ¬ (600 : Int) ≤ (n : Int) := by omega
  clear hL
  have H01 : Hid (cs.length = L.length ∧ (∀ (j : Nat) (c : List Value) (x : cd.Msg), cs[j]? = some c → L[j]? = some x → c.length = 16 ∧ msgRel w w.heap.size c x)) := ⟨h0, h1⟩
  have HONE : Hid (∀ u ∈ cs.flatten, u.oneCell' = true) := flat_one h0 h1 (fun c x h => (msg_one c x h).2)
  have HLEN : Hid (cs.flatten.length = n * 16) := by show _ = _; rw [hn]; exact hC.1
  have HRAW : Hid (∀ W, Below w.heap.size w W → (ao = none → n = 0 ∧ cap = 0) ∧ (∀ ad, ao = some ad → ∀ j u, cs.flatten[j]? = some u → W.cell? (ad.add j) = some u)) := fun W hW => Cells.news' (hC.next hW)
  have HN := Lib.hid hn
  obtain ⟨ae, ne, ce, aa, na, ca, p1, n1, c1, p2, n2, c2, p3, n3, c3, p4, n4, c4, sa, sn, sc, rfl, hm'⟩ := id hm
  obtain ⟨W1, hW1⟩ : ∃ W, W = w.alloc (.cells #[.int .i64 m.k, .int .i64 m.f, .int .i64 m.to, .int .i64 m.g, .int .i64 m.n, .slice ae ne ce, .slice aa na ca, .slice p1 n1 c1, .slice p2 n2 c2, .slice p3 n3 c3, .slice p4 n4 c4, .int .i64 m.ki, .string m.mn, .string m.mv, .slice sa sn sc, .int .i64 m.er] 34) := ⟨_, rfl⟩
  have hb1 : Below w.heap.size w W1 := by rw [hW1]; exact below1
  have x1 : W1.heap[w.heap.size]? = some (.cells #[.int .i64 m.k, .int .i64 m.f, .int .i64 m.to, .int .i64 m.g, .int .i64 m.n, .slice ae ne ce, .slice aa na ca, .slice p1 n1 c1, .slice p2 n2 c2, .slice p3 n3 c3, .slice p4 n4 c4, .int .i64 m.ki, .string m.mn, .string m.mv, .slice sa sn sc, .int .i64 m.er] 34) := by rw [hW1]; exact heap_alloc_new w _
  have hz1 : W1.heap.size = w.heap.size + 1 := by rw [hW1]; simp
  obtain ⟨i0, hi, hi0, hi1, hi2⟩ := info_parts ninfo_msg
  have HI := Lib.hid (And.intro hi (And.intro hi0 (And.intro hi1 hi2)))
  have HM : Hid (msgRel w w.heap.size [.int .i64 m.k, .int .i64 m.f, .int .i64 m.to, .int .i64 m.g, .int .i64 m.n, .slice ae ne ce, .slice aa na ca, .slice p1 n1 c1, .slice p2 n2 c2, .slice p3 n3 c3, .slice p4 n4 c4, .int .i64 m.ki, .string m.mn, .string m.mv, .slice sa sn sc, .int .i64 m.er] m) := hm
  have HF := Lib.hid hf
  have HB1 := Lib.hid hb1
  have X1 := Lib.hid x1
  clear hm' hm hf hb1 x1 hn h0 h1 hC hi hi0 hi1 hi2
  go_enter Try.func9, Try.ntmps9
  go_wp2_with (at_make; rw [← hW1]; refine wpList_make_full _ rfl _ _ 22 rfl (w.heap.size + 1) 34 i0 (.agg #[.int .i64 0, .int .i64 0, .int .i64 0, .int .i64 0, .int .i64 0, .slice none 0 0, .slice none 0 0, .slice none 0 0, .slice none 0 0, .slice none 0 0, .slice none 0 0, .int .i64 0, .string ⟨#[]⟩, .string ⟨#[]⟩, .slice none 0 0, .int .i64 0]) 16 Try.underlying22 HI.out.1 HI.out.2.1 HI.out.2.2.1 .i64 .i64 _ _ (n + 1) rfl rfl (by omega) (by omega) (by rw [HI.out.2.2.2]; omega) (by unfold maxLen; omega) (by omega) ?_)
  intro w3 hown3 hgrow3
  rw [← hW1] at hgrow3
  clear hW1
  have HO3 := Lib.hid hown3
  have hb3 : Below (w.heap.size + 1) W1 w3 := (Below.refl _ _).grown hgrow3 (by omega) (fun j hj => by cases hj)
  have HB3 := Lib.hid hb3
  have hw3 := HB1.out.trans (hb3.mono (by omega))
  have HR3 := Lib.hid (HRAW.out w3 hw3)
  have HNN : Hid (ao = none → n = 0) := fun e => (HR3.out.1 e).1
  have HW3 := Lib.hid hw3
  have hnn : n ≤ n + 1 := by omega
  obtain ⟨g, hg⟩ : ∃ g, g = w.heap.size + 1 := ⟨_, rfl⟩
  rw [← hg] at HO3 ⊢
  have HG := Lib.hid hg
  clear hown3 hgrow3 hg hb3 hw3
  go_wp2_with (with_reducible refine kit.copy_own_k (.tmp 15) (.tmp 16) 22 22 rfl rfl g Try.underlying22 nsize_msg (ys := cs.flatten) HO3.out rfl rfl HLEN.out hnn HNN.out HR3.out.2 HONE.out ?_)
  intro w4 hown4 hb4 hz4
  rw [HG.out] at hb4
  obtain ⟨D, hD⟩ : ∃ D, D = (madeCells (#[.int .i64 0, .int .i64 0, .int .i64 0, .int .i64 0, .int .i64 0, .slice none 0 0, .slice none 0 0, .slice none 0 0, .slice none 0 0, .slice none 0 0, .slice none 0 0, .int .i64 0, .string ⟨#[]⟩, .string ⟨#[]⟩, .slice none 0 0, .int .i64 0] : Array Value) ((n + 1) * 16)).toList.drop (n * 16) := ⟨_, rfl⟩
  have hDl : D.length = 16 := by rw [hD, List.length_drop, Array.length_toList, size_madeCells]; omega
  rw [← hD] at hown4
  have hw4 := HW3.out.trans (hb4.mono (by omega))
  have y1 := ((HB3.out.trans hb4).block w.heap.size (by omega)).trans X1.out
  have p10 := boxc y1 0 _ rfl
  have p11 := boxc y1 1 _ rfl
  have p12 := boxc y1 2 _ rfl
  have p13 := boxc y1 3 _ rfl
  have p14 := boxc y1 4 _ rfl
  have p15 := boxc y1 5 _ rfl
  have p16 := boxc y1 6 _ rfl
  have p17 := boxc y1 7 _ rfl
  have p18 := boxc y1 8 _ rfl
  have p19 := boxc y1 9 _ rfl
  have p20 := boxc y1 10 _ rfl
  have p21 := boxc y1 11 _ rfl
  have p22 := boxc y1 12 _ rfl
  have p23 := boxc y1 13 _ rfl
  have p24 := boxc y1 14 _ rfl
  have p25 := boxc y1 15 _ rfl
  have HCM := Lib.hid (twmsg_any m _ w4 (msgRel_steady _ _ _ _ _ _ HM.out hw4 hw4.size) HF.out)
  have HO4 := Lib.hid hown4
  have HW4 := Lib.hid hw4
  have HDL := Lib.hid hDl
  clear hown4 hb4 hz4 hw4 y1 hD hDl HO3 HB3 HR3 HNN
  go_wp2_with fail
  (with_reducible refine HCM.out.mono ?_)
  rintro e w5 ⟨c', rfl, hM, hb5⟩
  have hMM := id hM
  obtain ⟨oe, me, ke, oa, ma, ka, ov, mv, kv, oc, mc, kc, pv, nv, lv, pc, nc, lc, os, ms, ks, rfl, hM'⟩ := hM
  have hown5 := own_stay HO4.out hb5
  have hxl : (cs.flatten ++ D).length = n * 16 + 16 := by rw [List.length_append, HLEN.out, HDL.out]
  have fr0 := (own_cell hown5 (j := n * 16) (by rw [hxl]; omega)).2
  obtain ⟨u0, ex0⟩ : ∃ u, w5.cell? ⟨g, n * 16, none⟩ = some u := ⟨_, (own_cell hown5 (j := n * 16) (by rw [hxl]; omega)).1⟩
  have fr1 := (own_cell hown5 (j := n * 16 + 1) (by rw [hxl]; omega)).2
  obtain ⟨u1, ex1⟩ : ∃ u, w5.cell? ⟨g, n * 16 + 1, none⟩ = some u := ⟨_, (own_cell hown5 (j := n * 16 + 1) (by rw [hxl]; omega)).1⟩
  have fr2 := (own_cell hown5 (j := n * 16 + 2) (by rw [hxl]; omega)).2
  obtain ⟨u2, ex2⟩ : ∃ u, w5.cell? ⟨g, n * 16 + 2, none⟩ = some u := ⟨_, (own_cell hown5 (j := n * 16 + 2) (by rw [hxl]; omega)).1⟩
  have fr3 := (own_cell hown5 (j := n * 16 + 3) (by rw [hxl]; omega)).2
  obtain ⟨u3, ex3⟩ : ∃ u, w5.cell? ⟨g, n * 16 + 3, none⟩ = some u := ⟨_, (own_cell hown5 (j := n * 16 + 3) (by rw [hxl]; omega)).1⟩
  have fr4 := (own_cell hown5 (j := n * 16 + 4) (by rw [hxl]; omega)).2
  obtain ⟨u4, ex4⟩ : ∃ u, w5.cell? ⟨g, n * 16 + 4, none⟩ = some u := ⟨_, (own_cell hown5 (j := n * 16 + 4) (by rw [hxl]; omega)).1⟩
  have fr5 := (own_cell hown5 (j := n * 16 + 5) (by rw [hxl]; omega)).2
  obtain ⟨u5, ex5⟩ : ∃ u, w5.cell? ⟨g, n * 16 + 5, none⟩ = some u := ⟨_, (own_cell hown5 (j := n * 16 + 5) (by rw [hxl]; omega)).1⟩
  have fr6 := (own_cell hown5 (j := n * 16 + 6) (by rw [hxl]; omega)).2
  obtain ⟨u6, ex6⟩ : ∃ u, w5.cell? ⟨g, n * 16 + 6, none⟩ = some u := ⟨_, (own_cell hown5 (j := n * 16 + 6) (by rw [hxl]; omega)).1⟩
  have fr7 := (own_cell hown5 (j := n * 16 + 7) (by rw [hxl]; omega)).2
  obtain ⟨u7, ex7⟩ : ∃ u, w5.cell? ⟨g, n * 16 + 7, none⟩ = some u := ⟨_, (own_cell hown5 (j := n * 16 + 7) (by rw [hxl]; omega)).1⟩
  have fr8 := (own_cell hown5 (j := n * 16 + 8) (by rw [hxl]; omega)).2
  obtain ⟨u8, ex8⟩ : ∃ u, w5.cell? ⟨g, n * 16 + 8, none⟩ = some u := ⟨_, (own_cell hown5 (j := n * 16 + 8) (by rw [hxl]; omega)).1⟩
  have fr9 := (own_cell hown5 (j := n * 16 + 9) (by rw [hxl]; omega)).2
  obtain ⟨u9, ex9⟩ : ∃ u, w5.cell? ⟨g, n * 16 + 9, none⟩ = some u := ⟨_, (own_cell hown5 (j := n * 16 + 9) (by rw [hxl]; omega)).1⟩
  have fr10 := (own_cell hown5 (j := n * 16 + 10) (by rw [hxl]; omega)).2
  obtain ⟨u10, ex10⟩ : ∃ u, w5.cell? ⟨g, n * 16 + 10, none⟩ = some u := ⟨_, (own_cell hown5 (j := n * 16 + 10) (by rw [hxl]; omega)).1⟩
  have fr11 := (own_cell hown5 (j := n * 16 + 11) (by rw [hxl]; omega)).2
  obtain ⟨u11, ex11⟩ : ∃ u, w5.cell? ⟨g, n * 16 + 11, none⟩ = some u := ⟨_, (own_cell hown5 (j := n * 16 + 11) (by rw [hxl]; omega)).1⟩
  have fr12 := (own_cell hown5 (j := n * 16 + 12) (by rw [hxl]; omega)).2
  obtain ⟨u12, ex12⟩ : ∃ u, w5.cell? ⟨g, n * 16 + 12, none⟩ = some u := ⟨_, (own_cell hown5 (j := n * 16 + 12) (by rw [hxl]; omega)).1⟩
  have fr13 := (own_cell hown5 (j := n * 16 + 13) (by rw [hxl]; omega)).2
  obtain ⟨u13, ex13⟩ : ∃ u, w5.cell? ⟨g, n * 16 + 13, none⟩ = some u := ⟨_, (own_cell hown5 (j := n * 16 + 13) (by rw [hxl]; omega)).1⟩
  have fr14 := (own_cell hown5 (j := n * 16 + 14) (by rw [hxl]; omega)).2
  obtain ⟨u14, ex14⟩ : ∃ u, w5.cell? ⟨g, n * 16 + 14, none⟩ = some u := ⟨_, (own_cell hown5 (j := n * 16 + 14) (by rw [hxl]; omega)).1⟩
  have fr15 := (own_cell hown5 (j := n * 16 + 15) (by rw [hxl]; omega)).2
  obtain ⟨u15, ex15⟩ : ∃ u, w5.cell? ⟨g, n * 16 + 15, none⟩ = some u := ⟨_, (own_cell hown5 (j := n * 16 + 15) (by rw [hxl]; omega)).1⟩
  have HO5 := Lib.hid hown5
  have HM5 : Hid (MsgF w4.heap.size w5 [.int .i64 m.k, .int .i64 m.f, .int .i64 m.to, .int .i64 m.g, .int .i64 m.n, .slice oe me ke, .slice oa ma ka, .slice ov mv kv, .slice oc mc kc, .slice pv nv lv, .slice pc nc lc, .int .i64 m.ki, .string m.mn, .string m.mv, .slice os ms ks, .int .i64 m.er] m) := hMM
  have HB5 := Lib.hid (HW4.out.trans (hb5.mono HW4.out.size))
  clear hM' hMM hb5 hown5 hxl HCM HO4

  go_wp2
  obtain ⟨w9, h9⟩ : ∃ W, W = wset w5 g (n * 16) [.int .i64 m.k, .int .i64 m.f, .int .i64 m.to, .int .i64 m.g, .int .i64 m.n, .slice oe me ke, .slice oa ma ka, .slice ov mv kv, .slice oc mc kc, .slice pv nv lv, .slice pc nc lc, .int .i64 m.ki, .string m.mn, .string m.mv, .slice os ms ks, .int .i64 m.er] := ⟨_, rfl⟩
  obtain ⟨hown9, hb9⟩ := own_wset [.int .i64 m.k, .int .i64 m.f, .int .i64 m.to, .int .i64 m.g, .int .i64 m.n, .slice oe me ke, .slice oa ma ka, .slice ov mv kv, .slice oc mc kc, .slice pv nv lv, .slice pc nc lc, .int .i64 m.ki, .string m.mn, .string m.mv, .slice os ms ks, .int .i64 m.er] w5 _ (n * 16) HO5.out
  have hls := lset_tail [.int .i64 m.k, .int .i64 m.f, .int .i64 m.to, .int .i64 m.g, .int .i64 m.n, .slice oe me ke, .slice oa ma ka, .slice ov mv kv, .slice oc mc kc, .slice pv nv lv, .slice pc nc lc, .int .i64 m.ki, .string m.mn, .string m.mv, .slice os ms ks, .int .i64 m.er] cs.flatten D HDL.out.symm
  rw [HLEN.out] at hls
  rw [hls] at hown9
  obtain ⟨cur, hcur, _⟩ := own_block HO5.out
  have hM9 := HM5.out.kt (wset_kt [.int .i64 m.k, .int .i64 m.f, .int .i64 m.to, .int .i64 m.g, .int .i64 m.n, .slice oe me ke, .slice oa ma ka, .slice ov mv kv, .slice oc mc kc, .slice pv nv lv, .slice pc nc lc, .int .i64 m.ki, .string m.mn, .string m.mv, .slice os ms ks, .int .i64 m.er] w5 g (n * 16) _ _ hcur) (by decide) (by decide) (by decide) (by decide)
  rw [← h9] at hown9 hb9 hM9
  simp only [wset, Nat.add_assoc, Nat.reduceAdd] at h9
  rw [← h9]
  clear h9
  refine bodyPost_ret (v := .tuple #[.slice (some ⟨g, 0, none⟩) (n + 1) (n + 1), .int .i64 0]) (by simp [results, Try.results9, go_sem]) rfl ⟨HB5.out.trans (hb9.mono (by have := HG.out; omega)), ?_⟩
  rw [← HN.out]
  exact ⟨g, n + 1, [.int .i64 m.k, .int .i64 m.f, .int .i64 m.to, .int .i64 m.g, .int .i64 m.n, .slice oe me ke, .slice oa ma ka, .slice ov mv kv, .slice oc mc kc, .slice pv nv lv, .slice pc nc lc, .int .i64 m.ki, .string m.mn, .string m.mv, .slice os ms ks, .int .i64 m.er], rfl, hM9.low HW4.out.size, ownsRow_low hown9 (by have := HG.out; omega)⟩
theorem send_any (L : List cd.Msg) (m : cd.Msg) (v : Value) (c : List Value) (w : World) (hL : RowsAt 16 msgRel w w.heap.size v L) (hm : msgRel w w.heap.size c m) (hf : Fit m) (hl : L.length < 600) :
    Calls Try.prog 9 #[v, .agg c.toArray] w (SendP L m v w) := by
  obtain ⟨cs, h0, h1, hC⟩ := hL
  refine (send_cs cs L m v c w h0 h1 hC hm hf hl).mono ?_
  rintro e w' ⟨hb, g, cap, c', he, hM, ho⟩
  exact ⟨hb, Or.inr ⟨hl, g, cap, cs, c', he, h0, h1, hM, ho⟩⟩
end Go.Proofs.Ytpgccfgldjeomaa
