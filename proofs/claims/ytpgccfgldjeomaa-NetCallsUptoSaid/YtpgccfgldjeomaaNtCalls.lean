/- net's law: any call of any messages under way. -/
import Derived.Test.YtpgccfgldjeomaaNtAns
import Derived.Test.YtpgccfgldjeomaaNtList
import Derived.Test.YtpgccfgldjeomaaNtOf
import Derived.Test.YtpgccfgldjeomaaNtFarL
namespace Go.Proofs.Ytpgccfgldjeomaa
open Go Go.RowKit Go.ChangeShapes cl
set_option maxHeartbeats 25600000 in
set_option maxRecDepth 100000 in
theorem calls_any (L : List cd.Msg) (m : cd.Msg) (v : Value) (c : List Value) (i : Int) (w : World) (hL : RowsAt 16 msgRel w w.heap.size v L) (hm : msgRel w w.heap.size c m) (hl : L.length ≤ 1048576) (hs : ∀ m ∈ L, Small 1048576 m) (hsm : Small 1048576 m) :
    Calls Try.prog 3 #[v, .agg c.toArray, .int .i64 i] w (Said true w) := by
  have HAW : Hid (∀ W, Calls Try.prog 8 #[] W (Said true W)) := awake_any
  obtain ⟨n, hn⟩ : ∃ n, n = L.length := ⟨_, rfl⟩
  obtain ⟨ao, cap, rfl, hnc, hnm⟩ := hL.form' hn
  rw [← hn] at hl
  obtain ⟨cs, h0, hel, hC⟩ := hL
  obtain ⟨xs, hxs⟩ : ∃ x, x = cs.flatten := ⟨_, rfl⟩
  have hlen : ∀ c ∈ cs, c.length = 16 := RowsAt.len h0 hel
  have hxl : xs.length = n * 16 := by rw [hxs, flat_len cs hlen, h0, hn]
  have HONE : Hid (∀ u ∈ xs, u.oneCell' = true) := by
    show ∀ u ∈ xs, _
    rw [hxs]; exact flat_one h0 hel (fun c x h => (msg_one c x h).2)
  rw [← hxs, ← hn] at hC
  obtain ⟨ae, ne, ce, aa, na, ca, p1, n1, c1, p2, n2, c2, p3, n3, c3, p4, n4, c4, sa, sn, sc, rfl, hmr⟩ := hm
  have HMW : Hid (∀ W, Below w.heap.size w W → msgRel W W.heap.size (#[.int .i64 m.k, .int .i64 m.f, .int .i64 m.to, .int .i64 m.g, .int .i64 m.n, .slice ae ne ce, .slice aa na ca, .slice p1 n1 c1, .slice p2 n2 c2, .slice p3 n3 c3, .slice p4 n4 c4, .int .i64 m.ki, .string m.mn, .string m.mv, .slice sa sn sc, .int .i64 m.er] : Array Value).toList m) := fun W hW => msgRel_steady _ _ _ _ _ _ ⟨ae, ne, ce, aa, na, ca, p1, n1, c1, p2, n2, c2, p3, n3, c3, p4, n4, c4, sa, sn, sc, rfl, hmr⟩ hW hW.size
  have HLW : Hid (∀ W, Below w.heap.size w W → RowsAt 16 msgRel W W.heap.size (.slice ao n cap) L) := fun W hW => RowsAt.next msgRel_steady ⟨cs, h0, hel, by rw [← hn, ← hxs]; exact hC⟩ hW
  have HEL : Hid (∀ W, Below w.heap.size w W → ∀ (j : Nat) (c : List Value) (x : cd.Msg), cs[j]? = some c → L[j]? = some x → c.length = 16 ∧ msgRel W W.heap.size c x) := fun W hW j c x hc hx => ⟨(hel j c x hc hx).1, msgRel_steady _ _ _ _ _ _ (hel j c x hc hx).2 hW hW.size⟩
  have HNONE : Hid (ao = none → n = 0 ∧ cap = 0) := (Cells.news hC).1
  have HCC : Hid (∀ W, Below w.heap.size w W → ∀ ad, ao = some ad → ∀ (j : Nat) u, xs[j]? = some u → W.cell? (ad.add j) = some u) := fun W hW => (Cells.news (hC.next hW)).2
  have HXS := Lib.hid hxs
  have HXL := Lib.hid hxl
  have HN := Lib.hid hn
  have H0 := Lib.hid h0
  have HS := Lib.hid hs
  have HSM := Lib.hid hsm
  obtain ⟨q0, hq0⟩ : ∃ x, x = w.heap.size := ⟨_, rfl⟩
  obtain ⟨W1, hW1⟩ : ∃ W, W = w.alloc (.cells #[.int .i64 m.k, .int .i64 m.f, .int .i64 m.to, .int .i64 m.g, .int .i64 m.n, .slice ae ne ce, .slice aa na ca, .slice p1 n1 c1, .slice p2 n2 c2, .slice p3 n3 c3, .slice p4 n4 c4, .int .i64 m.ki, .string m.mn, .string m.mv, .slice sa sn sc, .int .i64 m.er] 34) := ⟨_, rfl⟩
  have b1 : Below w.heap.size w W1 := by rw [hW1]; exact below1
  have x1 : W1.heap[q0]? = some (.cells #[.int .i64 m.k, .int .i64 m.f, .int .i64 m.to, .int .i64 m.g, .int .i64 m.n, .slice ae ne ce, .slice aa na ca, .slice p1 n1 c1, .slice p2 n2 c2, .slice p3 n3 c3, .slice p4 n4 c4, .int .i64 m.ki, .string m.mn, .string m.mv, .slice sa sn sc, .int .i64 m.er] 34) := by rw [hW1, hq0]; exact heap_alloc_new w _
  have B1 := Lib.hid b1
  have X1 := Lib.hid x1
  have HW1 := Lib.hid hW1
  have HQ0 := Lib.hid hq0
  clear hmr hxs hxl hn h0 hel hC hlen hs hsm hq0 hW1 b1 x1
  go_enter Try.func3, Try.ntmps3
  go_wp2
  rw [← HW1.out, ← HQ0.out]
  refine wp_flow 7 (fun kF => match kF with | 0 => 2 | 2 => 5 | 4 => 5 | _ => 1000) (fun ww => RowKit.Below W1.heap.size W1 ww) (fun i w w' => if i = 5 then (fun (w w' : World) => RowKit.Below W1.heap.size w w') w w' else (fun (w w' : World) => RowKit.Below w.heap.size w w') w w') (fun kF vF wF => match kF with | 0 => (∃ g, vF = .slice (some ⟨g, 0, none⟩) 0 0 ∧ wF.ownsRow W1.heap.size 34 16 (.slice (some ⟨g, 0, none⟩) 0 0) 0 []) | 1 => (vF = .slice ao n cap) | 2 => (∃ ao2 cp2, vF = .slice ao2 n cp2 ∧ wF.ownsRow W1.heap.size 34 16 (.slice ao2 n cp2) n xs) | 3 => (vF = .agg #[.int .i64 m.k, .int .i64 m.f, .int .i64 m.to, .int .i64 m.g, .int .i64 m.n, .slice ae ne ce, .slice aa na ca, .slice p1 n1 c1, .slice p2 n2 c2, .slice p3 n3 c3, .slice p4 n4 c4, .int .i64 m.ki, .string m.mn, .string m.mv, .slice sa sn sc, .int .i64 m.er]) | 4 => (∃ g, vF = .slice (some ⟨g, 0, none⟩) 1 1 ∧ wF.heap[g]? = some (.cells #[.int .i64 m.k, .int .i64 m.f, .int .i64 m.to, .int .i64 m.g, .int .i64 m.n, .slice ae ne ce, .slice aa na ca, .slice p1 n1 c1, .slice p2 n2 c2, .slice p3 n3 c3, .slice p4 n4 c4, .int .i64 m.ki, .string m.mn, .string m.mv, .slice sa sn sc, .int .i64 m.er] 34) ∧ W1.heap.size ≤ g) | 5 => (∃ ao5 cp5, vF = .slice ao5 (n + 1) cp5 ∧ wF.ownsRow W1.heap.size 34 16 (.slice ao5 (n + 1) cp5) (n + 1) (xs ++ (#[.int .i64 m.k, .int .i64 m.f, .int .i64 m.to, .int .i64 m.g, .int .i64 m.n, .slice ae ne ce, .slice aa na ca, .slice p1 n1 c1, .slice p2 n2 c2, .slice p3 n3 c3, .slice p4 n4 c4, .int .i64 m.ki, .string m.mn, .string m.mv, .slice sa sn sc, .int .i64 m.er] : Array Value).toList)) | 6 => (∃ r : Bool, vF = .bool r ∧ (r = false → n + 1 ≤ 60)) | _ => True) (fun _ _ _ _ => True) (by kernel_rfl) (by kernel_rfl) ?_ ?_ ?_ ?_ ?_
  · exact (Below.refl _ _).drew
  · intro iF wF1 wF2 hR hT
    have hT : (fun i w w' => if i = 5 then (fun (w w' : World) => RowKit.Below W1.heap.size w w') w w' else (fun (w w' : World) => RowKit.Below w.heap.size w w') w w') iF wF1 wF2 := hT
    simp only at hT
    by_cases hi5 : iF = 5
    · rw [if_pos hi5] at hT; exact hR.trans hT
    rw [if_neg hi5] at hT
    exact hR.trans (hT.mono hR.size)
  · intro kF hkF iF hiF hne hdd hanc hdan vF wF1 wF2 h hT
    rcases (by omega : kF = 0 ∨ kF = 1 ∨ kF = 2 ∨ kF = 3 ∨ kF = 4 ∨ kF = 5 ∨ kF = 6) with rfl | rfl | rfl | rfl | rfl | rfl | rfl
    · have h : (∃ g, vF = .slice (some ⟨g, 0, none⟩) 0 0 ∧ wF1.ownsRow W1.heap.size 34 16 (.slice (some ⟨g, 0, none⟩) 0 0) 0 []) := h
      show (∃ g, vF = .slice (some ⟨g, 0, none⟩) 0 0 ∧ wF2.ownsRow W1.heap.size 34 16 (.slice (some ⟨g, 0, none⟩) 0 0) 0 [])
      have hT : (fun i w w' => if i = 5 then (fun (w w' : World) => RowKit.Below W1.heap.size w w') w w' else (fun (w w' : World) => RowKit.Below w.heap.size w w') w w') iF wF1 wF2 := hT
      simp only at hT
      by_cases hi5 : iF = 5
      · subst hi5; exact (anc_no hdan (by kernel_rfl)).elim
      rw [if_neg hi5] at hT
      obtain ⟨g, e, ho⟩ := h
      exact ⟨g, e, own_stay ho hT⟩
    · exact h
    · have h : (∃ ao2 cp2, vF = .slice ao2 n cp2 ∧ wF1.ownsRow W1.heap.size 34 16 (.slice ao2 n cp2) n xs) := h
      show (∃ ao2 cp2, vF = .slice ao2 n cp2 ∧ wF2.ownsRow W1.heap.size 34 16 (.slice ao2 n cp2) n xs)
      have hT : (fun i w w' => if i = 5 then (fun (w w' : World) => RowKit.Below W1.heap.size w w') w w' else (fun (w w' : World) => RowKit.Below w.heap.size w w') w w') iF wF1 wF2 := hT
      simp only at hT
      by_cases hi5 : iF = 5
      · exact absurd hi5.symm hdd
      rw [if_neg hi5] at hT
      obtain ⟨a2, c2, e, ho⟩ := h
      exact ⟨a2, c2, e, own_stay ho hT⟩
    · exact h
    · have h : (∃ g, vF = .slice (some ⟨g, 0, none⟩) 1 1 ∧ wF1.heap[g]? = some (.cells #[.int .i64 m.k, .int .i64 m.f, .int .i64 m.to, .int .i64 m.g, .int .i64 m.n, .slice ae ne ce, .slice aa na ca, .slice p1 n1 c1, .slice p2 n2 c2, .slice p3 n3 c3, .slice p4 n4 c4, .int .i64 m.ki, .string m.mn, .string m.mv, .slice sa sn sc, .int .i64 m.er] 34) ∧ W1.heap.size ≤ g) := h
      show (∃ g, vF = .slice (some ⟨g, 0, none⟩) 1 1 ∧ wF2.heap[g]? = some (.cells #[.int .i64 m.k, .int .i64 m.f, .int .i64 m.to, .int .i64 m.g, .int .i64 m.n, .slice ae ne ce, .slice aa na ca, .slice p1 n1 c1, .slice p2 n2 c2, .slice p3 n3 c3, .slice p4 n4 c4, .int .i64 m.ki, .string m.mn, .string m.mv, .slice sa sn sc, .int .i64 m.er] 34) ∧ W1.heap.size ≤ g)
      have hT : (fun i w w' => if i = 5 then (fun (w w' : World) => RowKit.Below W1.heap.size w w') w w' else (fun (w w' : World) => RowKit.Below w.heap.size w w') w w') iF wF1 wF2 := hT
      simp only at hT
      by_cases hi5 : iF = 5
      · exact absurd hi5.symm hdd
      rw [if_neg hi5] at hT
      obtain ⟨g, e, hg, hB⟩ := h
      exact ⟨g, e, (hT.block _ (lt_of_block hg)).trans hg, hB⟩
    · have h : (∃ ao5 cp5, vF = .slice ao5 (n + 1) cp5 ∧ wF1.ownsRow W1.heap.size 34 16 (.slice ao5 (n + 1) cp5) (n + 1) (xs ++ (#[.int .i64 m.k, .int .i64 m.f, .int .i64 m.to, .int .i64 m.g, .int .i64 m.n, .slice ae ne ce, .slice aa na ca, .slice p1 n1 c1, .slice p2 n2 c2, .slice p3 n3 c3, .slice p4 n4 c4, .int .i64 m.ki, .string m.mn, .string m.mv, .slice sa sn sc, .int .i64 m.er] : Array Value).toList)) := h
      show (∃ ao5 cp5, vF = .slice ao5 (n + 1) cp5 ∧ wF2.ownsRow W1.heap.size 34 16 (.slice ao5 (n + 1) cp5) (n + 1) (xs ++ (#[.int .i64 m.k, .int .i64 m.f, .int .i64 m.to, .int .i64 m.g, .int .i64 m.n, .slice ae ne ce, .slice aa na ca, .slice p1 n1 c1, .slice p2 n2 c2, .slice p3 n3 c3, .slice p4 n4 c4, .int .i64 m.ki, .string m.mn, .string m.mv, .slice sa sn sc, .int .i64 m.er] : Array Value).toList))
      have hT : (fun i w w' => if i = 5 then (fun (w w' : World) => RowKit.Below W1.heap.size w w') w w' else (fun (w w' : World) => RowKit.Below w.heap.size w w') w w') iF wF1 wF2 := hT
      simp only at hT
      by_cases hi5 : iF = 5
      · exact absurd hi5.symm hne
      rw [if_neg hi5] at hT
      obtain ⟨a2, c2, e, ho⟩ := h
      exact ⟨a2, c2, e, own_stay ho hT⟩
    · exact h
  · generalize hAF : fillOf _ _ _ = AF
    replace hAF := fun x => congrFun hAF x
    simp only [List.take_succ_cons, List.take_zero, fillOf, Act.put, List.setIfInBounds_toArray, List.set_cons_zero, List.set_cons_succ, Nat.reduceAdd, Nat.zero_add] at hAF
    refine FlowAll.cons ?_ ?_
    · intro xF wx hR hd K hK
      clear hd
      simp only [← hAF, Act.put, List.setIfInBounds_toArray, List.set_cons_zero, List.set_cons_succ] at hK ⊢
      clear hAF
      try simp only [Nat.zero_add] at hK ⊢
      try simp only [Nat.reduceAdd] at hK ⊢
      obtain hbR := id hR
      rw [if_pos (by rfl)]
      go_simp
      exact hK.out _ _ (below1) (⟨_, rfl, own_none _ hR.size 16⟩) (fun _ _ _ => ⟨trivial, trivial⟩)
    refine FlowAll.cons ?_ ?_
    · intro xF wx hR hd K hK
      clear hd
      simp only [← hAF, Act.put, List.setIfInBounds_toArray, List.set_cons_zero, List.set_cons_succ] at hK ⊢
      clear hAF
      try simp only [Nat.zero_add] at hK ⊢
      try simp only [Nat.reduceAdd] at hK ⊢
      obtain hbR := id hR
      rw [if_pos (by rfl)]
      go_simp
      exact hK.out _ _ (Below.refl _ _) (rfl) (fun _ _ _ => ⟨trivial, trivial⟩)
    refine FlowAll.cons ?_ ?_
    · intro xF wx hR hd K hK
      have dd0 : (∃ g, (xF 0) = .slice (some ⟨g, 0, none⟩) 0 0 ∧ wx.ownsRow W1.heap.size 34 16 (.slice (some ⟨g, 0, none⟩) 0 0) 0 []) := hd 0 (by kernel_rfl)
      have dd1 : ((xF 1) = .slice ao n cap) := hd 1 (by kernel_rfl)
      clear hd
      simp only [← hAF, Act.put, List.setIfInBounds_toArray, List.set_cons_zero, List.set_cons_succ] at hK ⊢
      clear hAF
      try simp only [Nat.zero_add] at hK ⊢
      try simp only [Nat.reduceAdd] at hK ⊢
      try generalize xF 0 = yy0 at *
      try generalize xF 1 = yy1 at *
      obtain ⟨g0, rfl, ho0⟩ := dd0
      obtain rfl := dd1
      obtain hbR := id hR
      rw [if_pos (by rfl)]
      refine kit.wp_of_list (fun Q' hQ' => ?_)
      refine kit.appZ (.tmp 25) (.tmp 26) 22 rfl rfl W1.heap.size Try.underlying22 ninfo_msg rfl (by decide) (by decide) ho0 rfl xs rfl (by rw [HXL.out]) HNONE.out (HCC.out _ (B1.out.trans (hR.mono B1.out.size))) HONE.out (by omega) hR.size ?_
      intro vN wN hownN hbN
      refine hQ' _ _ ?_
      obtain ⟨aoN, cpN, rfl⟩ := own_form4 hownN
      simp only [Act.put, List.setIfInBounds_toArray, List.set_cons_zero, List.set_cons_succ]
      exact hK.out _ _ (hbN) (⟨aoN, cpN, rfl, hownN⟩) (fun _ _ _ => ⟨trivial, trivial⟩)
    refine FlowAll.cons ?_ ?_
    · intro xF wx hR hd K hK
      clear hd
      simp only [← hAF, Act.put, List.setIfInBounds_toArray, List.set_cons_zero, List.set_cons_succ] at hK ⊢
      clear hAF
      try simp only [Nat.zero_add] at hK ⊢
      try simp only [Nat.reduceAdd] at hK ⊢
      obtain hbR := id hR
      have hxa := (hbR.block _ (lt_of_block X1.out)).trans X1.out
      have qc0 := boxc hxa 0 _ rfl
      have qc1 := boxc hxa 1 _ rfl
      have qc2 := boxc hxa 2 _ rfl
      have qc3 := boxc hxa 3 _ rfl
      have qc4 := boxc hxa 4 _ rfl
      have qc5 := boxc hxa 5 _ rfl
      have qc6 := boxc hxa 6 _ rfl
      have qc7 := boxc hxa 7 _ rfl
      have qc8 := boxc hxa 8 _ rfl
      have qc9 := boxc hxa 9 _ rfl
      have qc10 := boxc hxa 10 _ rfl
      have qc11 := boxc hxa 11 _ rfl
      have qc12 := boxc hxa 12 _ rfl
      have qc13 := boxc hxa 13 _ rfl
      have qc14 := boxc hxa 14 _ rfl
      have qc15 := boxc hxa 15 _ rfl
      clear hxa
      rw [if_pos (by rfl)]
      go_simp
      exact hK.out _ _ (Below.refl _ _) (rfl) (fun _ _ _ => ⟨trivial, trivial⟩)
    refine FlowAll.cons ?_ ?_
    · intro xF wx hR hd K hK
      have dd3 : ((xF 3) = .agg #[.int .i64 m.k, .int .i64 m.f, .int .i64 m.to, .int .i64 m.g, .int .i64 m.n, .slice ae ne ce, .slice aa na ca, .slice p1 n1 c1, .slice p2 n2 c2, .slice p3 n3 c3, .slice p4 n4 c4, .int .i64 m.ki, .string m.mn, .string m.mv, .slice sa sn sc, .int .i64 m.er]) := hd 3 (by kernel_rfl)
      clear hd
      simp only [← hAF, Act.put, List.setIfInBounds_toArray, List.set_cons_zero, List.set_cons_succ] at hK ⊢
      clear hAF
      try simp only [Nat.zero_add] at hK ⊢
      try simp only [Nat.reduceAdd] at hK ⊢
      try generalize xF 3 = yy3 at *
      obtain rfl := dd3
      obtain hbR := id hR
      rw [if_pos (by rfl)]
      go_simp
      exact hK.out _ _ (below1) (⟨_, rfl, heap_alloc_new _ _, hR.size⟩) (fun _ _ _ => ⟨trivial, trivial⟩)
    refine FlowAll.cons ?_ ?_
    · intro xF wx hR hd K hK
      have dd2 : (∃ ao2 cp2, (xF 2) = .slice ao2 n cp2 ∧ wx.ownsRow W1.heap.size 34 16 (.slice ao2 n cp2) n xs) := hd 2 (by kernel_rfl)
      have dd4 : (∃ g, (xF 4) = .slice (some ⟨g, 0, none⟩) 1 1 ∧ wx.heap[g]? = some (.cells #[.int .i64 m.k, .int .i64 m.f, .int .i64 m.to, .int .i64 m.g, .int .i64 m.n, .slice ae ne ce, .slice aa na ca, .slice p1 n1 c1, .slice p2 n2 c2, .slice p3 n3 c3, .slice p4 n4 c4, .int .i64 m.ki, .string m.mn, .string m.mv, .slice sa sn sc, .int .i64 m.er] 34) ∧ W1.heap.size ≤ g) := hd 4 (by kernel_rfl)
      clear hd
      simp only [← hAF, Act.put, List.setIfInBounds_toArray, List.set_cons_zero, List.set_cons_succ] at hK ⊢
      clear hAF
      try simp only [Nat.zero_add] at hK ⊢
      try simp only [Nat.reduceAdd] at hK ⊢
      try generalize xF 2 = yy2 at *
      try generalize xF 4 = yy4 at *
      obtain ⟨ao2, cp2, rfl, ho2⟩ := dd2
      obtain ⟨g4, rfl, hg4, hg4B⟩ := dd4
      obtain hbR := id hR
      rw [if_pos (by rfl)]
      refine kit.wp_of_list (fun Q' hQ' => ?_)
      refine kit.appN (.tmp 27) (.tmp 29) 22 rfl rfl W1.heap.size Try.underlying22 ninfo_msg rfl (by decide) (by decide) ho2 rfl (#[.int .i64 m.k, .int .i64 m.f, .int .i64 m.to, .int .i64 m.g, .int .i64 m.n, .slice ae ne ce, .slice aa na ca, .slice p1 n1 c1, .slice p2 n2 c2, .slice p3 n3 c3, .slice p4 n4 c4, .int .i64 m.ki, .string m.mn, .string m.mv, .slice sa sn sc, .int .i64 m.er] : Array Value).toList rfl (by rfl) (fun e => by cases e) (by
          intro ad e j u hj
          obtain rfl := Option.some.inj e
          rw [Addr.add_lit, Nat.zero_add]
          exact boxc hg4 j u (by simpa using hj)) (msg_one _ _ (HMW.out _ (B1.out.trans (hR.mono B1.out.size)))).2 (by omega) hR.size ?_
      intro vN wN hownN hbN
      refine hQ' _ _ ?_
      obtain ⟨aoN, cpN, rfl⟩ := own_form4 hownN
      simp only [Act.put, List.setIfInBounds_toArray, List.set_cons_zero, List.set_cons_succ]
      exact hK.out _ _ (hbN) (⟨aoN, cpN, rfl, hownN⟩) (fun _ _ _ => ⟨trivial, trivial⟩)
    refine FlowAll.cons ?_ ?_
    · intro xF wx hR hd K hK
      have dd5 : (∃ ao5 cp5, (xF 5) = .slice ao5 (n + 1) cp5 ∧ wx.ownsRow W1.heap.size 34 16 (.slice ao5 (n + 1) cp5) (n + 1) (xs ++ (#[.int .i64 m.k, .int .i64 m.f, .int .i64 m.to, .int .i64 m.g, .int .i64 m.n, .slice ae ne ce, .slice aa na ca, .slice p1 n1 c1, .slice p2 n2 c2, .slice p3 n3 c3, .slice p4 n4 c4, .int .i64 m.ki, .string m.mn, .string m.mv, .slice sa sn sc, .int .i64 m.er] : Array Value).toList)) := hd 5 (by kernel_rfl)
      clear hd
      simp only [← hAF, Act.put, List.setIfInBounds_toArray, List.set_cons_zero, List.set_cons_succ] at hK ⊢
      clear hAF
      try simp only [Nat.zero_add] at hK ⊢
      try simp only [Nat.reduceAdd] at hK ⊢
      try generalize xF 5 = yy5 at *
      obtain ⟨ao5, cp5, rfl, ho5⟩ := dd5
      obtain hbR := id hR
      have hw := B1.out.trans (hR.mono B1.out.size)
      have hF := Lib.hid (far_len (L ++ [m]) (.slice ao5 (n + 1) cp5) _ (RowsAt.own (e := 34) (base := W1.heap.size) (n := n + 1) (cs := cs ++ [(#[.int .i64 m.k, .int .i64 m.f, .int .i64 m.to, .int .i64 m.g, .int .i64 m.n, .slice ae ne ce, .slice aa na ca, .slice p1 n1 c1, .slice p2 n2 c2, .slice p3 n3 c3, .slice p4 n4 c4, .int .i64 m.ki, .string m.mn, .string m.mv, .slice sa sn sc, .int .i64 m.er] : Array Value).toList]) (by rw [List.length_append, ← HN.out]; rfl) (by rw [List.length_append, List.length_append, H0.out]; rfl) (snoc_rows (P := fun c x => c.length = 16 ∧ msgRel _ _ c x) H0.out (HEL.out _ hw) ⟨rfl, HMW.out _ hw⟩) (by rw [List.flatten_append, ← HXS.out]; simpa using ho5)))
      clear hw ho5
      rw [if_pos (by rfl)]
      go_simp
      (go_at_call 7; (with_reducible refine hF.out.mono ?_); rintro e wK ⟨⟨r, rfl, hr⟩, hbK⟩)
      try go_wp2_with fail
      exact hK.out _ _ (hbK) (⟨r, rfl, fun h => by have := hr h; rw [List.length_append, ← HN.out] at this; exact this⟩) (fun _ _ _ => ⟨trivial, trivial⟩)
    exact FlowAll.nil
  intro xF wx hR hF hP
  clear hP
  have dd1 : ((xF 1) = .slice ao n cap) := hF 1 (by omega) (by decide)
  have dd3 : ((xF 3) = .agg #[.int .i64 m.k, .int .i64 m.f, .int .i64 m.to, .int .i64 m.g, .int .i64 m.n, .slice ae ne ce, .slice aa na ca, .slice p1 n1 c1, .slice p2 n2 c2, .slice p3 n3 c3, .slice p4 n4 c4, .int .i64 m.ki, .string m.mn, .string m.mv, .slice sa sn sc, .int .i64 m.er]) := hF 3 (by omega) (by decide)
  have dd5 : (∃ ao5 cp5, (xF 5) = .slice ao5 (n + 1) cp5 ∧ wx.ownsRow W1.heap.size 34 16 (.slice ao5 (n + 1) cp5) (n + 1) (xs ++ (#[.int .i64 m.k, .int .i64 m.f, .int .i64 m.to, .int .i64 m.g, .int .i64 m.n, .slice ae ne ce, .slice aa na ca, .slice p1 n1 c1, .slice p2 n2 c2, .slice p3 n3 c3, .slice p4 n4 c4, .int .i64 m.ki, .string m.mn, .string m.mv, .slice sa sn sc, .int .i64 m.er] : Array Value).toList)) := hF 5 (by omega) (by decide)
  have dd6 : (∃ r : Bool, (xF 6) = .bool r ∧ (r = false → n + 1 ≤ 60)) := hF 6 (by omega) (by decide)
  clear hF
  simp only [List.take_succ_cons, List.take_zero, List.drop_succ_cons, List.drop_zero, fillOf, Act.put, List.setIfInBounds_toArray, List.set_cons_zero, List.set_cons_succ, Nat.reduceAdd, Nat.zero_add]
  try generalize xF 0 = yy0 at *
  try generalize xF 1 = yy1 at *
  try generalize xF 2 = yy2 at *
  try generalize xF 3 = yy3 at *
  try generalize xF 4 = yy4 at *
  try generalize xF 5 = yy5 at *
  try generalize xF 6 = yy6 at *
  clear xF
  obtain rfl := dd1
  obtain rfl := dd3
  obtain ⟨ao5, cp5, rfl, ho5⟩ := dd5
  obtain ⟨r, rfl, hr⟩ := dd6
  have hRE := Lib.hid hR
  clear hR
  have BX := Lib.hid (B1.out.trans (hRE.out.mono B1.out.size))
  have X0 : Hid (wx.heap[q0]? = some (.cells #[.int .i64 m.k, .int .i64 m.f, .int .i64 m.to, .int .i64 m.g, .int .i64 m.n, .slice ae ne ce, .slice aa na ca, .slice p1 n1 c1, .slice p2 n2 c2, .slice p3 n3 c3, .slice p4 n4 c4, .int .i64 m.ki, .string m.mn, .string m.mv, .slice sa sn sc, .int .i64 m.er] 34)) := (hRE.out.block _ (lt_of_block X1.out)).trans X1.out
  clear hRE ho5 B1 X1
  cases r with
  | true =>
    clear hr
    go_wp2_with fail
    (with_reducible refine (HAW.out _).mono ?_)
    rintro e w4 ⟨rfl, b4⟩
    go_wp2
    go_ret
    exact ⟨rfl, BX.out.trans (b4.mono BX.out.size)⟩
  | false =>
    have hn6 := hr rfl
    clear hr
    have hL6 : L.length < 600 := by rw [← HN.out]; omega
    have HFM : Hid (Fit m) := HSM.out.fit (by omega)
    have HFL : Hid (∀ x ∈ L, Fit x) := fun x hx => (HS.out x hx).fit (by omega)
    obtain ⟨tl, htl⟩ : ∃ x, x = tkL L i := ⟨_, rfl⟩
    obtain ⟨tx, htx⟩ : ∃ x, x = tkX L i := ⟨_, rfl⟩
    obtain ⟨tc, htc⟩ : ∃ x, x = tkC L i := ⟨_, rfl⟩
    obtain ⟨tw, htw⟩ : ∃ x, x = twL L i := ⟨_, rfl⟩
    obtain ⟨ts, hts⟩ : ∃ x, x = L ++ [m] := ⟨_, rfl⟩
    have KS : Hid (∀ W, Below w.heap.size w W → Calls Try.prog 9 #[.slice ao n cap, .agg #[.int .i64 m.k, .int .i64 m.f, .int .i64 m.to, .int .i64 m.g, .int .i64 m.n, .slice ae ne ce, .slice aa na ca, .slice p1 n1 c1, .slice p2 n2 c2, .slice p3 n3 c3, .slice p4 n4 c4, .int .i64 m.ki, .string m.mn, .string m.mv, .slice sa sn sc, .int .i64 m.er]] W (LA ts 0 W)) := by
      intro W hW
      rw [hts]; exact net_send (HLW.out W hW) (HMW.out W hW) HFM.out hL6
    have Ks : Hid (∀ W, Below w.heap.size w W → Calls Try.prog 10 #[.slice ao n cap, .agg #[.int .i64 m.k, .int .i64 m.f, .int .i64 m.to, .int .i64 m.g, .int .i64 m.n, .slice ae ne ce, .slice aa na ca, .slice p1 n1 c1, .slice p2 n2 c2, .slice p3 n3 c3, .slice p4 n4 c4, .int .i64 m.ki, .string m.mn, .string m.mv, .slice sa sn sc, .int .i64 m.er]] W (LA ts 0 W)) := by
      intro W hW
      rw [hts]; exact ref_send (HLW.out W hW) (HMW.out W hW) HS.out HSM.out hL6
    have KT : Hid (∀ W, Below w.heap.size w W → Calls Try.prog 11 #[.slice ao n cap, .int .i64 i] W (TA tl tx tc W)) := by
      intro W hW
      rw [htl, htx, htc]; exact net_take (HLW.out W hW) (by omega) HFL.out
    have Kt : Hid (∀ W, Below w.heap.size w W → Calls Try.prog 12 #[.slice ao n cap, .int .i64 i] W (TA tl tx tc W)) := by
      intro W hW
      rw [htl, htx, htc]; exact ref_take (HLW.out W hW) (by omega) HS.out
    have KL : Hid (∀ W, Below w.heap.size w W → Calls Try.prog 13 #[.slice ao n cap, .int .i64 i] W (LA tl tc W)) := by
      intro W hW
      rw [htl, htc]; exact net_lose (HLW.out W hW) (by omega) HFL.out
    have Kl : Hid (∀ W, Below w.heap.size w W → Calls Try.prog 14 #[.slice ao n cap, .int .i64 i] W (LA tl tc W)) := by
      intro W hW
      rw [htl, htc]; exact ref_lose (HLW.out W hW) (by omega) HS.out
    have KW : Hid (∀ W, Below w.heap.size w W → Calls Try.prog 15 #[.slice ao n cap, .int .i64 i] W (LA tw tc W)) := by
      intro W hW
      rw [htw, htc]; exact net_twice (HLW.out W hW) hL6 HFL.out
    have Kw : Hid (∀ W, Below w.heap.size w W → Calls Try.prog 16 #[.slice ao n cap, .int .i64 i] W (LA tw tc W)) := by
      intro W hW
      rw [htw, htc]; exact ref_twice (HLW.out W hW) hL6 HS.out
    have KO : Hid (∀ W, Below w.heap.size w W → Calls Try.prog 19 #[.slice ao n cap, .int .i64 m.k] W (fun e w' => e = .returned (.int .i64 (cnt L m.k L.length : Int)) ∧ Below W.heap.size W w')) := fun W hW => of_net L m.k _ W (HLW.out W hW)
    have Ko : Hid (∀ W, Below w.heap.size w W → Calls Try.prog 20 #[.slice ao n cap, .int .i64 m.k] W (fun e w' => e = .returned (.int .i64 (cnt L m.k L.length : Int)) ∧ Below W.heap.size W w')) := fun W hW => of_ref L m.k _ W (HLW.out W hW)
    have KB : Hid (∀ W, Below w.heap.size w W → Calls Try.prog 21 #[.slice ao n cap] W (fun e w' => e = .returned (.bool (busyB L)) ∧ Below W.heap.size W w')) := fun W hW => busy_net L _ W (HLW.out W hW) (by omega)
    have Kb : Hid (∀ W, Below w.heap.size w W → Calls Try.prog 22 #[.slice ao n cap] W (fun e w' => e = .returned (.bool (busyB L)) ∧ Below W.heap.size W w')) := fun W hW => busy_ref L _ W (HLW.out W hW)
    obtain ⟨co, hco⟩ : ∃ x, x = cnt L m.k L.length := ⟨_, rfl⟩
    obtain ⟨bu, hbu⟩ : ∃ x, x = busyB L := ⟨_, rfl⟩
    rw [← hco] at KO Ko
    rw [← hbu] at KB Kb
    clear hts htl htx htc htw hco hbu hL6 hn6
    clear HLW HMW HEL HCC HNONE HONE HXS HXL H0 HS HSM HFM HFL HN HW1 HQ0
    as_aux_lemma =>
      have lc0 := boxc X0.out 0 _ rfl
      have lc1 := boxc X0.out 1 _ rfl
      have lc2 := boxc X0.out 2 _ rfl
      have lc3 := boxc X0.out 3 _ rfl
      have lc4 := boxc X0.out 4 _ rfl
      have lc5 := boxc X0.out 5 _ rfl
      have lc6 := boxc X0.out 6 _ rfl
      have lc7 := boxc X0.out 7 _ rfl
      have lc8 := boxc X0.out 8 _ rfl
      have lc9 := boxc X0.out 9 _ rfl
      have lc10 := boxc X0.out 10 _ rfl
      have lc11 := boxc X0.out 11 _ rfl
      have lc12 := boxc X0.out 12 _ rfl
      have lc13 := boxc X0.out 13 _ rfl
      have lc14 := boxc X0.out 14 _ rfl
      have lc15 := boxc X0.out 15 _ rfl
      go_wp2_with fail
      clear lc0 lc1 lc2 lc3 lc4 lc5 lc6 lc7 lc8 lc9 lc10 lc11 lc12 lc13 lc14 lc15
      (with_reducible refine (KS.out _ BX.out).mono ?_)
      rintro e w11 ⟨o1, m1, c1, rfl, hr1, hm1, hb1⟩
      replace X0 := Lib.hid ((hb1.block _ (lt_of_block X0.out)).trans X0.out)
      replace BX := Lib.hid (BX.out.trans (hb1.mono BX.out.size))
      have RS := Lib.hid hr1
      clear hr1 hm1 hb1
      as_aux_lemma =>
        have lc0 := boxc X0.out 0 _ rfl
        have lc1 := boxc X0.out 1 _ rfl
        have lc2 := boxc X0.out 2 _ rfl
        have lc3 := boxc X0.out 3 _ rfl
        have lc4 := boxc X0.out 4 _ rfl
        have lc5 := boxc X0.out 5 _ rfl
        have lc6 := boxc X0.out 6 _ rfl
        have lc7 := boxc X0.out 7 _ rfl
        have lc8 := boxc X0.out 8 _ rfl
        have lc9 := boxc X0.out 9 _ rfl
        have lc10 := boxc X0.out 10 _ rfl
        have lc11 := boxc X0.out 11 _ rfl
        have lc12 := boxc X0.out 12 _ rfl
        have lc13 := boxc X0.out 13 _ rfl
        have lc14 := boxc X0.out 14 _ rfl
        have lc15 := boxc X0.out 15 _ rfl
        go_wp2_with fail
        clear lc0 lc1 lc2 lc3 lc4 lc5 lc6 lc7 lc8 lc9 lc10 lc11 lc12 lc13 lc14 lc15
        (with_reducible refine (Ks.out _ BX.out).mono ?_)
        rintro e w12 ⟨o2, m2, c2, rfl, hr2, hm2, hb2⟩
        replace X0 := Lib.hid ((hb2.block _ (lt_of_block X0.out)).trans X0.out)
        replace RS := Lib.hid (RowsAt.next msgRel_steady RS.out hb2)
        replace BX := Lib.hid (BX.out.trans (hb2.mono BX.out.size))
        have Rs := Lib.hid hr2
        clear hr2 hm2 hb2
        as_aux_lemma =>
          go_wp2_with fail
          (with_reducible refine (KT.out _ BX.out).mono ?_)
          rintro e w13 ⟨o3, m3, c3, cc3, rfl, hr3, hm3, hM3, hb3⟩
          replace X0 := Lib.hid ((hb3.block _ (lt_of_block X0.out)).trans X0.out)
          replace RS := Lib.hid (RowsAt.next msgRel_steady RS.out hb3)
          replace Rs := Lib.hid (RowsAt.next msgRel_steady Rs.out hb3)
          replace BX := Lib.hid (BX.out.trans (hb3.mono BX.out.size))
          have RT := Lib.hid hr3
          obtain ⟨aex, nex, cex, aax, nax, cax, p1x, n1x, c1x, p2x, n2x, c2x, p3x, n3x, c3x, p4x, n4x, c4x, sax, snx, scx, rfl, hg3⟩ := hM3
          have MT : Hid (msgRel w13 w13.heap.size (#[.int .i64 tx.k, .int .i64 tx.f, .int .i64 tx.to, .int .i64 tx.g, .int .i64 tx.n, .slice aex nex cex, .slice aax nax cax, .slice p1x n1x c1x, .slice p2x n2x c2x, .slice p3x n3x c3x, .slice p4x n4x c4x, .int .i64 tx.ki, .string tx.mn, .string tx.mv, .slice sax snx scx, .int .i64 tx.er] : Array Value).toList tx) := ⟨aex, nex, cex, aax, nax, cax, p1x, n1x, c1x, p2x, n2x, c2x, p3x, n3x, c3x, p4x, n4x, c4x, sax, snx, scx, rfl, hg3⟩
          clear hr3 hm3 hb3 hg3
          obtain ⟨V3, hV3⟩ : ∃ W, W = w13.alloc (.cells #[.int .i64 tx.k, .int .i64 tx.f, .int .i64 tx.to, .int .i64 tx.g, .int .i64 tx.n, .slice aex nex cex, .slice aax nax cax, .slice p1x n1x c1x, .slice p2x n2x c2x, .slice p3x n3x c3x, .slice p4x n4x c4x, .int .i64 tx.ki, .string tx.mn, .string tx.mv, .slice sax snx scx, .int .i64 tx.er] 34) := ⟨_, rfl⟩
          obtain ⟨q3, hq3⟩ : ∃ x, x = w13.heap.size := ⟨_, rfl⟩
          have al3 : Below w13.heap.size w13 V3 := by rw [hV3]; exact below1
          have XT : Hid (V3.heap[q3]? = some (.cells #[.int .i64 tx.k, .int .i64 tx.f, .int .i64 tx.to, .int .i64 tx.g, .int .i64 tx.n, .slice aex nex cex, .slice aax nax cax, .slice p1x n1x c1x, .slice p2x n2x c2x, .slice p3x n3x c3x, .slice p4x n4x c4x, .int .i64 tx.ki, .string tx.mn, .string tx.mv, .slice sax snx scx, .int .i64 tx.er] 34)) := by show _ = _; rw [hV3, hq3]; exact heap_alloc_new _ _
          replace X0 := Lib.hid ((al3.block _ (lt_of_block X0.out)).trans X0.out)
          replace RS := Lib.hid (RowsAt.next msgRel_steady RS.out al3)
          replace Rs := Lib.hid (RowsAt.next msgRel_steady Rs.out al3)
          replace RT := Lib.hid (RowsAt.next msgRel_steady RT.out al3)
          replace MT := Lib.hid (msgRel_steady _ _ _ _ _ _ MT.out al3 al3.size)
          replace BX := Lib.hid (BX.out.trans (al3.mono BX.out.size))
          have HV3 := Lib.hid hV3
          have HQ3 := Lib.hid hq3
          clear al3 hV3 hq3
          as_aux_lemma =>
            go_wp2_with fail
            rw [← HV3.out, ← HQ3.out]
            clear HV3 HQ3
            (with_reducible refine (Kt.out _ BX.out).mono ?_)
            rintro e w14 ⟨o4, m4, c4, cc4, rfl, hr4, hm4, hM4, hb4⟩
            replace X0 := Lib.hid ((hb4.block _ (lt_of_block X0.out)).trans X0.out)
            replace RS := Lib.hid (RowsAt.next msgRel_steady RS.out hb4)
            replace Rs := Lib.hid (RowsAt.next msgRel_steady Rs.out hb4)
            replace RT := Lib.hid (RowsAt.next msgRel_steady RT.out hb4)
            replace MT := Lib.hid (msgRel_steady _ _ _ _ _ _ MT.out hb4 hb4.size)
            replace XT := Lib.hid ((hb4.block _ (lt_of_block XT.out)).trans XT.out)
            replace BX := Lib.hid (BX.out.trans (hb4.mono BX.out.size))
            have Rt := Lib.hid hr4
            obtain ⟨aey, ney, cey, aay, nay, cay, p1y, n1y, c1y, p2y, n2y, c2y, p3y, n3y, c3y, p4y, n4y, c4y, say, sny, scy, rfl, hg4⟩ := hM4
            have Mt : Hid (msgRel w14 w14.heap.size (#[.int .i64 tx.k, .int .i64 tx.f, .int .i64 tx.to, .int .i64 tx.g, .int .i64 tx.n, .slice aey ney cey, .slice aay nay cay, .slice p1y n1y c1y, .slice p2y n2y c2y, .slice p3y n3y c3y, .slice p4y n4y c4y, .int .i64 tx.ki, .string tx.mn, .string tx.mv, .slice say sny scy, .int .i64 tx.er] : Array Value).toList tx) := ⟨aey, ney, cey, aay, nay, cay, p1y, n1y, c1y, p2y, n2y, c2y, p3y, n3y, c3y, p4y, n4y, c4y, say, sny, scy, rfl, hg4⟩
            clear hr4 hm4 hb4 hg4
            obtain ⟨V4, hV4⟩ : ∃ W, W = w14.alloc (.cells #[.int .i64 tx.k, .int .i64 tx.f, .int .i64 tx.to, .int .i64 tx.g, .int .i64 tx.n, .slice aey ney cey, .slice aay nay cay, .slice p1y n1y c1y, .slice p2y n2y c2y, .slice p3y n3y c3y, .slice p4y n4y c4y, .int .i64 tx.ki, .string tx.mn, .string tx.mv, .slice say sny scy, .int .i64 tx.er] 34) := ⟨_, rfl⟩
            obtain ⟨q4, hq4⟩ : ∃ x, x = w14.heap.size := ⟨_, rfl⟩
            have al4 : Below w14.heap.size w14 V4 := by rw [hV4]; exact below1
            have Xt : Hid (V4.heap[q4]? = some (.cells #[.int .i64 tx.k, .int .i64 tx.f, .int .i64 tx.to, .int .i64 tx.g, .int .i64 tx.n, .slice aey ney cey, .slice aay nay cay, .slice p1y n1y c1y, .slice p2y n2y c2y, .slice p3y n3y c3y, .slice p4y n4y c4y, .int .i64 tx.ki, .string tx.mn, .string tx.mv, .slice say sny scy, .int .i64 tx.er] 34)) := by show _ = _; rw [hV4, hq4]; exact heap_alloc_new _ _
            replace X0 := Lib.hid ((al4.block _ (lt_of_block X0.out)).trans X0.out)
            replace RS := Lib.hid (RowsAt.next msgRel_steady RS.out al4)
            replace Rs := Lib.hid (RowsAt.next msgRel_steady Rs.out al4)
            replace RT := Lib.hid (RowsAt.next msgRel_steady RT.out al4)
            replace MT := Lib.hid (msgRel_steady _ _ _ _ _ _ MT.out al4 al4.size)
            replace XT := Lib.hid ((al4.block _ (lt_of_block XT.out)).trans XT.out)
            replace Rt := Lib.hid (RowsAt.next msgRel_steady Rt.out al4)
            replace Mt := Lib.hid (msgRel_steady _ _ _ _ _ _ Mt.out al4 al4.size)
            replace BX := Lib.hid (BX.out.trans (al4.mono BX.out.size))
            have HV4 := Lib.hid hV4
            have HQ4 := Lib.hid hq4
            clear al4 hV4 hq4
            as_aux_lemma =>
              go_wp2_with fail
              rw [← HV4.out, ← HQ4.out]
              clear HV4 HQ4
              (with_reducible refine (KL.out _ BX.out).mono ?_)
              rintro e w15 ⟨o5, m5, c5, rfl, hr5, hm5, hb5⟩
              replace X0 := Lib.hid ((hb5.block _ (lt_of_block X0.out)).trans X0.out)
              replace RS := Lib.hid (RowsAt.next msgRel_steady RS.out hb5)
              replace Rs := Lib.hid (RowsAt.next msgRel_steady Rs.out hb5)
              replace RT := Lib.hid (RowsAt.next msgRel_steady RT.out hb5)
              replace MT := Lib.hid (msgRel_steady _ _ _ _ _ _ MT.out hb5 hb5.size)
              replace XT := Lib.hid ((hb5.block _ (lt_of_block XT.out)).trans XT.out)
              replace Rt := Lib.hid (RowsAt.next msgRel_steady Rt.out hb5)
              replace Mt := Lib.hid (msgRel_steady _ _ _ _ _ _ Mt.out hb5 hb5.size)
              replace Xt := Lib.hid ((hb5.block _ (lt_of_block Xt.out)).trans Xt.out)
              replace BX := Lib.hid (BX.out.trans (hb5.mono BX.out.size))
              have RL := Lib.hid hr5
              clear hr5 hm5 hb5
              as_aux_lemma =>
                go_wp2_with fail
                (with_reducible refine (Kl.out _ BX.out).mono ?_)
                rintro e w16 ⟨o6, m6, c6, rfl, hr6, hm6, hb6⟩
                replace X0 := Lib.hid ((hb6.block _ (lt_of_block X0.out)).trans X0.out)
                replace RS := Lib.hid (RowsAt.next msgRel_steady RS.out hb6)
                replace Rs := Lib.hid (RowsAt.next msgRel_steady Rs.out hb6)
                replace RT := Lib.hid (RowsAt.next msgRel_steady RT.out hb6)
                replace MT := Lib.hid (msgRel_steady _ _ _ _ _ _ MT.out hb6 hb6.size)
                replace XT := Lib.hid ((hb6.block _ (lt_of_block XT.out)).trans XT.out)
                replace Rt := Lib.hid (RowsAt.next msgRel_steady Rt.out hb6)
                replace Mt := Lib.hid (msgRel_steady _ _ _ _ _ _ Mt.out hb6 hb6.size)
                replace Xt := Lib.hid ((hb6.block _ (lt_of_block Xt.out)).trans Xt.out)
                replace RL := Lib.hid (RowsAt.next msgRel_steady RL.out hb6)
                replace BX := Lib.hid (BX.out.trans (hb6.mono BX.out.size))
                have Rl := Lib.hid hr6
                clear hr6 hm6 hb6
                as_aux_lemma =>
                  go_wp2_with fail
                  (with_reducible refine (KW.out _ BX.out).mono ?_)
                  rintro e w17 ⟨o7, m7, c7, rfl, hr7, hm7, hb7⟩
                  replace X0 := Lib.hid ((hb7.block _ (lt_of_block X0.out)).trans X0.out)
                  replace RS := Lib.hid (RowsAt.next msgRel_steady RS.out hb7)
                  replace Rs := Lib.hid (RowsAt.next msgRel_steady Rs.out hb7)
                  replace RT := Lib.hid (RowsAt.next msgRel_steady RT.out hb7)
                  replace MT := Lib.hid (msgRel_steady _ _ _ _ _ _ MT.out hb7 hb7.size)
                  replace XT := Lib.hid ((hb7.block _ (lt_of_block XT.out)).trans XT.out)
                  replace Rt := Lib.hid (RowsAt.next msgRel_steady Rt.out hb7)
                  replace Mt := Lib.hid (msgRel_steady _ _ _ _ _ _ Mt.out hb7 hb7.size)
                  replace Xt := Lib.hid ((hb7.block _ (lt_of_block Xt.out)).trans Xt.out)
                  replace RL := Lib.hid (RowsAt.next msgRel_steady RL.out hb7)
                  replace Rl := Lib.hid (RowsAt.next msgRel_steady Rl.out hb7)
                  replace BX := Lib.hid (BX.out.trans (hb7.mono BX.out.size))
                  have RW := Lib.hid hr7
                  clear hr7 hm7 hb7
                  as_aux_lemma =>
                    go_wp2_with fail
                    (with_reducible refine (Kw.out _ BX.out).mono ?_)
                    rintro e w18 ⟨o8, m8, c8, rfl, hr8, hm8, hb8⟩
                    replace X0 := Lib.hid ((hb8.block _ (lt_of_block X0.out)).trans X0.out)
                    replace RS := Lib.hid (RowsAt.next msgRel_steady RS.out hb8)
                    replace Rs := Lib.hid (RowsAt.next msgRel_steady Rs.out hb8)
                    replace RT := Lib.hid (RowsAt.next msgRel_steady RT.out hb8)
                    replace MT := Lib.hid (msgRel_steady _ _ _ _ _ _ MT.out hb8 hb8.size)
                    replace XT := Lib.hid ((hb8.block _ (lt_of_block XT.out)).trans XT.out)
                    replace Rt := Lib.hid (RowsAt.next msgRel_steady Rt.out hb8)
                    replace Mt := Lib.hid (msgRel_steady _ _ _ _ _ _ Mt.out hb8 hb8.size)
                    replace Xt := Lib.hid ((hb8.block _ (lt_of_block Xt.out)).trans Xt.out)
                    replace RL := Lib.hid (RowsAt.next msgRel_steady RL.out hb8)
                    replace Rl := Lib.hid (RowsAt.next msgRel_steady Rl.out hb8)
                    replace RW := Lib.hid (RowsAt.next msgRel_steady RW.out hb8)
                    replace BX := Lib.hid (BX.out.trans (hb8.mono BX.out.size))
                    have Rw := Lib.hid hr8
                    clear hr8 hm8 hb8
                    have FRS : Hid (∀ W, Below w18.heap.size w18 W → RowsAt 16 msgRel W W.heap.size (.slice o1 m1 c1) ts) := fun W hW => RowsAt.next msgRel_steady RS.out hW
                    have FRs : Hid (∀ W, Below w18.heap.size w18 W → RowsAt 16 msgRel W W.heap.size (.slice o2 m2 c2) ts) := fun W hW => RowsAt.next msgRel_steady Rs.out hW
                    have FRT : Hid (∀ W, Below w18.heap.size w18 W → RowsAt 16 msgRel W W.heap.size (.slice o3 m3 c3) tl) := fun W hW => RowsAt.next msgRel_steady RT.out hW
                    have FMT : Hid (∀ W, Below w18.heap.size w18 W → msgRel W W.heap.size (#[.int .i64 tx.k, .int .i64 tx.f, .int .i64 tx.to, .int .i64 tx.g, .int .i64 tx.n, .slice aex nex cex, .slice aax nax cax, .slice p1x n1x c1x, .slice p2x n2x c2x, .slice p3x n3x c3x, .slice p4x n4x c4x, .int .i64 tx.ki, .string tx.mn, .string tx.mv, .slice sax snx scx, .int .i64 tx.er] : Array Value).toList tx) := fun W hW => msgRel_steady _ _ _ _ _ _ MT.out hW hW.size
                    have FRt : Hid (∀ W, Below w18.heap.size w18 W → RowsAt 16 msgRel W W.heap.size (.slice o4 m4 c4) tl) := fun W hW => RowsAt.next msgRel_steady Rt.out hW
                    have FMt : Hid (∀ W, Below w18.heap.size w18 W → msgRel W W.heap.size (#[.int .i64 tx.k, .int .i64 tx.f, .int .i64 tx.to, .int .i64 tx.g, .int .i64 tx.n, .slice aey ney cey, .slice aay nay cay, .slice p1y n1y c1y, .slice p2y n2y c2y, .slice p3y n3y c3y, .slice p4y n4y c4y, .int .i64 tx.ki, .string tx.mn, .string tx.mv, .slice say sny scy, .int .i64 tx.er] : Array Value).toList tx) := fun W hW => msgRel_steady _ _ _ _ _ _ Mt.out hW hW.size
                    have FRL : Hid (∀ W, Below w18.heap.size w18 W → RowsAt 16 msgRel W W.heap.size (.slice o5 m5 c5) tl) := fun W hW => RowsAt.next msgRel_steady RL.out hW
                    have FRl : Hid (∀ W, Below w18.heap.size w18 W → RowsAt 16 msgRel W W.heap.size (.slice o6 m6 c6) tl) := fun W hW => RowsAt.next msgRel_steady Rl.out hW
                    have FRW : Hid (∀ W, Below w18.heap.size w18 W → RowsAt 16 msgRel W W.heap.size (.slice o7 m7 c7) tw) := fun W hW => RowsAt.next msgRel_steady RW.out hW
                    have FRw : Hid (∀ W, Below w18.heap.size w18 W → RowsAt 16 msgRel W W.heap.size (.slice o8 m8 c8) tw) := fun W hW => RowsAt.next msgRel_steady Rw.out hW
                    clear RS Rs RT MT Rt Mt RL Rl RW Rw KS Ks KT Kt KL Kl KW Kw
                    as_aux_lemma =>
                      go_wp2
                      as_aux_lemma =>
                        refine wp_flow 64 (fun _ => 1000) (fun ww => RowKit.Below w18.heap.size w18 ww) (fun _ w w' => (fun (w w' : World) => RowKit.Below w.heap.size w w') w w') (fun kF vF wF => match kF with | 0 => (vF = .slice o1 m1 c1) | 1 => (vF = .slice o2 m2 c2) | 2 => (vF = .bool true) | 3 => (vF = .bool true) | 4 => (vF = .int .i64 0) | 5 => (vF = .int .i64 0) | 6 => (vF = .bool true) | 7 => (vF = .bool true) | 8 => (vF = .bool true) | 9 => (vF = .slice o3 m3 c3) | 10 => (vF = .slice o4 m4 c4) | 11 => (vF = .bool true) | 12 => (vF = .bool true) | 13 => (vF = .bool true) | 14 => (vF = .agg #[.int .i64 tx.k, .int .i64 tx.f, .int .i64 tx.to, .int .i64 tx.g, .int .i64 tx.n, .slice aex nex cex, .slice aax nax cax, .slice p1x n1x c1x, .slice p2x n2x c2x, .slice p3x n3x c3x, .slice p4x n4x c4x, .int .i64 tx.ki, .string tx.mn, .string tx.mv, .slice sax snx scx, .int .i64 tx.er]) | 15 => (vF = .agg #[.int .i64 tx.k, .int .i64 tx.f, .int .i64 tx.to, .int .i64 tx.g, .int .i64 tx.n, .slice aey ney cey, .slice aay nay cay, .slice p1y n1y c1y, .slice p2y n2y c2y, .slice p3y n3y c3y, .slice p4y n4y c4y, .int .i64 tx.ki, .string tx.mn, .string tx.mv, .slice say sny scy, .int .i64 tx.er]) | 16 => (vF = .bool true) | 17 => (vF = .bool true) | 18 => (vF = .bool true) | 19 => (vF = .int .i64 tc) | 20 => (vF = .int .i64 tc) | 21 => (vF = .bool true) | 22 => (vF = .bool true) | 23 => (vF = .bool true) | 24 => (vF = .slice o5 m5 c5) | 25 => (vF = .slice o6 m6 c6) | 26 => (vF = .bool true) | 27 => (vF = .bool true) | 28 => (vF = .bool true) | 29 => (vF = .int .i64 tc) | 30 => (vF = .int .i64 tc) | 31 => (vF = .bool true) | 32 => (vF = .bool true) | 33 => (vF = .bool true) | 34 => (vF = .slice o7 m7 c7) | 35 => (vF = .slice o8 m8 c8) | 36 => (vF = .bool true) | 37 => (vF = .bool true) | 38 => (vF = .bool true) | 39 => (vF = .int .i64 tc) | 40 => (vF = .int .i64 tc) | 41 => (vF = .bool true) | 42 => (vF = .bool true) | 43 => (vF = .bool true) | 44 => (vF = .slice ao n cap) | 45 => (vF = .pointer (some ⟨q0, 0, none⟩)) | 46 => (vF = .int .i64 m.k) | 47 => (vF = .int .i64 (co : Int)) | 48 => (vF = .slice ao n cap) | 49 => (vF = .pointer (some ⟨q0, 0, none⟩)) | 50 => (vF = .int .i64 m.k) | 51 => (vF = .int .i64 (co : Int)) | 52 => (vF = .bool true) | 53 => (vF = .bool true) | 54 => (vF = .bool true) | 55 => (vF = .slice ao n cap) | 56 => (vF = .bool bu) | 57 => (vF = .slice ao n cap) | 58 => (vF = .bool bu) | 59 => (vF = .bool true) | 60 => (vF = .bool true) | 61 => (vF = .bool true) | 62 => (vF = .bool true) | 63 => (vF = .bool true) | _ => True) (fun _ _ _ _ => True) (by kernel_rfl) (by kernel_rfl) ?_ ?_ ?_ ?_ ?_
                        · exact (Below.refl _ _).drew
                        · intro iF wF1 wF2 hR hT; exact hR.trans (hT.mono hR.size)
                        · intro kF hkF iF hiF hne hdd hanc hdan vF wF1 wF2 h hT
                          rcases (by omega : kF = 0 ∨ kF = 1 ∨ kF = 2 ∨ kF = 3 ∨ kF = 4 ∨ kF = 5 ∨ kF = 6 ∨ kF = 7 ∨ kF = 8 ∨ kF = 9 ∨ kF = 10 ∨ kF = 11 ∨ kF = 12 ∨ kF = 13 ∨ kF = 14 ∨ kF = 15 ∨ kF = 16 ∨ kF = 17 ∨ kF = 18 ∨ kF = 19 ∨ kF = 20 ∨ kF = 21 ∨ kF = 22 ∨ kF = 23 ∨ kF = 24 ∨ kF = 25 ∨ kF = 26 ∨ kF = 27 ∨ kF = 28 ∨ kF = 29 ∨ kF = 30 ∨ kF = 31 ∨ kF = 32 ∨ kF = 33 ∨ kF = 34 ∨ kF = 35 ∨ kF = 36 ∨ kF = 37 ∨ kF = 38 ∨ kF = 39 ∨ kF = 40 ∨ kF = 41 ∨ kF = 42 ∨ kF = 43 ∨ kF = 44 ∨ kF = 45 ∨ kF = 46 ∨ kF = 47 ∨ kF = 48 ∨ kF = 49 ∨ kF = 50 ∨ kF = 51 ∨ kF = 52 ∨ kF = 53 ∨ kF = 54 ∨ kF = 55 ∨ kF = 56 ∨ kF = 57 ∨ kF = 58 ∨ kF = 59 ∨ kF = 60 ∨ kF = 61 ∨ kF = 62 ∨ kF = 63) with rfl | rfl | rfl | rfl | rfl | rfl | rfl | rfl | rfl | rfl | rfl | rfl | rfl | rfl | rfl | rfl | rfl | rfl | rfl | rfl | rfl | rfl | rfl | rfl | rfl | rfl | rfl | rfl | rfl | rfl | rfl | rfl | rfl | rfl | rfl | rfl | rfl | rfl | rfl | rfl | rfl | rfl | rfl | rfl | rfl | rfl | rfl | rfl | rfl | rfl | rfl | rfl | rfl | rfl | rfl | rfl | rfl | rfl | rfl | rfl | rfl | rfl | rfl | rfl
                          · exact h
                          · exact h
                          · exact h
                          · exact h
                          · exact h
                          · exact h
                          · exact h
                          · exact h
                          · exact h
                          · exact h
                          · exact h
                          · exact h
                          · exact h
                          · exact h
                          · exact h
                          · exact h
                          · exact h
                          · exact h
                          · exact h
                          · exact h
                          · exact h
                          · exact h
                          · exact h
                          · exact h
                          · exact h
                          · exact h
                          · exact h
                          · exact h
                          · exact h
                          · exact h
                          · exact h
                          · exact h
                          · exact h
                          · exact h
                          · exact h
                          · exact h
                          · exact h
                          · exact h
                          · exact h
                          · exact h
                          · exact h
                          · exact h
                          · exact h
                          · exact h
                          · exact h
                          · exact h
                          · exact h
                          · exact h
                          · exact h
                          · exact h
                          · exact h
                          · exact h
                          · exact h
                          · exact h
                          · exact h
                          · exact h
                          · exact h
                          · exact h
                          · exact h
                          · exact h
                          · exact h
                          · exact h
                          · exact h
                          · exact h
                        · generalize hAF : fillOf _ _ _ = AF
                          replace hAF := fun x => congrFun hAF x
                          simp only [List.cons_append, List.nil_append, List.append_eq, List.take_succ_cons, List.take_zero, fillOf, Act.put, List.setIfInBounds_toArray, List.set_cons_zero, List.set_cons_succ, Nat.reduceAdd, Nat.zero_add] at hAF
                          refine FlowAll.cons ?_ ?_
                          · intro xF ww hR hd K hK
                            clear hd
                            simp only [← hAF, Act.put, List.setIfInBounds_toArray, List.set_cons_zero, List.set_cons_succ] at hK ⊢
                            clear hAF
                            try simp only [Nat.zero_add] at hK ⊢
                            try simp only [Nat.reduceAdd] at hK ⊢
                            obtain hbR := id hR
                            rw [if_pos (by rfl)]
                            go_simp
                            exact hK.out _ _ (Below.refl _ _) (rfl) (fun _ _ _ => ⟨trivial, trivial⟩)
                          refine FlowAll.cons ?_ ?_
                          · intro xF ww hR hd K hK
                            clear hd
                            simp only [← hAF, Act.put, List.setIfInBounds_toArray, List.set_cons_zero, List.set_cons_succ] at hK ⊢
                            clear hAF
                            try simp only [Nat.zero_add] at hK ⊢
                            try simp only [Nat.reduceAdd] at hK ⊢
                            obtain hbR := id hR
                            rw [if_pos (by rfl)]
                            go_simp
                            exact hK.out _ _ (Below.refl _ _) (rfl) (fun _ _ _ => ⟨trivial, trivial⟩)
                          refine FlowAll.cons ?_ ?_
                          · intro xF ww hR hd K hK
                            have dd0 : ((xF 0) = .slice o1 m1 c1) := hd 0 (by kernel_rfl)
                            have dd1 : ((xF 1) = .slice o2 m2 c2) := hd 1 (by kernel_rfl)
                            clear hd
                            simp only [← hAF, Act.put, List.setIfInBounds_toArray, List.set_cons_zero, List.set_cons_succ] at hK ⊢
                            clear hAF
                            try simp only [Nat.zero_add] at hK ⊢
                            try simp only [Nat.reduceAdd] at hK ⊢
                            try generalize xF 0 = yy0 at *
                            try generalize xF 1 = yy1 at *
                            obtain rfl := dd0
                            obtain rfl := dd1
                            obtain hbR := id hR
                            rw [if_pos (by rfl)]
                            go_simp
                            (go_at_call 17; (with_reducible refine (lists_eq ts _ _ _ (FRS.out _ hbR) (FRs.out _ hbR)).mono ?_); rintro e wK ⟨rfl, hbK⟩)
                            try go_wp2_with fail
                            exact hK.out _ _ (hbK) (rfl) (fun _ _ _ => ⟨trivial, trivial⟩)
                          refine FlowAll.cons ?_ ?_
                          · intro xF ww hR hd K hK
                            have dd2 : ((xF 2) = .bool true) := hd 2 (by kernel_rfl)
                            clear hd
                            simp only [← hAF, Act.put, List.setIfInBounds_toArray, List.set_cons_zero, List.set_cons_succ] at hK ⊢
                            clear hAF
                            try simp only [Nat.zero_add] at hK ⊢
                            try simp only [Nat.reduceAdd] at hK ⊢
                            try generalize xF 2 = yy2 at *
                            obtain rfl := dd2
                            obtain hbR := id hR
                            rw [if_pos (by rfl)]
                            go_simp
                            exact hK.out _ _ (Below.refl _ _) (rfl) (fun _ _ _ => ⟨trivial, trivial⟩)
                          refine FlowAll.cons ?_ ?_
                          · intro xF ww hR hd K hK
                            have dd3 : ((xF 3) = .bool true) := hd 3 (by kernel_rfl)
                            clear hd
                            simp only [← hAF, Act.put, List.setIfInBounds_toArray, List.set_cons_zero, List.set_cons_succ] at hK ⊢
                            clear hAF
                            try simp only [Nat.zero_add] at hK ⊢
                            try simp only [Nat.reduceAdd] at hK ⊢
                            try generalize xF 3 = yy3 at *
                            obtain rfl := dd3
                            obtain hbR := id hR
                            rw [if_pos (by rfl)]
                            go_simp
                            exact hK.out _ _ (Below.refl _ _) (rfl) (fun _ _ _ => ⟨trivial, trivial⟩)
                          refine FlowAll.cons ?_ ?_
                          · intro xF ww hR hd K hK
                            have dd3 : ((xF 3) = .bool true) := hd 3 (by kernel_rfl)
                            clear hd
                            simp only [← hAF, Act.put, List.setIfInBounds_toArray, List.set_cons_zero, List.set_cons_succ] at hK ⊢
                            clear hAF
                            try simp only [Nat.zero_add] at hK ⊢
                            try simp only [Nat.reduceAdd] at hK ⊢
                            try generalize xF 3 = yy3 at *
                            obtain rfl := dd3
                            obtain hbR := id hR
                            rw [if_pos (by rfl)]
                            go_simp
                            exact hK.out _ _ (Below.refl _ _) (rfl) (fun _ _ _ => ⟨trivial, trivial⟩)
                          refine FlowAll.cons ?_ ?_
                          · intro xF ww hR hd K hK
                            have dd3 : ((xF 3) = .bool true) := hd 3 (by kernel_rfl)
                            have dd4 : ((xF 4) = .int .i64 0) := hd 4 (by kernel_rfl)
                            have dd5 : ((xF 5) = .int .i64 0) := hd 5 (by kernel_rfl)
                            clear hd
                            simp only [← hAF, Act.put, List.setIfInBounds_toArray, List.set_cons_zero, List.set_cons_succ] at hK ⊢
                            clear hAF
                            try simp only [Nat.zero_add] at hK ⊢
                            try simp only [Nat.reduceAdd] at hK ⊢
                            try generalize xF 3 = yy3 at *
                            try generalize xF 4 = yy4 at *
                            try generalize xF 5 = yy5 at *
                            obtain rfl := dd3
                            obtain rfl := dd4
                            obtain rfl := dd5
                            obtain hbR := id hR
                            rw [if_pos (by rfl)]
                            go_simp
                            exact hK.out _ _ (Below.refl _ _) (rfl) (fun _ _ _ => ⟨trivial, trivial⟩)
                          refine FlowAll.cons ?_ ?_
                          · intro xF ww hR hd K hK
                            have dd3 : ((xF 3) = .bool true) := hd 3 (by kernel_rfl)
                            have dd6 : ((xF 6) = .bool true) := hd 6 (by kernel_rfl)
                            clear hd
                            simp only [← hAF, Act.put, List.setIfInBounds_toArray, List.set_cons_zero, List.set_cons_succ] at hK ⊢
                            clear hAF
                            try simp only [Nat.zero_add] at hK ⊢
                            try simp only [Nat.reduceAdd] at hK ⊢
                            try generalize xF 3 = yy3 at *
                            try generalize xF 6 = yy6 at *
                            obtain rfl := dd3
                            obtain rfl := dd6
                            obtain hbR := id hR
                            rw [if_pos (by rfl)]
                            go_simp
                            exact hK.out _ _ (Below.refl _ _) (rfl) (fun _ _ _ => ⟨trivial, trivial⟩)
                          refine FlowAll.cons ?_ ?_
                          · intro xF ww hR hd K hK
                            have dd7 : ((xF 7) = .bool true) := hd 7 (by kernel_rfl)
                            clear hd
                            simp only [← hAF, Act.put, List.setIfInBounds_toArray, List.set_cons_zero, List.set_cons_succ] at hK ⊢
                            clear hAF
                            try simp only [Nat.zero_add] at hK ⊢
                            try simp only [Nat.reduceAdd] at hK ⊢
                            try generalize xF 7 = yy7 at *
                            obtain rfl := dd7
                            obtain hbR := id hR
                            rw [if_pos (by rfl)]
                            go_simp
                            exact hK.out _ _ (Below.refl _ _) (rfl) (fun _ _ _ => ⟨trivial, trivial⟩)
                          refine FlowAll.cons ?_ ?_
                          · intro xF ww hR hd K hK
                            have dd8 : ((xF 8) = .bool true) := hd 8 (by kernel_rfl)
                            clear hd
                            simp only [← hAF, Act.put, List.setIfInBounds_toArray, List.set_cons_zero, List.set_cons_succ] at hK ⊢
                            clear hAF
                            try simp only [Nat.zero_add] at hK ⊢
                            try simp only [Nat.reduceAdd] at hK ⊢
                            try generalize xF 8 = yy8 at *
                            obtain rfl := dd8
                            obtain hbR := id hR
                            rw [if_pos (by rfl)]
                            go_simp
                            exact hK.out _ _ (Below.refl _ _) (rfl) (fun _ _ _ => ⟨trivial, trivial⟩)
                          refine FlowAll.cons ?_ ?_
                          · intro xF ww hR hd K hK
                            have dd8 : ((xF 8) = .bool true) := hd 8 (by kernel_rfl)
                            clear hd
                            simp only [← hAF, Act.put, List.setIfInBounds_toArray, List.set_cons_zero, List.set_cons_succ] at hK ⊢
                            clear hAF
                            try simp only [Nat.zero_add] at hK ⊢
                            try simp only [Nat.reduceAdd] at hK ⊢
                            try generalize xF 8 = yy8 at *
                            obtain rfl := dd8
                            obtain hbR := id hR
                            rw [if_pos (by rfl)]
                            go_simp
                            exact hK.out _ _ (Below.refl _ _) (rfl) (fun _ _ _ => ⟨trivial, trivial⟩)
                          refine FlowAll.cons ?_ ?_
                          · intro xF ww hR hd K hK
                            have dd8 : ((xF 8) = .bool true) := hd 8 (by kernel_rfl)
                            have dd9 : ((xF 9) = .slice o3 m3 c3) := hd 9 (by kernel_rfl)
                            have dd10 : ((xF 10) = .slice o4 m4 c4) := hd 10 (by kernel_rfl)
                            clear hd
                            simp only [← hAF, Act.put, List.setIfInBounds_toArray, List.set_cons_zero, List.set_cons_succ] at hK ⊢
                            clear hAF
                            try simp only [Nat.zero_add] at hK ⊢
                            try simp only [Nat.reduceAdd] at hK ⊢
                            try generalize xF 8 = yy8 at *
                            try generalize xF 9 = yy9 at *
                            try generalize xF 10 = yy10 at *
                            obtain rfl := dd8
                            obtain rfl := dd9
                            obtain rfl := dd10
                            obtain hbR := id hR
                            rw [if_pos (by rfl)]
                            go_simp
                            (go_at_call 17; (with_reducible refine (lists_eq tl _ _ _ (FRT.out _ hbR) (FRt.out _ hbR)).mono ?_); rintro e wK ⟨rfl, hbK⟩)
                            try go_wp2_with fail
                            exact hK.out _ _ (hbK) (rfl) (fun _ _ _ => ⟨trivial, trivial⟩)
                          refine FlowAll.cons ?_ ?_
                          · intro xF ww hR hd K hK
                            have dd8 : ((xF 8) = .bool true) := hd 8 (by kernel_rfl)
                            have dd11 : ((xF 11) = .bool true) := hd 11 (by kernel_rfl)
                            clear hd
                            simp only [← hAF, Act.put, List.setIfInBounds_toArray, List.set_cons_zero, List.set_cons_succ] at hK ⊢
                            clear hAF
                            try simp only [Nat.zero_add] at hK ⊢
                            try simp only [Nat.reduceAdd] at hK ⊢
                            try generalize xF 8 = yy8 at *
                            try generalize xF 11 = yy11 at *
                            obtain rfl := dd8
                            obtain rfl := dd11
                            obtain hbR := id hR
                            rw [if_pos (by rfl)]
                            go_simp
                            exact hK.out _ _ (Below.refl _ _) (rfl) (fun _ _ _ => ⟨trivial, trivial⟩)
                          refine FlowAll.cons ?_ ?_
                          · intro xF ww hR hd K hK
                            have dd12 : ((xF 12) = .bool true) := hd 12 (by kernel_rfl)
                            clear hd
                            simp only [← hAF, Act.put, List.setIfInBounds_toArray, List.set_cons_zero, List.set_cons_succ] at hK ⊢
                            clear hAF
                            try simp only [Nat.zero_add] at hK ⊢
                            try simp only [Nat.reduceAdd] at hK ⊢
                            try generalize xF 12 = yy12 at *
                            obtain rfl := dd12
                            obtain hbR := id hR
                            rw [if_pos (by rfl)]
                            go_simp
                            exact hK.out _ _ (Below.refl _ _) (rfl) (fun _ _ _ => ⟨trivial, trivial⟩)
                          refine FlowAll.cons ?_ ?_
                          · intro xF ww hR hd K hK
                            have dd13 : ((xF 13) = .bool true) := hd 13 (by kernel_rfl)
                            clear hd
                            simp only [← hAF, Act.put, List.setIfInBounds_toArray, List.set_cons_zero, List.set_cons_succ] at hK ⊢
                            clear hAF
                            try simp only [Nat.zero_add] at hK ⊢
                            try simp only [Nat.reduceAdd] at hK ⊢
                            try generalize xF 13 = yy13 at *
                            obtain rfl := dd13
                            obtain hbR := id hR
                            have hxa := (hbR.block _ (lt_of_block XT.out)).trans XT.out
                            have qc0 := boxc hxa 0 _ rfl
                            have qc1 := boxc hxa 1 _ rfl
                            have qc2 := boxc hxa 2 _ rfl
                            have qc3 := boxc hxa 3 _ rfl
                            have qc4 := boxc hxa 4 _ rfl
                            have qc5 := boxc hxa 5 _ rfl
                            have qc6 := boxc hxa 6 _ rfl
                            have qc7 := boxc hxa 7 _ rfl
                            have qc8 := boxc hxa 8 _ rfl
                            have qc9 := boxc hxa 9 _ rfl
                            have qc10 := boxc hxa 10 _ rfl
                            have qc11 := boxc hxa 11 _ rfl
                            have qc12 := boxc hxa 12 _ rfl
                            have qc13 := boxc hxa 13 _ rfl
                            have qc14 := boxc hxa 14 _ rfl
                            have qc15 := boxc hxa 15 _ rfl
                            clear hxa
                            rw [if_pos (by rfl)]
                            go_simp
                            exact hK.out _ _ (Below.refl _ _) (rfl) (fun _ _ _ => ⟨trivial, trivial⟩)
                          refine FlowAll.cons ?_ ?_
                          · intro xF ww hR hd K hK
                            have dd13 : ((xF 13) = .bool true) := hd 13 (by kernel_rfl)
                            clear hd
                            simp only [← hAF, Act.put, List.setIfInBounds_toArray, List.set_cons_zero, List.set_cons_succ] at hK ⊢
                            clear hAF
                            try simp only [Nat.zero_add] at hK ⊢
                            try simp only [Nat.reduceAdd] at hK ⊢
                            try generalize xF 13 = yy13 at *
                            obtain rfl := dd13
                            obtain hbR := id hR
                            have hxa := (hbR.block _ (lt_of_block Xt.out)).trans Xt.out
                            have qc0 := boxc hxa 0 _ rfl
                            have qc1 := boxc hxa 1 _ rfl
                            have qc2 := boxc hxa 2 _ rfl
                            have qc3 := boxc hxa 3 _ rfl
                            have qc4 := boxc hxa 4 _ rfl
                            have qc5 := boxc hxa 5 _ rfl
                            have qc6 := boxc hxa 6 _ rfl
                            have qc7 := boxc hxa 7 _ rfl
                            have qc8 := boxc hxa 8 _ rfl
                            have qc9 := boxc hxa 9 _ rfl
                            have qc10 := boxc hxa 10 _ rfl
                            have qc11 := boxc hxa 11 _ rfl
                            have qc12 := boxc hxa 12 _ rfl
                            have qc13 := boxc hxa 13 _ rfl
                            have qc14 := boxc hxa 14 _ rfl
                            have qc15 := boxc hxa 15 _ rfl
                            clear hxa
                            rw [if_pos (by rfl)]
                            go_simp
                            exact hK.out _ _ (Below.refl _ _) (rfl) (fun _ _ _ => ⟨trivial, trivial⟩)
                          refine FlowAll.cons ?_ ?_
                          · intro xF ww hR hd K hK
                            have dd13 : ((xF 13) = .bool true) := hd 13 (by kernel_rfl)
                            have dd14 : ((xF 14) = .agg #[.int .i64 tx.k, .int .i64 tx.f, .int .i64 tx.to, .int .i64 tx.g, .int .i64 tx.n, .slice aex nex cex, .slice aax nax cax, .slice p1x n1x c1x, .slice p2x n2x c2x, .slice p3x n3x c3x, .slice p4x n4x c4x, .int .i64 tx.ki, .string tx.mn, .string tx.mv, .slice sax snx scx, .int .i64 tx.er]) := hd 14 (by kernel_rfl)
                            have dd15 : ((xF 15) = .agg #[.int .i64 tx.k, .int .i64 tx.f, .int .i64 tx.to, .int .i64 tx.g, .int .i64 tx.n, .slice aey ney cey, .slice aay nay cay, .slice p1y n1y c1y, .slice p2y n2y c2y, .slice p3y n3y c3y, .slice p4y n4y c4y, .int .i64 tx.ki, .string tx.mn, .string tx.mv, .slice say sny scy, .int .i64 tx.er]) := hd 15 (by kernel_rfl)
                            clear hd
                            simp only [← hAF, Act.put, List.setIfInBounds_toArray, List.set_cons_zero, List.set_cons_succ] at hK ⊢
                            clear hAF
                            try simp only [Nat.zero_add] at hK ⊢
                            try simp only [Nat.reduceAdd] at hK ⊢
                            try generalize xF 13 = yy13 at *
                            try generalize xF 14 = yy14 at *
                            try generalize xF 15 = yy15 at *
                            obtain rfl := dd13
                            obtain rfl := dd14
                            obtain rfl := dd15
                            obtain hbR := id hR
                            rw [if_pos (by rfl)]
                            go_simp
                            (go_at_call 18; (with_reducible refine (same_eq tx _ _ _ (FMT.out _ hbR) (FMt.out _ hbR)).mono ?_); rintro e wK ⟨rfl, hbK⟩)
                            try go_wp2_with fail
                            exact hK.out _ _ (hbK) (rfl) (fun _ _ _ => ⟨trivial, trivial⟩)
                          refine FlowAll.cons ?_ ?_
                          · intro xF ww hR hd K hK
                            have dd13 : ((xF 13) = .bool true) := hd 13 (by kernel_rfl)
                            have dd16 : ((xF 16) = .bool true) := hd 16 (by kernel_rfl)
                            clear hd
                            simp only [← hAF, Act.put, List.setIfInBounds_toArray, List.set_cons_zero, List.set_cons_succ] at hK ⊢
                            clear hAF
                            try simp only [Nat.zero_add] at hK ⊢
                            try simp only [Nat.reduceAdd] at hK ⊢
                            try generalize xF 13 = yy13 at *
                            try generalize xF 16 = yy16 at *
                            obtain rfl := dd13
                            obtain rfl := dd16
                            obtain hbR := id hR
                            rw [if_pos (by rfl)]
                            go_simp
                            exact hK.out _ _ (Below.refl _ _) (rfl) (fun _ _ _ => ⟨trivial, trivial⟩)
                          refine FlowAll.cons ?_ ?_
                          · intro xF ww hR hd K hK
                            have dd17 : ((xF 17) = .bool true) := hd 17 (by kernel_rfl)
                            clear hd
                            simp only [← hAF, Act.put, List.setIfInBounds_toArray, List.set_cons_zero, List.set_cons_succ] at hK ⊢
                            clear hAF
                            try simp only [Nat.zero_add] at hK ⊢
                            try simp only [Nat.reduceAdd] at hK ⊢
                            try generalize xF 17 = yy17 at *
                            obtain rfl := dd17
                            obtain hbR := id hR
                            rw [if_pos (by rfl)]
                            go_simp
                            exact hK.out _ _ (Below.refl _ _) (rfl) (fun _ _ _ => ⟨trivial, trivial⟩)
                          refine FlowAll.cons ?_ ?_
                          · intro xF ww hR hd K hK
                            have dd18 : ((xF 18) = .bool true) := hd 18 (by kernel_rfl)
                            clear hd
                            simp only [← hAF, Act.put, List.setIfInBounds_toArray, List.set_cons_zero, List.set_cons_succ] at hK ⊢
                            clear hAF
                            try simp only [Nat.zero_add] at hK ⊢
                            try simp only [Nat.reduceAdd] at hK ⊢
                            try generalize xF 18 = yy18 at *
                            obtain rfl := dd18
                            obtain hbR := id hR
                            rw [if_pos (by rfl)]
                            go_simp
                            exact hK.out _ _ (Below.refl _ _) (rfl) (fun _ _ _ => ⟨trivial, trivial⟩)
                          refine FlowAll.cons ?_ ?_
                          · intro xF ww hR hd K hK
                            have dd18 : ((xF 18) = .bool true) := hd 18 (by kernel_rfl)
                            clear hd
                            simp only [← hAF, Act.put, List.setIfInBounds_toArray, List.set_cons_zero, List.set_cons_succ] at hK ⊢
                            clear hAF
                            try simp only [Nat.zero_add] at hK ⊢
                            try simp only [Nat.reduceAdd] at hK ⊢
                            try generalize xF 18 = yy18 at *
                            obtain rfl := dd18
                            obtain hbR := id hR
                            rw [if_pos (by rfl)]
                            go_simp
                            exact hK.out _ _ (Below.refl _ _) (rfl) (fun _ _ _ => ⟨trivial, trivial⟩)
                          refine FlowAll.cons ?_ ?_
                          · intro xF ww hR hd K hK
                            have dd18 : ((xF 18) = .bool true) := hd 18 (by kernel_rfl)
                            have dd19 : ((xF 19) = .int .i64 tc) := hd 19 (by kernel_rfl)
                            have dd20 : ((xF 20) = .int .i64 tc) := hd 20 (by kernel_rfl)
                            clear hd
                            simp only [← hAF, Act.put, List.setIfInBounds_toArray, List.set_cons_zero, List.set_cons_succ] at hK ⊢
                            clear hAF
                            try simp only [Nat.zero_add] at hK ⊢
                            try simp only [Nat.reduceAdd] at hK ⊢
                            try generalize xF 18 = yy18 at *
                            try generalize xF 19 = yy19 at *
                            try generalize xF 20 = yy20 at *
                            obtain rfl := dd18
                            obtain rfl := dd19
                            obtain rfl := dd20
                            obtain hbR := id hR
                            rw [if_pos (by rfl)]
                            go_simp
                            exact hK.out _ _ (Below.refl _ _) (rfl) (fun _ _ _ => ⟨trivial, trivial⟩)
                          refine FlowAll.cons ?_ ?_
                          · intro xF ww hR hd K hK
                            have dd18 : ((xF 18) = .bool true) := hd 18 (by kernel_rfl)
                            have dd21 : ((xF 21) = .bool true) := hd 21 (by kernel_rfl)
                            clear hd
                            simp only [← hAF, Act.put, List.setIfInBounds_toArray, List.set_cons_zero, List.set_cons_succ] at hK ⊢
                            clear hAF
                            try simp only [Nat.zero_add] at hK ⊢
                            try simp only [Nat.reduceAdd] at hK ⊢
                            try generalize xF 18 = yy18 at *
                            try generalize xF 21 = yy21 at *
                            obtain rfl := dd18
                            obtain rfl := dd21
                            obtain hbR := id hR
                            rw [if_pos (by rfl)]
                            go_simp
                            exact hK.out _ _ (Below.refl _ _) (rfl) (fun _ _ _ => ⟨trivial, trivial⟩)
                          refine FlowAll.cons ?_ ?_
                          · intro xF ww hR hd K hK
                            have dd22 : ((xF 22) = .bool true) := hd 22 (by kernel_rfl)
                            clear hd
                            simp only [← hAF, Act.put, List.setIfInBounds_toArray, List.set_cons_zero, List.set_cons_succ] at hK ⊢
                            clear hAF
                            try simp only [Nat.zero_add] at hK ⊢
                            try simp only [Nat.reduceAdd] at hK ⊢
                            try generalize xF 22 = yy22 at *
                            obtain rfl := dd22
                            obtain hbR := id hR
                            rw [if_pos (by rfl)]
                            go_simp
                            exact hK.out _ _ (Below.refl _ _) (rfl) (fun _ _ _ => ⟨trivial, trivial⟩)
                          refine FlowAll.cons ?_ ?_
                          · intro xF ww hR hd K hK
                            have dd23 : ((xF 23) = .bool true) := hd 23 (by kernel_rfl)
                            clear hd
                            simp only [← hAF, Act.put, List.setIfInBounds_toArray, List.set_cons_zero, List.set_cons_succ] at hK ⊢
                            clear hAF
                            try simp only [Nat.zero_add] at hK ⊢
                            try simp only [Nat.reduceAdd] at hK ⊢
                            try generalize xF 23 = yy23 at *
                            obtain rfl := dd23
                            obtain hbR := id hR
                            rw [if_pos (by rfl)]
                            go_simp
                            exact hK.out _ _ (Below.refl _ _) (rfl) (fun _ _ _ => ⟨trivial, trivial⟩)
                          refine FlowAll.cons ?_ ?_
                          · intro xF ww hR hd K hK
                            have dd23 : ((xF 23) = .bool true) := hd 23 (by kernel_rfl)
                            clear hd
                            simp only [← hAF, Act.put, List.setIfInBounds_toArray, List.set_cons_zero, List.set_cons_succ] at hK ⊢
                            clear hAF
                            try simp only [Nat.zero_add] at hK ⊢
                            try simp only [Nat.reduceAdd] at hK ⊢
                            try generalize xF 23 = yy23 at *
                            obtain rfl := dd23
                            obtain hbR := id hR
                            rw [if_pos (by rfl)]
                            go_simp
                            exact hK.out _ _ (Below.refl _ _) (rfl) (fun _ _ _ => ⟨trivial, trivial⟩)
                          refine FlowAll.cons ?_ ?_
                          · intro xF ww hR hd K hK
                            have dd23 : ((xF 23) = .bool true) := hd 23 (by kernel_rfl)
                            have dd24 : ((xF 24) = .slice o5 m5 c5) := hd 24 (by kernel_rfl)
                            have dd25 : ((xF 25) = .slice o6 m6 c6) := hd 25 (by kernel_rfl)
                            clear hd
                            simp only [← hAF, Act.put, List.setIfInBounds_toArray, List.set_cons_zero, List.set_cons_succ] at hK ⊢
                            clear hAF
                            try simp only [Nat.zero_add] at hK ⊢
                            try simp only [Nat.reduceAdd] at hK ⊢
                            try generalize xF 23 = yy23 at *
                            try generalize xF 24 = yy24 at *
                            try generalize xF 25 = yy25 at *
                            obtain rfl := dd23
                            obtain rfl := dd24
                            obtain rfl := dd25
                            obtain hbR := id hR
                            rw [if_pos (by rfl)]
                            go_simp
                            (go_at_call 17; (with_reducible refine (lists_eq tl _ _ _ (FRL.out _ hbR) (FRl.out _ hbR)).mono ?_); rintro e wK ⟨rfl, hbK⟩)
                            try go_wp2_with fail
                            exact hK.out _ _ (hbK) (rfl) (fun _ _ _ => ⟨trivial, trivial⟩)
                          refine FlowAll.cons ?_ ?_
                          · intro xF ww hR hd K hK
                            have dd23 : ((xF 23) = .bool true) := hd 23 (by kernel_rfl)
                            have dd26 : ((xF 26) = .bool true) := hd 26 (by kernel_rfl)
                            clear hd
                            simp only [← hAF, Act.put, List.setIfInBounds_toArray, List.set_cons_zero, List.set_cons_succ] at hK ⊢
                            clear hAF
                            try simp only [Nat.zero_add] at hK ⊢
                            try simp only [Nat.reduceAdd] at hK ⊢
                            try generalize xF 23 = yy23 at *
                            try generalize xF 26 = yy26 at *
                            obtain rfl := dd23
                            obtain rfl := dd26
                            obtain hbR := id hR
                            rw [if_pos (by rfl)]
                            go_simp
                            exact hK.out _ _ (Below.refl _ _) (rfl) (fun _ _ _ => ⟨trivial, trivial⟩)
                          refine FlowAll.cons ?_ ?_
                          · intro xF ww hR hd K hK
                            have dd27 : ((xF 27) = .bool true) := hd 27 (by kernel_rfl)
                            clear hd
                            simp only [← hAF, Act.put, List.setIfInBounds_toArray, List.set_cons_zero, List.set_cons_succ] at hK ⊢
                            clear hAF
                            try simp only [Nat.zero_add] at hK ⊢
                            try simp only [Nat.reduceAdd] at hK ⊢
                            try generalize xF 27 = yy27 at *
                            obtain rfl := dd27
                            obtain hbR := id hR
                            rw [if_pos (by rfl)]
                            go_simp
                            exact hK.out _ _ (Below.refl _ _) (rfl) (fun _ _ _ => ⟨trivial, trivial⟩)
                          refine FlowAll.cons ?_ ?_
                          · intro xF ww hR hd K hK
                            have dd28 : ((xF 28) = .bool true) := hd 28 (by kernel_rfl)
                            clear hd
                            simp only [← hAF, Act.put, List.setIfInBounds_toArray, List.set_cons_zero, List.set_cons_succ] at hK ⊢
                            clear hAF
                            try simp only [Nat.zero_add] at hK ⊢
                            try simp only [Nat.reduceAdd] at hK ⊢
                            try generalize xF 28 = yy28 at *
                            obtain rfl := dd28
                            obtain hbR := id hR
                            rw [if_pos (by rfl)]
                            go_simp
                            exact hK.out _ _ (Below.refl _ _) (rfl) (fun _ _ _ => ⟨trivial, trivial⟩)
                          refine FlowAll.cons ?_ ?_
                          · intro xF ww hR hd K hK
                            have dd28 : ((xF 28) = .bool true) := hd 28 (by kernel_rfl)
                            clear hd
                            simp only [← hAF, Act.put, List.setIfInBounds_toArray, List.set_cons_zero, List.set_cons_succ] at hK ⊢
                            clear hAF
                            try simp only [Nat.zero_add] at hK ⊢
                            try simp only [Nat.reduceAdd] at hK ⊢
                            try generalize xF 28 = yy28 at *
                            obtain rfl := dd28
                            obtain hbR := id hR
                            rw [if_pos (by rfl)]
                            go_simp
                            exact hK.out _ _ (Below.refl _ _) (rfl) (fun _ _ _ => ⟨trivial, trivial⟩)
                          refine FlowAll.cons ?_ ?_
                          · intro xF ww hR hd K hK
                            have dd28 : ((xF 28) = .bool true) := hd 28 (by kernel_rfl)
                            have dd29 : ((xF 29) = .int .i64 tc) := hd 29 (by kernel_rfl)
                            have dd30 : ((xF 30) = .int .i64 tc) := hd 30 (by kernel_rfl)
                            clear hd
                            simp only [← hAF, Act.put, List.setIfInBounds_toArray, List.set_cons_zero, List.set_cons_succ] at hK ⊢
                            clear hAF
                            try simp only [Nat.zero_add] at hK ⊢
                            try simp only [Nat.reduceAdd] at hK ⊢
                            try generalize xF 28 = yy28 at *
                            try generalize xF 29 = yy29 at *
                            try generalize xF 30 = yy30 at *
                            obtain rfl := dd28
                            obtain rfl := dd29
                            obtain rfl := dd30
                            obtain hbR := id hR
                            rw [if_pos (by rfl)]
                            go_simp
                            exact hK.out _ _ (Below.refl _ _) (rfl) (fun _ _ _ => ⟨trivial, trivial⟩)
                          refine FlowAll.cons ?_ ?_
                          · intro xF ww hR hd K hK
                            have dd28 : ((xF 28) = .bool true) := hd 28 (by kernel_rfl)
                            have dd31 : ((xF 31) = .bool true) := hd 31 (by kernel_rfl)
                            clear hd
                            simp only [← hAF, Act.put, List.setIfInBounds_toArray, List.set_cons_zero, List.set_cons_succ] at hK ⊢
                            clear hAF
                            try simp only [Nat.zero_add] at hK ⊢
                            try simp only [Nat.reduceAdd] at hK ⊢
                            try generalize xF 28 = yy28 at *
                            try generalize xF 31 = yy31 at *
                            obtain rfl := dd28
                            obtain rfl := dd31
                            obtain hbR := id hR
                            rw [if_pos (by rfl)]
                            go_simp
                            exact hK.out _ _ (Below.refl _ _) (rfl) (fun _ _ _ => ⟨trivial, trivial⟩)
                          refine FlowAll.cons ?_ ?_
                          · intro xF ww hR hd K hK
                            have dd32 : ((xF 32) = .bool true) := hd 32 (by kernel_rfl)
                            clear hd
                            simp only [← hAF, Act.put, List.setIfInBounds_toArray, List.set_cons_zero, List.set_cons_succ] at hK ⊢
                            clear hAF
                            try simp only [Nat.zero_add] at hK ⊢
                            try simp only [Nat.reduceAdd] at hK ⊢
                            try generalize xF 32 = yy32 at *
                            obtain rfl := dd32
                            obtain hbR := id hR
                            rw [if_pos (by rfl)]
                            go_simp
                            exact hK.out _ _ (Below.refl _ _) (rfl) (fun _ _ _ => ⟨trivial, trivial⟩)
                          refine FlowAll.cons ?_ ?_
                          · intro xF ww hR hd K hK
                            have dd33 : ((xF 33) = .bool true) := hd 33 (by kernel_rfl)
                            clear hd
                            simp only [← hAF, Act.put, List.setIfInBounds_toArray, List.set_cons_zero, List.set_cons_succ] at hK ⊢
                            clear hAF
                            try simp only [Nat.zero_add] at hK ⊢
                            try simp only [Nat.reduceAdd] at hK ⊢
                            try generalize xF 33 = yy33 at *
                            obtain rfl := dd33
                            obtain hbR := id hR
                            rw [if_pos (by rfl)]
                            go_simp
                            exact hK.out _ _ (Below.refl _ _) (rfl) (fun _ _ _ => ⟨trivial, trivial⟩)
                          refine FlowAll.cons ?_ ?_
                          · intro xF ww hR hd K hK
                            have dd33 : ((xF 33) = .bool true) := hd 33 (by kernel_rfl)
                            clear hd
                            simp only [← hAF, Act.put, List.setIfInBounds_toArray, List.set_cons_zero, List.set_cons_succ] at hK ⊢
                            clear hAF
                            try simp only [Nat.zero_add] at hK ⊢
                            try simp only [Nat.reduceAdd] at hK ⊢
                            try generalize xF 33 = yy33 at *
                            obtain rfl := dd33
                            obtain hbR := id hR
                            rw [if_pos (by rfl)]
                            go_simp
                            exact hK.out _ _ (Below.refl _ _) (rfl) (fun _ _ _ => ⟨trivial, trivial⟩)
                          refine FlowAll.cons ?_ ?_
                          · intro xF ww hR hd K hK
                            have dd33 : ((xF 33) = .bool true) := hd 33 (by kernel_rfl)
                            have dd34 : ((xF 34) = .slice o7 m7 c7) := hd 34 (by kernel_rfl)
                            have dd35 : ((xF 35) = .slice o8 m8 c8) := hd 35 (by kernel_rfl)
                            clear hd
                            simp only [← hAF, Act.put, List.setIfInBounds_toArray, List.set_cons_zero, List.set_cons_succ] at hK ⊢
                            clear hAF
                            try simp only [Nat.zero_add] at hK ⊢
                            try simp only [Nat.reduceAdd] at hK ⊢
                            try generalize xF 33 = yy33 at *
                            try generalize xF 34 = yy34 at *
                            try generalize xF 35 = yy35 at *
                            obtain rfl := dd33
                            obtain rfl := dd34
                            obtain rfl := dd35
                            obtain hbR := id hR
                            rw [if_pos (by rfl)]
                            go_simp
                            (go_at_call 17; (with_reducible refine (lists_eq tw _ _ _ (FRW.out _ hbR) (FRw.out _ hbR)).mono ?_); rintro e wK ⟨rfl, hbK⟩)
                            try go_wp2_with fail
                            exact hK.out _ _ (hbK) (rfl) (fun _ _ _ => ⟨trivial, trivial⟩)
                          refine FlowAll.cons ?_ ?_
                          · intro xF ww hR hd K hK
                            have dd33 : ((xF 33) = .bool true) := hd 33 (by kernel_rfl)
                            have dd36 : ((xF 36) = .bool true) := hd 36 (by kernel_rfl)
                            clear hd
                            simp only [← hAF, Act.put, List.setIfInBounds_toArray, List.set_cons_zero, List.set_cons_succ] at hK ⊢
                            clear hAF
                            try simp only [Nat.zero_add] at hK ⊢
                            try simp only [Nat.reduceAdd] at hK ⊢
                            try generalize xF 33 = yy33 at *
                            try generalize xF 36 = yy36 at *
                            obtain rfl := dd33
                            obtain rfl := dd36
                            obtain hbR := id hR
                            rw [if_pos (by rfl)]
                            go_simp
                            exact hK.out _ _ (Below.refl _ _) (rfl) (fun _ _ _ => ⟨trivial, trivial⟩)
                          refine FlowAll.cons ?_ ?_
                          · intro xF ww hR hd K hK
                            have dd37 : ((xF 37) = .bool true) := hd 37 (by kernel_rfl)
                            clear hd
                            simp only [← hAF, Act.put, List.setIfInBounds_toArray, List.set_cons_zero, List.set_cons_succ] at hK ⊢
                            clear hAF
                            try simp only [Nat.zero_add] at hK ⊢
                            try simp only [Nat.reduceAdd] at hK ⊢
                            try generalize xF 37 = yy37 at *
                            obtain rfl := dd37
                            obtain hbR := id hR
                            rw [if_pos (by rfl)]
                            go_simp
                            exact hK.out _ _ (Below.refl _ _) (rfl) (fun _ _ _ => ⟨trivial, trivial⟩)
                          refine FlowAll.cons ?_ ?_
                          · intro xF ww hR hd K hK
                            have dd38 : ((xF 38) = .bool true) := hd 38 (by kernel_rfl)
                            clear hd
                            simp only [← hAF, Act.put, List.setIfInBounds_toArray, List.set_cons_zero, List.set_cons_succ] at hK ⊢
                            clear hAF
                            try simp only [Nat.zero_add] at hK ⊢
                            try simp only [Nat.reduceAdd] at hK ⊢
                            try generalize xF 38 = yy38 at *
                            obtain rfl := dd38
                            obtain hbR := id hR
                            rw [if_pos (by rfl)]
                            go_simp
                            exact hK.out _ _ (Below.refl _ _) (rfl) (fun _ _ _ => ⟨trivial, trivial⟩)
                          refine FlowAll.cons ?_ ?_
                          · intro xF ww hR hd K hK
                            have dd38 : ((xF 38) = .bool true) := hd 38 (by kernel_rfl)
                            clear hd
                            simp only [← hAF, Act.put, List.setIfInBounds_toArray, List.set_cons_zero, List.set_cons_succ] at hK ⊢
                            clear hAF
                            try simp only [Nat.zero_add] at hK ⊢
                            try simp only [Nat.reduceAdd] at hK ⊢
                            try generalize xF 38 = yy38 at *
                            obtain rfl := dd38
                            obtain hbR := id hR
                            rw [if_pos (by rfl)]
                            go_simp
                            exact hK.out _ _ (Below.refl _ _) (rfl) (fun _ _ _ => ⟨trivial, trivial⟩)
                          refine FlowAll.cons ?_ ?_
                          · intro xF ww hR hd K hK
                            have dd38 : ((xF 38) = .bool true) := hd 38 (by kernel_rfl)
                            have dd39 : ((xF 39) = .int .i64 tc) := hd 39 (by kernel_rfl)
                            have dd40 : ((xF 40) = .int .i64 tc) := hd 40 (by kernel_rfl)
                            clear hd
                            simp only [← hAF, Act.put, List.setIfInBounds_toArray, List.set_cons_zero, List.set_cons_succ] at hK ⊢
                            clear hAF
                            try simp only [Nat.zero_add] at hK ⊢
                            try simp only [Nat.reduceAdd] at hK ⊢
                            try generalize xF 38 = yy38 at *
                            try generalize xF 39 = yy39 at *
                            try generalize xF 40 = yy40 at *
                            obtain rfl := dd38
                            obtain rfl := dd39
                            obtain rfl := dd40
                            obtain hbR := id hR
                            rw [if_pos (by rfl)]
                            go_simp
                            exact hK.out _ _ (Below.refl _ _) (rfl) (fun _ _ _ => ⟨trivial, trivial⟩)
                          refine FlowAll.cons ?_ ?_
                          · intro xF ww hR hd K hK
                            have dd38 : ((xF 38) = .bool true) := hd 38 (by kernel_rfl)
                            have dd41 : ((xF 41) = .bool true) := hd 41 (by kernel_rfl)
                            clear hd
                            simp only [← hAF, Act.put, List.setIfInBounds_toArray, List.set_cons_zero, List.set_cons_succ] at hK ⊢
                            clear hAF
                            try simp only [Nat.zero_add] at hK ⊢
                            try simp only [Nat.reduceAdd] at hK ⊢
                            try generalize xF 38 = yy38 at *
                            try generalize xF 41 = yy41 at *
                            obtain rfl := dd38
                            obtain rfl := dd41
                            obtain hbR := id hR
                            rw [if_pos (by rfl)]
                            go_simp
                            exact hK.out _ _ (Below.refl _ _) (rfl) (fun _ _ _ => ⟨trivial, trivial⟩)
                          refine FlowAll.cons ?_ ?_
                          · intro xF ww hR hd K hK
                            have dd42 : ((xF 42) = .bool true) := hd 42 (by kernel_rfl)
                            clear hd
                            simp only [← hAF, Act.put, List.setIfInBounds_toArray, List.set_cons_zero, List.set_cons_succ] at hK ⊢
                            clear hAF
                            try simp only [Nat.zero_add] at hK ⊢
                            try simp only [Nat.reduceAdd] at hK ⊢
                            try generalize xF 42 = yy42 at *
                            obtain rfl := dd42
                            obtain hbR := id hR
                            rw [if_pos (by rfl)]
                            go_simp
                            exact hK.out _ _ (Below.refl _ _) (rfl) (fun _ _ _ => ⟨trivial, trivial⟩)
                          refine FlowAll.cons ?_ ?_
                          · intro xF ww hR hd K hK
                            have dd43 : ((xF 43) = .bool true) := hd 43 (by kernel_rfl)
                            clear hd
                            simp only [← hAF, Act.put, List.setIfInBounds_toArray, List.set_cons_zero, List.set_cons_succ] at hK ⊢
                            clear hAF
                            try simp only [Nat.zero_add] at hK ⊢
                            try simp only [Nat.reduceAdd] at hK ⊢
                            try generalize xF 43 = yy43 at *
                            obtain rfl := dd43
                            obtain hbR := id hR
                            rw [if_pos (by rfl)]
                            go_simp
                            exact hK.out _ _ (Below.refl _ _) (rfl) (fun _ _ _ => ⟨trivial, trivial⟩)
                          refine FlowAll.cons ?_ ?_
                          · intro xF ww hR hd K hK
                            have dd43 : ((xF 43) = .bool true) := hd 43 (by kernel_rfl)
                            clear hd
                            simp only [← hAF, Act.put, List.setIfInBounds_toArray, List.set_cons_zero, List.set_cons_succ] at hK ⊢
                            clear hAF
                            try simp only [Nat.zero_add] at hK ⊢
                            try simp only [Nat.reduceAdd] at hK ⊢
                            try generalize xF 43 = yy43 at *
                            obtain rfl := dd43
                            obtain hbR := id hR
                            rw [if_pos (by rfl)]
                            go_simp
                            exact hK.out _ _ (Below.refl _ _) (rfl) (fun _ _ _ => ⟨trivial, trivial⟩)
                          refine FlowAll.cons ?_ ?_
                          · intro xF ww hR hd K hK
                            have dd43 : ((xF 43) = .bool true) := hd 43 (by kernel_rfl)
                            have dd45 : ((xF 45) = .pointer (some ⟨q0, 0, none⟩)) := hd 45 (by kernel_rfl)
                            clear hd
                            simp only [← hAF, Act.put, List.setIfInBounds_toArray, List.set_cons_zero, List.set_cons_succ] at hK ⊢
                            clear hAF
                            try simp only [Nat.zero_add] at hK ⊢
                            try simp only [Nat.reduceAdd] at hK ⊢
                            try generalize xF 43 = yy43 at *
                            try generalize xF 45 = yy45 at *
                            obtain rfl := dd43
                            obtain rfl := dd45
                            obtain hbR := id hR
                            have hxa := (hbR.block _ (lt_of_block X0.out)).trans X0.out
                            have qc0 := boxc hxa 0 _ rfl
                            clear hxa
                            rw [if_pos (by rfl)]
                            go_simp
                            exact hK.out _ _ (Below.refl _ _) (rfl) (fun _ _ _ => ⟨trivial, trivial⟩)
                          refine FlowAll.cons ?_ ?_
                          · intro xF ww hR hd K hK
                            have dd43 : ((xF 43) = .bool true) := hd 43 (by kernel_rfl)
                            have dd44 : ((xF 44) = .slice ao n cap) := hd 44 (by kernel_rfl)
                            have dd46 : ((xF 46) = .int .i64 m.k) := hd 46 (by kernel_rfl)
                            clear hd
                            simp only [← hAF, Act.put, List.setIfInBounds_toArray, List.set_cons_zero, List.set_cons_succ] at hK ⊢
                            clear hAF
                            try simp only [Nat.zero_add] at hK ⊢
                            try simp only [Nat.reduceAdd] at hK ⊢
                            try generalize xF 43 = yy43 at *
                            try generalize xF 44 = yy44 at *
                            try generalize xF 46 = yy46 at *
                            obtain rfl := dd43
                            obtain rfl := dd44
                            obtain rfl := dd46
                            obtain hbR := id hR
                            rw [if_pos (by rfl)]
                            go_simp
                            (go_at_call 19; (with_reducible refine (KO.out _ (BX.out.trans (hbR.mono BX.out.size))).mono ?_); rintro e wK ⟨rfl, hbK⟩)
                            try go_wp2_with fail
                            exact hK.out _ _ (hbK) (rfl) (fun _ _ _ => ⟨trivial, trivial⟩)
                          refine FlowAll.cons ?_ ?_
                          · intro xF ww hR hd K hK
                            have dd43 : ((xF 43) = .bool true) := hd 43 (by kernel_rfl)
                            clear hd
                            simp only [← hAF, Act.put, List.setIfInBounds_toArray, List.set_cons_zero, List.set_cons_succ] at hK ⊢
                            clear hAF
                            try simp only [Nat.zero_add] at hK ⊢
                            try simp only [Nat.reduceAdd] at hK ⊢
                            try generalize xF 43 = yy43 at *
                            obtain rfl := dd43
                            obtain hbR := id hR
                            rw [if_pos (by rfl)]
                            go_simp
                            exact hK.out _ _ (Below.refl _ _) (rfl) (fun _ _ _ => ⟨trivial, trivial⟩)
                          refine FlowAll.cons ?_ ?_
                          · intro xF ww hR hd K hK
                            have dd43 : ((xF 43) = .bool true) := hd 43 (by kernel_rfl)
                            clear hd
                            simp only [← hAF, Act.put, List.setIfInBounds_toArray, List.set_cons_zero, List.set_cons_succ] at hK ⊢
                            clear hAF
                            try simp only [Nat.zero_add] at hK ⊢
                            try simp only [Nat.reduceAdd] at hK ⊢
                            try generalize xF 43 = yy43 at *
                            obtain rfl := dd43
                            obtain hbR := id hR
                            rw [if_pos (by rfl)]
                            go_simp
                            exact hK.out _ _ (Below.refl _ _) (rfl) (fun _ _ _ => ⟨trivial, trivial⟩)
                          refine FlowAll.cons ?_ ?_
                          · intro xF ww hR hd K hK
                            have dd43 : ((xF 43) = .bool true) := hd 43 (by kernel_rfl)
                            have dd49 : ((xF 49) = .pointer (some ⟨q0, 0, none⟩)) := hd 49 (by kernel_rfl)
                            clear hd
                            simp only [← hAF, Act.put, List.setIfInBounds_toArray, List.set_cons_zero, List.set_cons_succ] at hK ⊢
                            clear hAF
                            try simp only [Nat.zero_add] at hK ⊢
                            try simp only [Nat.reduceAdd] at hK ⊢
                            try generalize xF 43 = yy43 at *
                            try generalize xF 49 = yy49 at *
                            obtain rfl := dd43
                            obtain rfl := dd49
                            obtain hbR := id hR
                            have hxa := (hbR.block _ (lt_of_block X0.out)).trans X0.out
                            have qc0 := boxc hxa 0 _ rfl
                            clear hxa
                            rw [if_pos (by rfl)]
                            go_simp
                            exact hK.out _ _ (Below.refl _ _) (rfl) (fun _ _ _ => ⟨trivial, trivial⟩)
                          refine FlowAll.cons ?_ ?_
                          · intro xF ww hR hd K hK
                            have dd43 : ((xF 43) = .bool true) := hd 43 (by kernel_rfl)
                            have dd48 : ((xF 48) = .slice ao n cap) := hd 48 (by kernel_rfl)
                            have dd50 : ((xF 50) = .int .i64 m.k) := hd 50 (by kernel_rfl)
                            clear hd
                            simp only [← hAF, Act.put, List.setIfInBounds_toArray, List.set_cons_zero, List.set_cons_succ] at hK ⊢
                            clear hAF
                            try simp only [Nat.zero_add] at hK ⊢
                            try simp only [Nat.reduceAdd] at hK ⊢
                            try generalize xF 43 = yy43 at *
                            try generalize xF 48 = yy48 at *
                            try generalize xF 50 = yy50 at *
                            obtain rfl := dd43
                            obtain rfl := dd48
                            obtain rfl := dd50
                            obtain hbR := id hR
                            rw [if_pos (by rfl)]
                            go_simp
                            (go_at_call 20; (with_reducible refine (Ko.out _ (BX.out.trans (hbR.mono BX.out.size))).mono ?_); rintro e wK ⟨rfl, hbK⟩)
                            try go_wp2_with fail
                            exact hK.out _ _ (hbK) (rfl) (fun _ _ _ => ⟨trivial, trivial⟩)
                          refine FlowAll.cons ?_ ?_
                          · intro xF ww hR hd K hK
                            have dd43 : ((xF 43) = .bool true) := hd 43 (by kernel_rfl)
                            have dd47 : ((xF 47) = .int .i64 (co : Int)) := hd 47 (by kernel_rfl)
                            have dd51 : ((xF 51) = .int .i64 (co : Int)) := hd 51 (by kernel_rfl)
                            clear hd
                            simp only [← hAF, Act.put, List.setIfInBounds_toArray, List.set_cons_zero, List.set_cons_succ] at hK ⊢
                            clear hAF
                            try simp only [Nat.zero_add] at hK ⊢
                            try simp only [Nat.reduceAdd] at hK ⊢
                            try generalize xF 43 = yy43 at *
                            try generalize xF 47 = yy47 at *
                            try generalize xF 51 = yy51 at *
                            obtain rfl := dd43
                            obtain rfl := dd47
                            obtain rfl := dd51
                            obtain hbR := id hR
                            rw [if_pos (by rfl)]
                            go_simp
                            exact hK.out _ _ (Below.refl _ _) (rfl) (fun _ _ _ => ⟨trivial, trivial⟩)
                          refine FlowAll.cons ?_ ?_
                          · intro xF ww hR hd K hK
                            have dd43 : ((xF 43) = .bool true) := hd 43 (by kernel_rfl)
                            have dd52 : ((xF 52) = .bool true) := hd 52 (by kernel_rfl)
                            clear hd
                            simp only [← hAF, Act.put, List.setIfInBounds_toArray, List.set_cons_zero, List.set_cons_succ] at hK ⊢
                            clear hAF
                            try simp only [Nat.zero_add] at hK ⊢
                            try simp only [Nat.reduceAdd] at hK ⊢
                            try generalize xF 43 = yy43 at *
                            try generalize xF 52 = yy52 at *
                            obtain rfl := dd43
                            obtain rfl := dd52
                            obtain hbR := id hR
                            rw [if_pos (by rfl)]
                            go_simp
                            exact hK.out _ _ (Below.refl _ _) (rfl) (fun _ _ _ => ⟨trivial, trivial⟩)
                          refine FlowAll.cons ?_ ?_
                          · intro xF ww hR hd K hK
                            have dd53 : ((xF 53) = .bool true) := hd 53 (by kernel_rfl)
                            clear hd
                            simp only [← hAF, Act.put, List.setIfInBounds_toArray, List.set_cons_zero, List.set_cons_succ] at hK ⊢
                            clear hAF
                            try simp only [Nat.zero_add] at hK ⊢
                            try simp only [Nat.reduceAdd] at hK ⊢
                            try generalize xF 53 = yy53 at *
                            obtain rfl := dd53
                            obtain hbR := id hR
                            rw [if_pos (by rfl)]
                            go_simp
                            exact hK.out _ _ (Below.refl _ _) (rfl) (fun _ _ _ => ⟨trivial, trivial⟩)
                          refine FlowAll.cons ?_ ?_
                          · intro xF ww hR hd K hK
                            have dd54 : ((xF 54) = .bool true) := hd 54 (by kernel_rfl)
                            clear hd
                            simp only [← hAF, Act.put, List.setIfInBounds_toArray, List.set_cons_zero, List.set_cons_succ] at hK ⊢
                            clear hAF
                            try simp only [Nat.zero_add] at hK ⊢
                            try simp only [Nat.reduceAdd] at hK ⊢
                            try generalize xF 54 = yy54 at *
                            obtain rfl := dd54
                            obtain hbR := id hR
                            rw [if_pos (by rfl)]
                            go_simp
                            exact hK.out _ _ (Below.refl _ _) (rfl) (fun _ _ _ => ⟨trivial, trivial⟩)
                          refine FlowAll.cons ?_ ?_
                          · intro xF ww hR hd K hK
                            have dd54 : ((xF 54) = .bool true) := hd 54 (by kernel_rfl)
                            have dd55 : ((xF 55) = .slice ao n cap) := hd 55 (by kernel_rfl)
                            clear hd
                            simp only [← hAF, Act.put, List.setIfInBounds_toArray, List.set_cons_zero, List.set_cons_succ] at hK ⊢
                            clear hAF
                            try simp only [Nat.zero_add] at hK ⊢
                            try simp only [Nat.reduceAdd] at hK ⊢
                            try generalize xF 54 = yy54 at *
                            try generalize xF 55 = yy55 at *
                            obtain rfl := dd54
                            obtain rfl := dd55
                            obtain hbR := id hR
                            rw [if_pos (by rfl)]
                            go_simp
                            (go_at_call 21; (with_reducible refine (KB.out _ (BX.out.trans (hbR.mono BX.out.size))).mono ?_); rintro e wK ⟨rfl, hbK⟩)
                            try go_wp2_with fail
                            exact hK.out _ _ (hbK) (rfl) (fun _ _ _ => ⟨trivial, trivial⟩)
                          refine FlowAll.cons ?_ ?_
                          · intro xF ww hR hd K hK
                            have dd54 : ((xF 54) = .bool true) := hd 54 (by kernel_rfl)
                            clear hd
                            simp only [← hAF, Act.put, List.setIfInBounds_toArray, List.set_cons_zero, List.set_cons_succ] at hK ⊢
                            clear hAF
                            try simp only [Nat.zero_add] at hK ⊢
                            try simp only [Nat.reduceAdd] at hK ⊢
                            try generalize xF 54 = yy54 at *
                            obtain rfl := dd54
                            obtain hbR := id hR
                            rw [if_pos (by rfl)]
                            go_simp
                            exact hK.out _ _ (Below.refl _ _) (rfl) (fun _ _ _ => ⟨trivial, trivial⟩)
                          refine FlowAll.cons ?_ ?_
                          · intro xF ww hR hd K hK
                            have dd54 : ((xF 54) = .bool true) := hd 54 (by kernel_rfl)
                            have dd57 : ((xF 57) = .slice ao n cap) := hd 57 (by kernel_rfl)
                            clear hd
                            simp only [← hAF, Act.put, List.setIfInBounds_toArray, List.set_cons_zero, List.set_cons_succ] at hK ⊢
                            clear hAF
                            try simp only [Nat.zero_add] at hK ⊢
                            try simp only [Nat.reduceAdd] at hK ⊢
                            try generalize xF 54 = yy54 at *
                            try generalize xF 57 = yy57 at *
                            obtain rfl := dd54
                            obtain rfl := dd57
                            obtain hbR := id hR
                            rw [if_pos (by rfl)]
                            go_simp
                            (go_at_call 22; (with_reducible refine (Kb.out _ (BX.out.trans (hbR.mono BX.out.size))).mono ?_); rintro e wK ⟨rfl, hbK⟩)
                            try go_wp2_with fail
                            exact hK.out _ _ (hbK) (rfl) (fun _ _ _ => ⟨trivial, trivial⟩)
                          refine FlowAll.cons ?_ ?_
                          · intro xF ww hR hd K hK
                            have dd54 : ((xF 54) = .bool true) := hd 54 (by kernel_rfl)
                            have dd56 : ((xF 56) = .bool bu) := hd 56 (by kernel_rfl)
                            have dd58 : ((xF 58) = .bool bu) := hd 58 (by kernel_rfl)
                            clear hd
                            simp only [← hAF, Act.put, List.setIfInBounds_toArray, List.set_cons_zero, List.set_cons_succ] at hK ⊢
                            clear hAF
                            try simp only [Nat.zero_add] at hK ⊢
                            try simp only [Nat.reduceAdd] at hK ⊢
                            try generalize xF 54 = yy54 at *
                            try generalize xF 56 = yy56 at *
                            try generalize xF 58 = yy58 at *
                            obtain rfl := dd54
                            obtain rfl := dd56
                            obtain rfl := dd58
                            obtain hbR := id hR
                            rw [if_pos (by rfl)]
                            go_simp
                            exact hK.out _ _ (Below.refl _ _) (rfl) (fun _ _ _ => ⟨trivial, trivial⟩)
                          refine FlowAll.cons ?_ ?_
                          · intro xF ww hR hd K hK
                            have dd54 : ((xF 54) = .bool true) := hd 54 (by kernel_rfl)
                            have dd59 : ((xF 59) = .bool true) := hd 59 (by kernel_rfl)
                            clear hd
                            simp only [← hAF, Act.put, List.setIfInBounds_toArray, List.set_cons_zero, List.set_cons_succ] at hK ⊢
                            clear hAF
                            try simp only [Nat.zero_add] at hK ⊢
                            try simp only [Nat.reduceAdd] at hK ⊢
                            try generalize xF 54 = yy54 at *
                            try generalize xF 59 = yy59 at *
                            obtain rfl := dd54
                            obtain rfl := dd59
                            obtain hbR := id hR
                            rw [if_pos (by rfl)]
                            go_simp
                            exact hK.out _ _ (Below.refl _ _) (rfl) (fun _ _ _ => ⟨trivial, trivial⟩)
                          refine FlowAll.cons ?_ ?_
                          · intro xF ww hR hd K hK
                            have dd60 : ((xF 60) = .bool true) := hd 60 (by kernel_rfl)
                            clear hd
                            simp only [← hAF, Act.put, List.setIfInBounds_toArray, List.set_cons_zero, List.set_cons_succ] at hK ⊢
                            clear hAF
                            try simp only [Nat.zero_add] at hK ⊢
                            try simp only [Nat.reduceAdd] at hK ⊢
                            try generalize xF 60 = yy60 at *
                            obtain rfl := dd60
                            obtain hbR := id hR
                            rw [if_pos (by rfl)]
                            go_simp
                            exact hK.out _ _ (Below.refl _ _) (rfl) (fun _ _ _ => ⟨trivial, trivial⟩)
                          refine FlowAll.cons ?_ ?_
                          · intro xF ww hR hd K hK
                            have dd61 : ((xF 61) = .bool true) := hd 61 (by kernel_rfl)
                            clear hd
                            simp only [← hAF, Act.put, List.setIfInBounds_toArray, List.set_cons_zero, List.set_cons_succ] at hK ⊢
                            clear hAF
                            try simp only [Nat.zero_add] at hK ⊢
                            try simp only [Nat.reduceAdd] at hK ⊢
                            try generalize xF 61 = yy61 at *
                            obtain rfl := dd61
                            obtain hbR := id hR
                            rw [if_pos (by rfl)]
                            go_simp
                            (go_at_call 8; (with_reducible refine (HAW.out _).mono ?_); rintro e wK ⟨rfl, hbK⟩)
                            try go_wp2_with fail
                            exact hK.out _ _ (hbK) (rfl) (fun _ _ _ => ⟨trivial, trivial⟩)
                          refine FlowAll.cons ?_ ?_
                          · intro xF ww hR hd K hK
                            have dd61 : ((xF 61) = .bool true) := hd 61 (by kernel_rfl)
                            have dd62 : ((xF 62) = .bool true) := hd 62 (by kernel_rfl)
                            clear hd
                            simp only [← hAF, Act.put, List.setIfInBounds_toArray, List.set_cons_zero, List.set_cons_succ] at hK ⊢
                            clear hAF
                            try simp only [Nat.zero_add] at hK ⊢
                            try simp only [Nat.reduceAdd] at hK ⊢
                            try generalize xF 61 = yy61 at *
                            try generalize xF 62 = yy62 at *
                            obtain rfl := dd61
                            obtain rfl := dd62
                            obtain hbR := id hR
                            rw [if_pos (by rfl)]
                            go_simp
                            exact hK.out _ _ (Below.refl _ _) (rfl) (fun _ _ _ => ⟨trivial, trivial⟩)
                          exact FlowAll.nil
                        intro xF ww hR hF hP
                        clear hP
                        have dd0 : ((xF 0) = .slice o1 m1 c1) := hF 0 (by omega) (by decide)
                        have dd1 : ((xF 1) = .slice o2 m2 c2) := hF 1 (by omega) (by decide)
                        have dd2 : ((xF 2) = .bool true) := hF 2 (by omega) (by decide)
                        have dd3 : ((xF 3) = .bool true) := hF 3 (by omega) (by decide)
                        have dd4 : ((xF 4) = .int .i64 0) := hF 4 (by omega) (by decide)
                        have dd5 : ((xF 5) = .int .i64 0) := hF 5 (by omega) (by decide)
                        have dd6 : ((xF 6) = .bool true) := hF 6 (by omega) (by decide)
                        have dd7 : ((xF 7) = .bool true) := hF 7 (by omega) (by decide)
                        have dd8 : ((xF 8) = .bool true) := hF 8 (by omega) (by decide)
                        have dd9 : ((xF 9) = .slice o3 m3 c3) := hF 9 (by omega) (by decide)
                        have dd10 : ((xF 10) = .slice o4 m4 c4) := hF 10 (by omega) (by decide)
                        have dd11 : ((xF 11) = .bool true) := hF 11 (by omega) (by decide)
                        have dd12 : ((xF 12) = .bool true) := hF 12 (by omega) (by decide)
                        have dd13 : ((xF 13) = .bool true) := hF 13 (by omega) (by decide)
                        have dd14 : ((xF 14) = .agg #[.int .i64 tx.k, .int .i64 tx.f, .int .i64 tx.to, .int .i64 tx.g, .int .i64 tx.n, .slice aex nex cex, .slice aax nax cax, .slice p1x n1x c1x, .slice p2x n2x c2x, .slice p3x n3x c3x, .slice p4x n4x c4x, .int .i64 tx.ki, .string tx.mn, .string tx.mv, .slice sax snx scx, .int .i64 tx.er]) := hF 14 (by omega) (by decide)
                        have dd15 : ((xF 15) = .agg #[.int .i64 tx.k, .int .i64 tx.f, .int .i64 tx.to, .int .i64 tx.g, .int .i64 tx.n, .slice aey ney cey, .slice aay nay cay, .slice p1y n1y c1y, .slice p2y n2y c2y, .slice p3y n3y c3y, .slice p4y n4y c4y, .int .i64 tx.ki, .string tx.mn, .string tx.mv, .slice say sny scy, .int .i64 tx.er]) := hF 15 (by omega) (by decide)
                        have dd16 : ((xF 16) = .bool true) := hF 16 (by omega) (by decide)
                        have dd17 : ((xF 17) = .bool true) := hF 17 (by omega) (by decide)
                        have dd18 : ((xF 18) = .bool true) := hF 18 (by omega) (by decide)
                        have dd19 : ((xF 19) = .int .i64 tc) := hF 19 (by omega) (by decide)
                        have dd20 : ((xF 20) = .int .i64 tc) := hF 20 (by omega) (by decide)
                        have dd21 : ((xF 21) = .bool true) := hF 21 (by omega) (by decide)
                        have dd22 : ((xF 22) = .bool true) := hF 22 (by omega) (by decide)
                        have dd23 : ((xF 23) = .bool true) := hF 23 (by omega) (by decide)
                        have dd24 : ((xF 24) = .slice o5 m5 c5) := hF 24 (by omega) (by decide)
                        have dd25 : ((xF 25) = .slice o6 m6 c6) := hF 25 (by omega) (by decide)
                        have dd26 : ((xF 26) = .bool true) := hF 26 (by omega) (by decide)
                        have dd27 : ((xF 27) = .bool true) := hF 27 (by omega) (by decide)
                        have dd28 : ((xF 28) = .bool true) := hF 28 (by omega) (by decide)
                        have dd29 : ((xF 29) = .int .i64 tc) := hF 29 (by omega) (by decide)
                        have dd30 : ((xF 30) = .int .i64 tc) := hF 30 (by omega) (by decide)
                        have dd31 : ((xF 31) = .bool true) := hF 31 (by omega) (by decide)
                        have dd32 : ((xF 32) = .bool true) := hF 32 (by omega) (by decide)
                        have dd33 : ((xF 33) = .bool true) := hF 33 (by omega) (by decide)
                        have dd34 : ((xF 34) = .slice o7 m7 c7) := hF 34 (by omega) (by decide)
                        have dd35 : ((xF 35) = .slice o8 m8 c8) := hF 35 (by omega) (by decide)
                        have dd36 : ((xF 36) = .bool true) := hF 36 (by omega) (by decide)
                        have dd37 : ((xF 37) = .bool true) := hF 37 (by omega) (by decide)
                        have dd38 : ((xF 38) = .bool true) := hF 38 (by omega) (by decide)
                        have dd39 : ((xF 39) = .int .i64 tc) := hF 39 (by omega) (by decide)
                        have dd40 : ((xF 40) = .int .i64 tc) := hF 40 (by omega) (by decide)
                        have dd41 : ((xF 41) = .bool true) := hF 41 (by omega) (by decide)
                        have dd42 : ((xF 42) = .bool true) := hF 42 (by omega) (by decide)
                        have dd43 : ((xF 43) = .bool true) := hF 43 (by omega) (by decide)
                        have dd44 : ((xF 44) = .slice ao n cap) := hF 44 (by omega) (by decide)
                        have dd45 : ((xF 45) = .pointer (some ⟨q0, 0, none⟩)) := hF 45 (by omega) (by decide)
                        have dd46 : ((xF 46) = .int .i64 m.k) := hF 46 (by omega) (by decide)
                        have dd47 : ((xF 47) = .int .i64 (co : Int)) := hF 47 (by omega) (by decide)
                        have dd48 : ((xF 48) = .slice ao n cap) := hF 48 (by omega) (by decide)
                        have dd49 : ((xF 49) = .pointer (some ⟨q0, 0, none⟩)) := hF 49 (by omega) (by decide)
                        have dd50 : ((xF 50) = .int .i64 m.k) := hF 50 (by omega) (by decide)
                        have dd51 : ((xF 51) = .int .i64 (co : Int)) := hF 51 (by omega) (by decide)
                        have dd52 : ((xF 52) = .bool true) := hF 52 (by omega) (by decide)
                        have dd53 : ((xF 53) = .bool true) := hF 53 (by omega) (by decide)
                        have dd54 : ((xF 54) = .bool true) := hF 54 (by omega) (by decide)
                        have dd55 : ((xF 55) = .slice ao n cap) := hF 55 (by omega) (by decide)
                        have dd56 : ((xF 56) = .bool bu) := hF 56 (by omega) (by decide)
                        have dd57 : ((xF 57) = .slice ao n cap) := hF 57 (by omega) (by decide)
                        have dd58 : ((xF 58) = .bool bu) := hF 58 (by omega) (by decide)
                        have dd59 : ((xF 59) = .bool true) := hF 59 (by omega) (by decide)
                        have dd60 : ((xF 60) = .bool true) := hF 60 (by omega) (by decide)
                        have dd61 : ((xF 61) = .bool true) := hF 61 (by omega) (by decide)
                        have dd62 : ((xF 62) = .bool true) := hF 62 (by omega) (by decide)
                        have dd63 : ((xF 63) = .bool true) := hF 63 (by omega) (by decide)
                        clear hF
                        simp only [List.cons_append, List.nil_append, List.append_eq, List.take_succ_cons, List.take_zero, List.drop_succ_cons, List.drop_zero, fillOf, Act.put, List.setIfInBounds_toArray, List.set_cons_zero, List.set_cons_succ, Nat.reduceAdd, Nat.zero_add]
                        try generalize xF 0 = yy0 at *
                        try generalize xF 1 = yy1 at *
                        try generalize xF 2 = yy2 at *
                        try generalize xF 3 = yy3 at *
                        try generalize xF 4 = yy4 at *
                        try generalize xF 5 = yy5 at *
                        try generalize xF 6 = yy6 at *
                        try generalize xF 7 = yy7 at *
                        try generalize xF 8 = yy8 at *
                        try generalize xF 9 = yy9 at *
                        try generalize xF 10 = yy10 at *
                        try generalize xF 11 = yy11 at *
                        try generalize xF 12 = yy12 at *
                        try generalize xF 13 = yy13 at *
                        try generalize xF 14 = yy14 at *
                        try generalize xF 15 = yy15 at *
                        try generalize xF 16 = yy16 at *
                        try generalize xF 17 = yy17 at *
                        try generalize xF 18 = yy18 at *
                        try generalize xF 19 = yy19 at *
                        try generalize xF 20 = yy20 at *
                        try generalize xF 21 = yy21 at *
                        try generalize xF 22 = yy22 at *
                        try generalize xF 23 = yy23 at *
                        try generalize xF 24 = yy24 at *
                        try generalize xF 25 = yy25 at *
                        try generalize xF 26 = yy26 at *
                        try generalize xF 27 = yy27 at *
                        try generalize xF 28 = yy28 at *
                        try generalize xF 29 = yy29 at *
                        try generalize xF 30 = yy30 at *
                        try generalize xF 31 = yy31 at *
                        try generalize xF 32 = yy32 at *
                        try generalize xF 33 = yy33 at *
                        try generalize xF 34 = yy34 at *
                        try generalize xF 35 = yy35 at *
                        try generalize xF 36 = yy36 at *
                        try generalize xF 37 = yy37 at *
                        try generalize xF 38 = yy38 at *
                        try generalize xF 39 = yy39 at *
                        try generalize xF 40 = yy40 at *
                        try generalize xF 41 = yy41 at *
                        try generalize xF 42 = yy42 at *
                        try generalize xF 43 = yy43 at *
                        try generalize xF 44 = yy44 at *
                        try generalize xF 45 = yy45 at *
                        try generalize xF 46 = yy46 at *
                        try generalize xF 47 = yy47 at *
                        try generalize xF 48 = yy48 at *
                        try generalize xF 49 = yy49 at *
                        try generalize xF 50 = yy50 at *
                        try generalize xF 51 = yy51 at *
                        try generalize xF 52 = yy52 at *
                        try generalize xF 53 = yy53 at *
                        try generalize xF 54 = yy54 at *
                        try generalize xF 55 = yy55 at *
                        try generalize xF 56 = yy56 at *
                        try generalize xF 57 = yy57 at *
                        try generalize xF 58 = yy58 at *
                        try generalize xF 59 = yy59 at *
                        try generalize xF 60 = yy60 at *
                        try generalize xF 61 = yy61 at *
                        try generalize xF 62 = yy62 at *
                        try generalize xF 63 = yy63 at *
                        clear xF
                        obtain rfl := dd0
                        obtain rfl := dd1
                        obtain rfl := dd2
                        obtain rfl := dd3
                        obtain rfl := dd4
                        obtain rfl := dd5
                        obtain rfl := dd6
                        obtain rfl := dd7
                        obtain rfl := dd8
                        obtain rfl := dd9
                        obtain rfl := dd10
                        obtain rfl := dd11
                        obtain rfl := dd12
                        obtain rfl := dd13
                        obtain rfl := dd14
                        obtain rfl := dd15
                        obtain rfl := dd16
                        obtain rfl := dd17
                        obtain rfl := dd18
                        obtain rfl := dd19
                        obtain rfl := dd20
                        obtain rfl := dd21
                        obtain rfl := dd22
                        obtain rfl := dd23
                        obtain rfl := dd24
                        obtain rfl := dd25
                        obtain rfl := dd26
                        obtain rfl := dd27
                        obtain rfl := dd28
                        obtain rfl := dd29
                        obtain rfl := dd30
                        obtain rfl := dd31
                        obtain rfl := dd32
                        obtain rfl := dd33
                        obtain rfl := dd34
                        obtain rfl := dd35
                        obtain rfl := dd36
                        obtain rfl := dd37
                        obtain rfl := dd38
                        obtain rfl := dd39
                        obtain rfl := dd40
                        obtain rfl := dd41
                        obtain rfl := dd42
                        obtain rfl := dd43
                        obtain rfl := dd44
                        obtain rfl := dd45
                        obtain rfl := dd46
                        obtain rfl := dd47
                        obtain rfl := dd48
                        obtain rfl := dd49
                        obtain rfl := dd50
                        obtain rfl := dd51
                        obtain rfl := dd52
                        obtain rfl := dd53
                        obtain rfl := dd54
                        obtain rfl := dd55
                        obtain rfl := dd56
                        obtain rfl := dd57
                        obtain rfl := dd58
                        obtain rfl := dd59
                        obtain rfl := dd60
                        obtain rfl := dd61
                        obtain rfl := dd62
                        obtain rfl := dd63
                        have hRE := Lib.hid hR
                        clear hR
                        go_wp2
                        go_ret
                        exact ⟨rfl, BX.out.trans (hRE.out.mono BX.out.size)⟩
end Go.Proofs.Ytpgccfgldjeomaa
