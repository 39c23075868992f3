/- net's law: nothing else is under way. -/
import Derived.Test.YtpgccfgldjeomaaNtKeep0
namespace Go.Proofs.Ytpgccfgldjeomaa
open Go Go.RowKit Go.ChangeShapes cl
set_option maxHeartbeats 25600000 in
set_option maxRecDepth 100000 in
theorem keeps_any (l : List cd.D) (v : Value) (w : World) (hl : RowsAt 2 dotR w w.heap.size v l) : Calls Try.prog 4 #[v] w (Said true w) := by
  obtain ⟨n, hn⟩ : ∃ n, n = l.length := ⟨_, rfl⟩
  obtain ⟨ao, cap, rfl, hnc, hnm⟩ := hl.form' hn
  have HL := Lib.hid hl
  have HN := Lib.hid hn
  have HAW : Hid (∀ W, Calls Try.prog 8 #[] W (Said true W)) := awake_any
  have HM : Hid (∀ (z : Int) (W : World), 0 ≤ z ∧ z < 1000 → Calls Try.prog 23 #[.int .i64 z] W fun e w' => ∃ c, e = .returned (.agg (List.toArray c)) ∧ msgRel w' w'.heap.size c (msgN z) ∧ Below W.heap.size W w') := fun z W h => message_any z W h.1 (by omega)
  unfold maxLen at hnm
  clear hl hn
  by_cases hbig : 100 < n
  · have hI : (100 : Int) < (n : Int) := by omega
    go_enter Try.func4, Try.ntmps4
    go_wp2_with fail
    (with_reducible refine (HAW.out _).mono ?_)
    rintro e w1 ⟨rfl, b1⟩
    go_wp2
    go_ret
    exact ⟨rfl, b1⟩
  have hI : ¬ (100 : Int) < (n : Int) := by omega
  go_enter Try.func4, Try.ntmps4
  go_wp2
  go_loopw [3, 4, 24, 158] (fun lv wv i _ wr => ∃ (k : Nat) (la : Option Addr) (m lc : Nat) (wa : Option Addr) (wc : Nat) (Z : List Int), i = .int .i64 k ∧ lv = .slice la m lc ∧ wv = .slice wa m wc ∧ k ≤ n ∧ Hid (KeepS w wr k la m lc wa wc Z)) (fun _ _ i _ _ => n - (intOf i).toNat)
  case atStart => exact ⟨0, none, 0, 0, none, 0, [], rfl, rfl, rfl, by omega, KeepS.first w⟩
  case round =>
    obtain ⟨k, la, m, lc, wa, wc, Z, rfl, rfl, rfl, hk, HK⟩ := hrel
    have hmk : m ≤ k := HK.out.2.2.2.1
    by_cases hlt : k < n
    rotate_left
    · go_wp2_with fail
      (with_reducible refine (HAW.out _).mono ?_)
      rintro e w1 ⟨rfl, b1⟩
      go_wp2
      go_ret
      exact ⟨rfl, HK.out.2.2.2.2.2.trans (b1.mono HK.out.2.2.2.2.2.size)⟩
    have hkI : (k : Int) < (n : Int) := by omega
    obtain ⟨b0, off, c, rfl, hB0, hcl, hR, hcell⟩ := (HL.out.next dotR_steady HK.out.2.2.2.2.2).get HN.out hlt (0, 0)
    obtain ⟨⟨kd, nn⟩, hd⟩ : ∃ x, x = l.getD k (0, 0) := ⟨_, rfl⟩
    rw [← hd] at hR
    have hR : c = [.int .i64 kd, .int .i64 nn] := hR
    subst hR
    have s0 : wr.cell? ⟨b0, off + k * 2, none⟩ = some (.int .i64 kd) := hcell 0 _ rfl
    have s1 : wr.cell? ⟨b0, off + k * 2 + 1, none⟩ = some (.int .i64 nn) := hcell 1 _ rfl
    clear hcell hcl hB0 hd
    rename World => wo
    obtain ⟨w1, hw1⟩ : ∃ W, W = wo.alloc (.cells #[.int .i64 kd, .int .i64 nn] 49) := ⟨_, rfl⟩
    have b1 : Below wo.heap.size wo w1 := by rw [hw1]; exact below1
    have X1 : Hid (∀ W, Below w1.heap.size w1 W → W.heap[wo.heap.size]? = some (.cells #[.int .i64 kd, .int .i64 nn] 49)) := by
      intro W hW
      have h : w1.heap[wo.heap.size]? = some (.cells #[.int .i64 kd, .int .i64 nn] 49) := by rw [hw1]; exact heap_alloc_new wo _
      exact (hW.block _ (lt_of_block h)).trans h
    have HW1 := Lib.hid hw1
    have K1 := Lib.hid (HK.out.next b1)
    have HZ1 := Lib.hid K1.out.2.2.2.2.2.size
    clear hw1 b1
    obtain ⟨jn, hjn, hjx⟩ := kit.umod nn (m := 1000) (by omega)
    have hjn2 : (IntKind.u64.wrap nn).tmod 1000 = (jn : Int) := hjx
    have hjni : IntKind.i64.wrap (jn : Int) = (jn : Int) := IntWalk.i64_in _ (by omega)
    obtain ⟨ja, hja, hjax⟩ := kit.umod nn (m := 50) (by omega)
    have hja2 : (IntKind.u64.wrap nn).tmod 50 = (ja : Int) := hjax
    have hjai : IntKind.i64.wrap (ja : Int) = (ja : Int) := IntWalk.i64_in _ (by omega)
    have HLN := Lib.hid K1.out.len
    clear hjx hjax
    by_cases k1 : kd = 1
    · subst k1
      by_cases hin : ja < m
      · as_aux_lemma =>
          obtain ⟨gq, rfl, hwc, hZ⟩ := K1.out.cell hin
          obtain ⟨z0, z1, hmz⟩ := K1.out.num hin
          obtain ⟨mx, hmx0⟩ : ∃ x, x = ja + (m - (ja + 1)) := ⟨_, rfl⟩
          obtain ⟨Zx, hZx⟩ : ∃ x, x = Z.take ja ++ Z.drop (ja + 1) := ⟨_, rfl⟩
          have HZL : Hid (m = Z.length) := K1.out.2.2.1
          have HMX := Lib.hid hmx0
          have HZX := Lib.hid hZx
          have HZXI : Hid (at_.i64s (Z.take ja) ++ at_.i64s (Z.drop (ja + 1)) = at_.i64s Zx) := by show _ = _; rw [HZX.out, at_.i64s_app]
          have HE2 : Hid ((Z.drop (ja + 1)).take (m - (ja + 1)) = Z.drop (ja + 1)) := List.take_of_length_le (by rw [List.length_drop, HZL.out]; omega)
          have HZQ := Lib.hid hZ
          clear hZ hmx0 hZx
          have hinI : (ja : Int) < (m : Int) := by omega
          have HS2 := Lib.hid (take_f w (Z.map msgN) (.slice la m lc) m _ ja w1 HZ1.out K1.out.1.choose_spec (by rw [← HLN.out]; omega) K1.out.fit (by rw [← HLN.out]; exact hin))
          go_wp2_with fail
          rw [← HW1.out]
          (with_reducible refine HS2.out.mono ?_)
          rintro e w2 ⟨a2, n2, q2, cs2, c2, rfl, h2, hm2, b2⟩
          rw [hmz] at hm2
          obtain rfl : mx = n2 := by rw [h2.2.2.2, HMX.out, cut_map, List.length_map]; exact (cut_len HZL.out hin).symm
          obtain ⟨zz, hzz⟩ : ∃ x, x = Z.getD ja 0 := ⟨_, rfl⟩
          have s9 : ∀ W, Below w1.heap.size w1 W → W.cell? ⟨gq, ja, none⟩ = some (.int .i64 zz) := by
            obtain ⟨g', e, h⟩ := K1.out.at' hin
            cases e
            rw [hzz]; exact h
          rw [← hzz] at z0 z1 hm2
          obtain ⟨mm, hmm⟩ : ∃ x, x = msgN zz := ⟨_, rfl⟩
          rw [← hmm] at hm2
          have HMQ : Hid (∀ W : World, Calls Try.prog 23 #[.int .i64 zz] W fun e w' => ∃ c, e = .returned (.agg (List.toArray c)) ∧ msgRel w' w'.heap.size c mm ∧ Below W.heap.size W w') := by
            intro W; rw [hmm]; exact HM.out zz W ⟨z0, z1⟩
          obtain ⟨ae, ne, ce, aa, na, ca, p1, n1, c1, p2, n2, c2, p3, n3, c3, p4, n4, c4, sa, sn, sc, rfl, g⟩ := hm2
          have hm2 : msgRel w2 w2.heap.size (#[.int .i64 mm.k, .int .i64 mm.f, .int .i64 mm.to, .int .i64 mm.g, .int .i64 mm.n, .slice ae ne ce, .slice aa na ca, .slice p1 n1 c1, .slice p2 n2 c2, .slice p3 n3 c3, .slice p4 n4 c4, .int .i64 mm.ki, .string mm.mn, .string mm.mv, .slice sa sn sc, .int .i64 mm.er]).toList mm := ⟨ae, ne, ce, aa, na, ca, p1, n1, c1, p2, n2, c2, p3, n3, c3, p4, n4, c4, sa, sn, sc, rfl, g⟩
          clear g
          obtain ⟨w3, hw3⟩ : ∃ W, W = w2.alloc (.cells #[.int .i64 mm.k, .int .i64 mm.f, .int .i64 mm.to, .int .i64 mm.g, .int .i64 mm.n, .slice ae ne ce, .slice aa na ca, .slice p1 n1 c1, .slice p2 n2 c2, .slice p3 n3 c3, .slice p4 n4 c4, .int .i64 mm.ki, .string mm.mn, .string mm.mv, .slice sa sn sc, .int .i64 mm.er] 34) := ⟨_, rfl⟩
          have b3 : Below w2.heap.size w2 w3 := by rw [hw3]; exact below1
          have x3 : w3.heap[w2.heap.size]? = some (.cells #[.int .i64 mm.k, .int .i64 mm.f, .int .i64 mm.to, .int .i64 mm.g, .int .i64 mm.n, .slice ae ne ce, .slice aa na ca, .slice p1 n1 c1, .slice p2 n2 c2, .slice p3 n3 c3, .slice p4 n4 c4, .int .i64 mm.ki, .string mm.mn, .string mm.mv, .slice sa sn sc, .int .i64 mm.er] 34) := by rw [hw3]; exact heap_alloc_new w2 _
          have B3 := Lib.hid (b2.trans (b3.mono b2.size))
          have R3 := Lib.hid (h2.next b3)
          have M3 := msgRel_steady _ _ _ _ _ _ hm2 b3 b3.size
          have HX3 : Hid (∀ W, Below w3.heap.size w3 W → W.heap[w2.heap.size]? = some (.cells #[.int .i64 mm.k, .int .i64 mm.f, .int .i64 mm.to, .int .i64 mm.g, .int .i64 mm.n, .slice ae ne ce, .slice aa na ca, .slice p1 n1 c1, .slice p2 n2 c2, .slice p3 n3 c3, .slice p4 n4 c4, .int .i64 mm.ki, .string mm.mn, .string mm.mv, .slice sa sn sc, .int .i64 mm.er] 34) ∧ msgRel W W.heap.size (#[.int .i64 mm.k, .int .i64 mm.f, .int .i64 mm.to, .int .i64 mm.g, .int .i64 mm.n, .slice ae ne ce, .slice aa na ca, .slice p1 n1 c1, .slice p2 n2 c2, .slice p3 n3 c3, .slice p4 n4 c4, .int .i64 mm.ki, .string mm.mn, .string mm.mv, .slice sa sn sc, .int .i64 mm.er]).toList mm) := fun W hW => ⟨(hW.block _ (lt_of_block x3)).trans x3, msgRel_steady _ _ _ _ _ _ M3 hW hW.size⟩
          have HS3 : Hid (∀ (W : World) (c' : List Value), Below w3.heap.size w3 W → msgRel W W.heap.size c' mm → Calls Try.prog 18 #[.agg #[.int .i64 mm.k, .int .i64 mm.f, .int .i64 mm.to, .int .i64 mm.g, .int .i64 mm.n, .slice ae ne ce, .slice aa na ca, .slice p1 n1 c1, .slice p2 n2 c2, .slice p3 n3 c3, .slice p4 n4 c4, .int .i64 mm.ki, .string mm.mn, .string mm.mv, .slice sa sn sc, .int .i64 mm.er], .agg c'.toArray] W (Said true W)) := fun W c' hW h' => same_eq mm _ c' W (HX3.out W hW).2 h'
          have HQ : Hid (∀ W, Below w3.heap.size w3 W → W.cell? ⟨gq, ja, none⟩ = some (.int .i64 zz) ∧ W.cell? ⟨wo.heap.size, 0, none⟩ = some (.int .i64 1)) := fun W hW => ⟨s9 W (B3.out.trans (hW.mono B3.out.size)), boxc (X1.out W (B3.out.trans (hW.mono B3.out.size))) 0 _ rfl⟩
          have y10 : (w2.alloc (.cells #[.int .i64 mm.k, .int .i64 mm.f, .int .i64 mm.to, .int .i64 mm.g, .int .i64 mm.n, .slice ae ne ce, .slice aa na ca, .slice p1 n1 c1, .slice p2 n2 c2, .slice p3 n3 c3, .slice p4 n4 c4, .int .i64 mm.ki, .string mm.mn, .string mm.mv, .slice sa sn sc, .int .i64 mm.er] 34)).cell? ⟨wo.heap.size, 0, none⟩ = some (.int .i64 1) := by rw [← hw3]; exact (HQ.out _ (Below.refl _ _)).2
          clear hm2 h2 b2 b3 x3 M3 z0 z1 hmz hmm hzz s9
          go_wp2_with fail
          rw [← hw3]
          clear hw3 y10
          refine wp_flow 13 (fun _ => 1000) (fun ww => RowKit.Below w3.heap.size w3 ww) (fun _ w w' => (fun (w w' : World) => RowKit.Below w.heap.size w w') w w') (fun kF vF wF => match kF with | 0 => (vF = .pointer (some ⟨wo.heap.size, 0, none⟩)) | 1 => (vF = .int .i64 1) | 2 => (vF = .bool true) | 3 => (vF = .bool true) | 4 => (vF = .agg #[.int .i64 mm.k, .int .i64 mm.f, .int .i64 mm.to, .int .i64 mm.g, .int .i64 mm.n, .slice ae ne ce, .slice aa na ca, .slice p1 n1 c1, .slice p2 n2 c2, .slice p3 n3 c3, .slice p4 n4 c4, .int .i64 mm.ki, .string mm.mn, .string mm.mv, .slice sa sn sc, .int .i64 mm.er]) | 5 => (vF = .slice (some ⟨gq, 0, none⟩) m wc) | 6 => (vF = .int .i64 (ja : Int)) | 7 => (vF = .pointer (some ⟨gq, ja, none⟩)) | 8 => (vF = .int .i64 zz) | 9 => (∃ c, vF = .agg (List.toArray c) ∧ msgRel wF wF.heap.size c mm) | 10 => (vF = .bool true) | 11 => (vF = .bool false) | 12 => (vF = .bool false) | _ => True) (fun _ _ _ _ => True) (by kernel_rfl) (by kernel_rfl) ?_ ?_ ?_ ?_ ?_
          · exact (Below.refl _ _).drew
          · intro iF wF1 wF2 hR hT; exact hR.trans (hT.mono hR.size)
          · intro kF hkF iF hiF hne hdd hanc hdan vF wF1 wF2 h hT
            rcases (by omega : kF = 0 ∨ kF = 1 ∨ kF = 2 ∨ kF = 3 ∨ kF = 4 ∨ kF = 5 ∨ kF = 6 ∨ kF = 7 ∨ kF = 8 ∨ kF = 9 ∨ kF = 10 ∨ kF = 11 ∨ kF = 12) with rfl | rfl | rfl | rfl | rfl | rfl | rfl | rfl | rfl | rfl | rfl | rfl | rfl
            · exact h
            · exact h
            · exact h
            · exact h
            · exact h
            · exact h
            · exact h
            · exact h
            · exact h
            · have h : (∃ c, vF = .agg (List.toArray c) ∧ msgRel wF1 wF1.heap.size c mm) := h
              show (∃ c, vF = .agg (List.toArray c) ∧ msgRel wF2 wF2.heap.size c mm)
              have hT : (fun (w w' : World) => RowKit.Below w.heap.size w w') wF1 wF2 := hT
              simp only at hT
              obtain ⟨c, e, hr⟩ := h
              exact ⟨c, e, msgRel_steady _ _ _ _ _ _ hr hT hT.size⟩
            · exact h
            · exact h
            · exact h
          · refine FlowAll.cons ?_ ?_
            · intro xF w4 hR hd K hK
              clear hd
              simp only [List.take_succ_cons, List.take_zero, fillOf, Act.put, List.setIfInBounds_toArray, List.set_cons_zero, List.set_cons_succ, Nat.reduceAdd, Nat.zero_add] at hK ⊢
              obtain hbR := id hR
              rw [if_pos (by rfl)]
              go_simp
              exact hK.out _ _ (Below.refl _ _) (rfl) (fun _ _ _ => ⟨trivial, trivial⟩)
            refine FlowAll.cons ?_ ?_
            · intro xF w4 hR hd K hK
              have dd0 : ((xF 0) = .pointer (some ⟨wo.heap.size, 0, none⟩)) := hd 0 (by kernel_rfl)
              clear hd
              simp only [List.take_succ_cons, List.take_zero, fillOf, Act.put, List.setIfInBounds_toArray, List.set_cons_zero, List.set_cons_succ, Nat.reduceAdd, Nat.zero_add] at hK ⊢
              try generalize xF 0 = yy0 at *
              obtain rfl := dd0
              obtain hbR := id hR
              have q0 := (HQ.out _ hR).2
              rw [if_pos (by rfl)]
              go_simp
              exact hK.out _ _ (Below.refl _ _) (rfl) (fun _ _ _ => ⟨trivial, trivial⟩)
            refine FlowAll.cons ?_ ?_
            · intro xF w4 hR hd K hK
              have dd1 : ((xF 1) = .int .i64 1) := hd 1 (by kernel_rfl)
              clear hd
              simp only [List.take_succ_cons, List.take_zero, fillOf, Act.put, List.setIfInBounds_toArray, List.set_cons_zero, List.set_cons_succ, Nat.reduceAdd, Nat.zero_add] at hK ⊢
              try generalize xF 1 = yy1 at *
              obtain rfl := dd1
              obtain hbR := id hR
              rw [if_pos (by rfl)]
              go_simp
              exact hK.out _ _ (Below.refl _ _) (rfl) (fun _ _ _ => ⟨trivial, trivial⟩)
            refine FlowAll.cons ?_ ?_
            · intro xF w4 hR hd K hK
              have dd2 : ((xF 2) = .bool true) := hd 2 (by kernel_rfl)
              clear hd
              simp only [List.take_succ_cons, List.take_zero, fillOf, Act.put, List.setIfInBounds_toArray, List.set_cons_zero, List.set_cons_succ, Nat.reduceAdd, Nat.zero_add] at hK ⊢
              try generalize xF 2 = yy2 at *
              obtain rfl := dd2
              obtain hbR := id hR
              rw [if_pos (by rfl)]
              go_simp
              exact hK.out _ _ (Below.refl _ _) (rfl) (fun _ _ _ => ⟨trivial, trivial⟩)
            refine FlowAll.cons ?_ ?_
            · intro xF w4 hR hd K hK
              have dd3 : ((xF 3) = .bool true) := hd 3 (by kernel_rfl)
              clear hd
              simp only [List.take_succ_cons, List.take_zero, fillOf, Act.put, List.setIfInBounds_toArray, List.set_cons_zero, List.set_cons_succ, Nat.reduceAdd, Nat.zero_add] at hK ⊢
              try generalize xF 3 = yy3 at *
              obtain rfl := dd3
              obtain hbR := id hR
              have hxa := (HX3.out _ hR).1
              have q0 := boxc hxa 0 _ rfl
              have q1 := boxc hxa 1 _ rfl
              have q2 := boxc hxa 2 _ rfl
              have q3 := boxc hxa 3 _ rfl
              have q4 := boxc hxa 4 _ rfl
              have q5 := boxc hxa 5 _ rfl
              have q6 := boxc hxa 6 _ rfl
              have q7 := boxc hxa 7 _ rfl
              have q8 := boxc hxa 8 _ rfl
              have q9 := boxc hxa 9 _ rfl
              have q10 := boxc hxa 10 _ rfl
              have q11 := boxc hxa 11 _ rfl
              have q12 := boxc hxa 12 _ rfl
              have q13 := boxc hxa 13 _ rfl
              have q14 := boxc hxa 14 _ rfl
              have q15 := boxc hxa 15 _ rfl
              clear hxa
              rw [if_pos (by rfl)]
              go_simp
              exact hK.out _ _ (Below.refl _ _) (rfl) (fun _ _ _ => ⟨trivial, trivial⟩)
            refine FlowAll.cons ?_ ?_
            · intro xF w4 hR hd K hK
              have dd3 : ((xF 3) = .bool true) := hd 3 (by kernel_rfl)
              clear hd
              simp only [List.take_succ_cons, List.take_zero, fillOf, Act.put, List.setIfInBounds_toArray, List.set_cons_zero, List.set_cons_succ, Nat.reduceAdd, Nat.zero_add] at hK ⊢
              try generalize xF 3 = yy3 at *
              obtain rfl := dd3
              obtain hbR := id hR
              rw [if_pos (by rfl)]
              go_simp
              exact hK.out _ _ (Below.refl _ _) (rfl) (fun _ _ _ => ⟨trivial, trivial⟩)
            refine FlowAll.cons ?_ ?_
            · intro xF w4 hR hd K hK
              have dd3 : ((xF 3) = .bool true) := hd 3 (by kernel_rfl)
              clear hd
              simp only [List.take_succ_cons, List.take_zero, fillOf, Act.put, List.setIfInBounds_toArray, List.set_cons_zero, List.set_cons_succ, Nat.reduceAdd, Nat.zero_add] at hK ⊢
              try generalize xF 3 = yy3 at *
              obtain rfl := dd3
              obtain hbR := id hR
              rw [if_pos (by rfl)]
              go_simp
              exact hK.out _ _ (Below.refl _ _) (rfl) (fun _ _ _ => ⟨trivial, trivial⟩)
            refine FlowAll.cons ?_ ?_
            · intro xF w4 hR hd K hK
              have dd3 : ((xF 3) = .bool true) := hd 3 (by kernel_rfl)
              have dd5 : ((xF 5) = .slice (some ⟨gq, 0, none⟩) m wc) := hd 5 (by kernel_rfl)
              have dd6 : ((xF 6) = .int .i64 (ja : Int)) := hd 6 (by kernel_rfl)
              clear hd
              simp only [List.take_succ_cons, List.take_zero, fillOf, Act.put, List.setIfInBounds_toArray, List.set_cons_zero, List.set_cons_succ, Nat.reduceAdd, Nat.zero_add] at hK ⊢
              try generalize xF 3 = yy3 at *
              try generalize xF 5 = yy5 at *
              try generalize xF 6 = yy6 at *
              obtain rfl := dd3
              obtain rfl := dd5
              obtain rfl := dd6
              obtain hbR := id hR
              rw [if_pos (by rfl)]
              go_simp
              exact hK.out _ _ (Below.refl _ _) (rfl) (fun _ _ _ => ⟨trivial, trivial⟩)
            refine FlowAll.cons ?_ ?_
            · intro xF w4 hR hd K hK
              have dd3 : ((xF 3) = .bool true) := hd 3 (by kernel_rfl)
              have dd7 : ((xF 7) = .pointer (some ⟨gq, ja, none⟩)) := hd 7 (by kernel_rfl)
              clear hd
              simp only [List.take_succ_cons, List.take_zero, fillOf, Act.put, List.setIfInBounds_toArray, List.set_cons_zero, List.set_cons_succ, Nat.reduceAdd, Nat.zero_add] at hK ⊢
              try generalize xF 3 = yy3 at *
              try generalize xF 7 = yy7 at *
              obtain rfl := dd3
              obtain rfl := dd7
              obtain hbR := id hR
              have q0 := (HQ.out _ hR).1
              rw [if_pos (by rfl)]
              go_simp
              exact hK.out _ _ (Below.refl _ _) (rfl) (fun _ _ _ => ⟨trivial, trivial⟩)
            refine FlowAll.cons ?_ ?_
            · intro xF w4 hR hd K hK
              have dd3 : ((xF 3) = .bool true) := hd 3 (by kernel_rfl)
              have dd8 : ((xF 8) = .int .i64 zz) := hd 8 (by kernel_rfl)
              clear hd
              simp only [List.take_succ_cons, List.take_zero, fillOf, Act.put, List.setIfInBounds_toArray, List.set_cons_zero, List.set_cons_succ, Nat.reduceAdd, Nat.zero_add] at hK ⊢
              try generalize xF 3 = yy3 at *
              try generalize xF 8 = yy8 at *
              obtain rfl := dd3
              obtain rfl := dd8
              obtain hbR := id hR
              rw [if_pos (by rfl)]
              go_simp
              (go_at_call 23; (with_reducible refine (HMQ.out _).mono ?_); rintro e wK ⟨cK, rfl, hrK, hbK⟩)
              try go_wp2_with fail
              exact hK.out _ _ (hbK) (⟨cK, rfl, hrK⟩) (fun _ _ _ => ⟨trivial, trivial⟩)
            refine FlowAll.cons ?_ ?_
            · intro xF w4 hR hd K hK
              have dd3 : ((xF 3) = .bool true) := hd 3 (by kernel_rfl)
              have dd4 : ((xF 4) = .agg #[.int .i64 mm.k, .int .i64 mm.f, .int .i64 mm.to, .int .i64 mm.g, .int .i64 mm.n, .slice ae ne ce, .slice aa na ca, .slice p1 n1 c1, .slice p2 n2 c2, .slice p3 n3 c3, .slice p4 n4 c4, .int .i64 mm.ki, .string mm.mn, .string mm.mv, .slice sa sn sc, .int .i64 mm.er]) := hd 4 (by kernel_rfl)
              have dd9 : (∃ c, (xF 9) = .agg (List.toArray c) ∧ msgRel w4 w4.heap.size c mm) := hd 9 (by kernel_rfl)
              clear hd
              simp only [List.take_succ_cons, List.take_zero, fillOf, Act.put, List.setIfInBounds_toArray, List.set_cons_zero, List.set_cons_succ, Nat.reduceAdd, Nat.zero_add] at hK ⊢
              try generalize xF 3 = yy3 at *
              try generalize xF 4 = yy4 at *
              try generalize xF 9 = yy9 at *
              obtain rfl := dd3
              obtain rfl := dd4
              obtain ⟨c9, rfl, hr9⟩ := dd9
              obtain hbR := id hR
              rw [if_pos (by rfl)]
              go_simp
              (go_at_call 18; (with_reducible refine (HS3.out _ c9 hR hr9).mono ?_); rintro e wK ⟨rfl, hbK⟩)
              try go_wp2_with fail
              exact hK.out _ _ (hbK) (rfl) (fun _ _ _ => ⟨trivial, trivial⟩)
            refine FlowAll.cons ?_ ?_
            · intro xF w4 hR hd K hK
              have dd3 : ((xF 3) = .bool true) := hd 3 (by kernel_rfl)
              have dd10 : ((xF 10) = .bool true) := hd 10 (by kernel_rfl)
              clear hd
              simp only [List.take_succ_cons, List.take_zero, fillOf, Act.put, List.setIfInBounds_toArray, List.set_cons_zero, List.set_cons_succ, Nat.reduceAdd, Nat.zero_add] at hK ⊢
              try generalize xF 3 = yy3 at *
              try generalize xF 10 = yy10 at *
              obtain rfl := dd3
              obtain rfl := dd10
              obtain hbR := id hR
              rw [if_pos (by rfl)]
              go_simp
              exact hK.out _ _ (Below.refl _ _) (rfl) (fun _ _ _ => ⟨trivial, trivial⟩)
            refine FlowAll.cons ?_ ?_
            · intro xF w4 hR hd K hK
              have dd3 : ((xF 3) = .bool true) := hd 3 (by kernel_rfl)
              have dd11 : ((xF 11) = .bool false) := hd 11 (by kernel_rfl)
              clear hd
              simp only [List.take_succ_cons, List.take_zero, fillOf, Act.put, List.setIfInBounds_toArray, List.set_cons_zero, List.set_cons_succ, Nat.reduceAdd, Nat.zero_add] at hK ⊢
              try generalize xF 3 = yy3 at *
              try generalize xF 11 = yy11 at *
              obtain rfl := dd3
              obtain rfl := dd11
              obtain hbR := id hR
              rw [if_pos (by rfl)]
              go_simp
              exact hK.out _ _ (Below.refl _ _) (rfl) (fun _ _ _ => ⟨trivial, trivial⟩)
            exact FlowAll.nil
          intro xF w4 hR hF hP
          clear hP
          have dd0 : ((xF 0) = .pointer (some ⟨wo.heap.size, 0, none⟩)) := hF 0 (by omega) (by decide)
          have dd1 : ((xF 1) = .int .i64 1) := hF 1 (by omega) (by decide)
          have dd2 : ((xF 2) = .bool true) := hF 2 (by omega) (by decide)
          have dd3 : ((xF 3) = .bool true) := hF 3 (by omega) (by decide)
          have dd4 : ((xF 4) = .agg #[.int .i64 mm.k, .int .i64 mm.f, .int .i64 mm.to, .int .i64 mm.g, .int .i64 mm.n, .slice ae ne ce, .slice aa na ca, .slice p1 n1 c1, .slice p2 n2 c2, .slice p3 n3 c3, .slice p4 n4 c4, .int .i64 mm.ki, .string mm.mn, .string mm.mv, .slice sa sn sc, .int .i64 mm.er]) := hF 4 (by omega) (by decide)
          have dd5 : ((xF 5) = .slice (some ⟨gq, 0, none⟩) m wc) := hF 5 (by omega) (by decide)
          have dd6 : ((xF 6) = .int .i64 (ja : Int)) := hF 6 (by omega) (by decide)
          have dd7 : ((xF 7) = .pointer (some ⟨gq, ja, none⟩)) := hF 7 (by omega) (by decide)
          have dd8 : ((xF 8) = .int .i64 zz) := hF 8 (by omega) (by decide)
          have dd9 : (∃ c, (xF 9) = .agg (List.toArray c) ∧ msgRel w4 w4.heap.size c mm) := hF 9 (by omega) (by decide)
          have dd10 : ((xF 10) = .bool true) := hF 10 (by omega) (by decide)
          have dd11 : ((xF 11) = .bool false) := hF 11 (by omega) (by decide)
          have dd12 : ((xF 12) = .bool false) := hF 12 (by omega) (by decide)
          clear hF
          simp only [List.take_succ_cons, List.take_zero, List.drop_succ_cons, List.drop_zero, fillOf, Act.put, List.setIfInBounds_toArray, List.set_cons_zero, List.set_cons_succ, Nat.reduceAdd, Nat.zero_add]
          try generalize xF 0 = yy0 at *
          try generalize xF 1 = yy1 at *
          try generalize xF 2 = yy2 at *
          try generalize xF 3 = yy3 at *
          try generalize xF 4 = yy4 at *
          try generalize xF 5 = yy5 at *
          try generalize xF 6 = yy6 at *
          try generalize xF 7 = yy7 at *
          try generalize xF 8 = yy8 at *
          try generalize xF 9 = yy9 at *
          try generalize xF 10 = yy10 at *
          try generalize xF 11 = yy11 at *
          try generalize xF 12 = yy12 at *
          clear xF
          obtain rfl := dd0
          obtain rfl := dd1
          obtain rfl := dd2
          obtain rfl := dd3
          obtain rfl := dd4
          obtain rfl := dd5
          obtain rfl := dd6
          obtain rfl := dd7
          obtain rfl := dd8
          obtain ⟨c9, rfl, hr9⟩ := dd9
          obtain rfl := dd10
          obtain rfl := dd11
          obtain rfl := dd12
          have hRE := Lib.hid hR
          clear hR
          replace R3 := Lib.hid (R3.out.next hRE.out)
          replace B3 := Lib.hid (B3.out.trans (hRE.out.mono B3.out.size))
          have HZC : Hid (∀ W, Below w4.heap.size w4 W → ∀ (j : Nat) u, (at_.i64s Z)[j]? = some u → W.cell? ⟨gq, j, none⟩ = some u) := fun W hW => HZQ.out W (B3.out.trans (hW.mono B3.out.size))
          clear hRE HQ HX3 HS3 HMQ HS2
          go_wp2
          refine wp_flow 10 (fun kF => match kF with | 0 => 4 | 4 => 9 | _ => 1000) (fun ww => RowKit.Below w4.heap.size w4 ww) (fun i w w' => if i = 9 then (fun (w w' : World) => RowKit.Below w4.heap.size w w') w w' else if i = 4 then (fun (w w' : World) => RowKit.Below w4.heap.size w w') w w' else (fun (w w' : World) => RowKit.Below w.heap.size w w') w w') (fun kF vF wF => match kF with | 0 => (∃ g, vF = .slice (some ⟨g, 0, none⟩) 0 0 ∧ wF.ownsRow w4.heap.size 3 1 (.slice (some ⟨g, 0, none⟩) 0 0) 0 []) | 1 => (vF = .slice (some ⟨gq, 0, none⟩) m wc) | 2 => (vF = .int .i64 (ja : Int)) | 3 => (∃ sp cp, vF = .slice sp ja cp ∧ (0 < ja → sp = some ⟨gq, 0, none⟩) ∧ sp ≠ none) | 4 => (∃ ao cp, vF = .slice ao ja cp ∧ wF.ownsRow w4.heap.size 3 1 (.slice ao ja cp) ja (at_.i64s (Z.take ja))) | 5 => (vF = .slice (some ⟨gq, 0, none⟩) m wc) | 6 => (vF = .int .i64 (ja : Int)) | 7 => (vF = .int .i64 ((ja : Int) + 1)) | 8 => (∃ sp cp, vF = .slice sp (m - (ja + 1)) cp ∧ (0 < m - (ja + 1) → sp = some ⟨gq, ja + 1, none⟩) ∧ sp ≠ none) | 9 => (∃ ao cp, vF = .slice ao mx cp ∧ wF.ownsRow w4.heap.size 3 1 (.slice ao mx cp) mx (at_.i64s Zx)) | _ => True) (fun _ _ _ _ => True) (by kernel_rfl) (by kernel_rfl) ?_ ?_ ?_ ?_ ?_
          · exact (Below.refl _ _).drew
          · intro iF wF1 wF2 hR hT
            have hT : (fun i w w' => if i = 9 then (fun (w w' : World) => RowKit.Below w4.heap.size w w') w w' else if i = 4 then (fun (w w' : World) => RowKit.Below w4.heap.size w w') w w' else (fun (w w' : World) => RowKit.Below w.heap.size w w') w w') iF wF1 wF2 := hT
            simp only at hT
            by_cases hi9 : iF = 9
            · rw [if_pos hi9] at hT; exact hR.trans hT
            rw [if_neg hi9] at hT
            by_cases hi4 : iF = 4
            · rw [if_pos hi4] at hT; exact hR.trans hT
            rw [if_neg hi4] at hT
            exact hR.trans (hT.mono hR.size)
          · intro kF hkF iF hiF hne hdd hanc hdan vF wF1 wF2 h hT
            rcases (by omega : kF = 0 ∨ kF = 1 ∨ kF = 2 ∨ kF = 3 ∨ kF = 4 ∨ kF = 5 ∨ kF = 6 ∨ kF = 7 ∨ kF = 8 ∨ kF = 9) with rfl | rfl | rfl | rfl | rfl | rfl | rfl | rfl | rfl | rfl
            · have h : (∃ g, vF = .slice (some ⟨g, 0, none⟩) 0 0 ∧ wF1.ownsRow w4.heap.size 3 1 (.slice (some ⟨g, 0, none⟩) 0 0) 0 []) := h
              show (∃ g, vF = .slice (some ⟨g, 0, none⟩) 0 0 ∧ wF2.ownsRow w4.heap.size 3 1 (.slice (some ⟨g, 0, none⟩) 0 0) 0 [])
              have hT : (fun i w w' => if i = 9 then (fun (w w' : World) => RowKit.Below w4.heap.size w w') w w' else if i = 4 then (fun (w w' : World) => RowKit.Below w4.heap.size w w') w w' else (fun (w w' : World) => RowKit.Below w.heap.size w w') w w') iF wF1 wF2 := hT
              simp only at hT
              by_cases hi9 : iF = 9
              · subst hi9; exact (anc_no hdan (by kernel_rfl)).elim
              rw [if_neg hi9] at hT
              by_cases hi4 : iF = 4
              · exact absurd hi4.symm hdd
              rw [if_neg hi4] at hT
              obtain ⟨g, e, ho⟩ := h
              exact ⟨g, e, own_stay ho hT⟩
            · exact h
            · exact h
            · exact h
            · have h : (∃ ao cp, vF = .slice ao ja cp ∧ wF1.ownsRow w4.heap.size 3 1 (.slice ao ja cp) ja (at_.i64s (Z.take ja))) := h
              show (∃ ao cp, vF = .slice ao ja cp ∧ wF2.ownsRow w4.heap.size 3 1 (.slice ao ja cp) ja (at_.i64s (Z.take ja)))
              have hT : (fun i w w' => if i = 9 then (fun (w w' : World) => RowKit.Below w4.heap.size w w') w w' else if i = 4 then (fun (w w' : World) => RowKit.Below w4.heap.size w w') w w' else (fun (w w' : World) => RowKit.Below w.heap.size w w') w w') iF wF1 wF2 := hT
              simp only at hT
              by_cases hi9 : iF = 9
              · exact absurd hi9.symm hdd
              rw [if_neg hi9] at hT
              by_cases hi4 : iF = 4
              · exact absurd hi4.symm hne
              rw [if_neg hi4] at hT
              obtain ⟨ao, cp, e, ho⟩ := h
              exact ⟨ao, cp, e, own_stay ho hT⟩
            · exact h
            · exact h
            · exact h
            · exact h
            · have h : (∃ ao cp, vF = .slice ao mx cp ∧ wF1.ownsRow w4.heap.size 3 1 (.slice ao mx cp) mx (at_.i64s Zx)) := h
              show (∃ ao cp, vF = .slice ao mx cp ∧ wF2.ownsRow w4.heap.size 3 1 (.slice ao mx cp) mx (at_.i64s Zx))
              have hT : (fun i w w' => if i = 9 then (fun (w w' : World) => RowKit.Below w4.heap.size w w') w w' else if i = 4 then (fun (w w' : World) => RowKit.Below w4.heap.size w w') w w' else (fun (w w' : World) => RowKit.Below w.heap.size w w') w w') iF wF1 wF2 := hT
              simp only at hT
              by_cases hi9 : iF = 9
              · exact absurd hi9.symm hne
              rw [if_neg hi9] at hT
              by_cases hi4 : iF = 4
              · subst hi4; exact (anc_no hanc (by kernel_rfl)).elim
              rw [if_neg hi4] at hT
              obtain ⟨ao, cp, e, ho⟩ := h
              exact ⟨ao, cp, e, own_stay ho hT⟩
          · refine FlowAll.cons ?_ ?_
            · intro xF wx hR hd K hK
              clear hd
              simp only [List.take_succ_cons, List.take_zero, fillOf, Act.put, List.setIfInBounds_toArray, List.set_cons_zero, List.set_cons_succ, Nat.reduceAdd, Nat.zero_add] at hK ⊢
              obtain hbR := id hR
              rw [if_pos (by rfl)]
              go_simp
              exact hK.out _ _ (below1) (⟨_, rfl, own_none _ hR.size 1⟩) (fun _ _ _ => ⟨trivial, trivial⟩)
            refine FlowAll.cons ?_ ?_
            · intro xF wx hR hd K hK
              clear hd
              simp only [List.take_succ_cons, List.take_zero, fillOf, Act.put, List.setIfInBounds_toArray, List.set_cons_zero, List.set_cons_succ, Nat.reduceAdd, Nat.zero_add] at hK ⊢
              obtain hbR := id hR
              rw [if_pos (by rfl)]
              go_simp
              exact hK.out _ _ (Below.refl _ _) (rfl) (fun _ _ _ => ⟨trivial, trivial⟩)
            refine FlowAll.cons ?_ ?_
            · intro xF wx hR hd K hK
              clear hd
              simp only [List.take_succ_cons, List.take_zero, fillOf, Act.put, List.setIfInBounds_toArray, List.set_cons_zero, List.set_cons_succ, Nat.reduceAdd, Nat.zero_add] at hK ⊢
              obtain hbR := id hR
              rw [if_pos (by rfl)]
              go_simp
              exact hK.out _ _ (Below.refl _ _) (rfl) (fun _ _ _ => ⟨trivial, trivial⟩)
            refine FlowAll.cons ?_ ?_
            · intro xF wx hR hd K hK
              have dd1 : ((xF 1) = .slice (some ⟨gq, 0, none⟩) m wc) := hd 1 (by kernel_rfl)
              have dd2 : ((xF 2) = .int .i64 (ja : Int)) := hd 2 (by kernel_rfl)
              clear hd
              simp only [List.take_succ_cons, List.take_zero, fillOf, Act.put, List.setIfInBounds_toArray, List.set_cons_zero, List.set_cons_succ, Nat.reduceAdd, Nat.zero_add] at hK ⊢
              try generalize xF 1 = yy1 at *
              try generalize xF 2 = yy2 at *
              obtain rfl := dd1
              obtain rfl := dd2
              obtain hbR := id hR
              have e1 : ja ≤ wc := by omega
              rw [if_pos (by rfl)]
              go_simp
              refine hK.out _ _ ?_ ?_ ?_
              · exact Below.refl _ _
              · refine ⟨_, _, rfl, (fun h => by first | rfl | (rw [if_neg (by omega)]) | simp), (by first | (intro h; cases h; done) | (split <;> simp))⟩
              · exact fun _ _ _ => ⟨trivial, trivial⟩
            refine FlowAll.cons ?_ ?_
            · intro xF wx hR hd K hK
              have dd0 : (∃ g, (xF 0) = .slice (some ⟨g, 0, none⟩) 0 0 ∧ wx.ownsRow w4.heap.size 3 1 (.slice (some ⟨g, 0, none⟩) 0 0) 0 []) := hd 0 (by kernel_rfl)
              have dd3 : (∃ sp cp, (xF 3) = .slice sp ja cp ∧ (0 < ja → sp = some ⟨gq, 0, none⟩) ∧ sp ≠ none) := hd 3 (by kernel_rfl)
              clear hd
              simp only [List.take_succ_cons, List.take_zero, fillOf, Act.put, List.setIfInBounds_toArray, List.set_cons_zero, List.set_cons_succ, Nat.reduceAdd, Nat.zero_add] at hK ⊢
              try generalize xF 0 = yy0 at *
              try generalize xF 3 = yy3 at *
              obtain ⟨g0, rfl, ho0⟩ := dd0
              obtain ⟨sp3, cp3, rfl, hsp3, hsn3⟩ := dd3
              obtain hbR := id hR
              rw [if_pos (by rfl)]
              refine kit.wp_of_list (fun Q' hQ' => ?_)
              have hN := sub_news (HZC.out _ hR) 0 (ja) hsp3
              refine kit.appN (.tmp 95) (.tmp 98) 47 rfl rfl w4.heap.size Try.underlying47 infoInt rfl (by decide) (by decide) ho0 rfl (at_.i64s ((Z.drop 0).take (ja))) rfl (by rw [at_.i64s_len, List.length_take, List.length_drop, ← HZL.out]; omega) (fun e => absurd e hsn3) hN at_.i64s_one (by omega) hR.size ?_
              intro vN wN hownN hbN
              refine hQ' _ _ ?_
              rw [Nat.zero_add, List.nil_append, List.drop_zero] at hownN
              obtain ⟨aoN, cpN, rfl⟩ := own_form4 hownN
              simp only [Act.put, List.setIfInBounds_toArray, List.set_cons_zero, List.set_cons_succ]
              exact hK.out _ _ (hbN) (⟨aoN, cpN, rfl, hownN⟩) (fun _ _ _ => ⟨trivial, trivial⟩)
            refine FlowAll.cons ?_ ?_
            · intro xF wx hR hd K hK
              clear hd
              simp only [List.take_succ_cons, List.take_zero, fillOf, Act.put, List.setIfInBounds_toArray, List.set_cons_zero, List.set_cons_succ, Nat.reduceAdd, Nat.zero_add] at hK ⊢
              obtain hbR := id hR
              rw [if_pos (by rfl)]
              go_simp
              exact hK.out _ _ (Below.refl _ _) (rfl) (fun _ _ _ => ⟨trivial, trivial⟩)
            refine FlowAll.cons ?_ ?_
            · intro xF wx hR hd K hK
              clear hd
              simp only [List.take_succ_cons, List.take_zero, fillOf, Act.put, List.setIfInBounds_toArray, List.set_cons_zero, List.set_cons_succ, Nat.reduceAdd, Nat.zero_add] at hK ⊢
              obtain hbR := id hR
              rw [if_pos (by rfl)]
              go_simp
              exact hK.out _ _ (Below.refl _ _) (rfl) (fun _ _ _ => ⟨trivial, trivial⟩)
            refine FlowAll.cons ?_ ?_
            · intro xF wx hR hd K hK
              have dd6 : ((xF 6) = .int .i64 (ja : Int)) := hd 6 (by kernel_rfl)
              clear hd
              simp only [List.take_succ_cons, List.take_zero, fillOf, Act.put, List.setIfInBounds_toArray, List.set_cons_zero, List.set_cons_succ, Nat.reduceAdd, Nat.zero_add] at hK ⊢
              try generalize xF 6 = yy6 at *
              obtain rfl := dd6
              obtain hbR := id hR
              have hjw : IntKind.i64.wrap ((ja : Int) + 1) = (ja : Int) + 1 := IntWalk.i64_in _ (by omega)
              rw [if_pos (by rfl)]
              go_simp
              exact hK.out _ _ (Below.refl _ _) (rfl) (fun _ _ _ => ⟨trivial, trivial⟩)
            refine FlowAll.cons ?_ ?_
            · intro xF wx hR hd K hK
              have dd5 : ((xF 5) = .slice (some ⟨gq, 0, none⟩) m wc) := hd 5 (by kernel_rfl)
              have dd7 : ((xF 7) = .int .i64 ((ja : Int) + 1)) := hd 7 (by kernel_rfl)
              clear hd
              simp only [List.take_succ_cons, List.take_zero, fillOf, Act.put, List.setIfInBounds_toArray, List.set_cons_zero, List.set_cons_succ, Nat.reduceAdd, Nat.zero_add] at hK ⊢
              try generalize xF 5 = yy5 at *
              try generalize xF 7 = yy7 at *
              obtain rfl := dd5
              obtain rfl := dd7
              obtain hbR := id hR
              have e1 : (0 : Int) ≤ (ja : Int) + 1 := by omega
              have e2 : (ja : Int) + 1 ≤ (m : Int) := by omega
              have e3 : ja + 1 ≤ m := by omega
              rw [if_pos (by rfl)]
              go_simp
              refine hK.out _ _ ?_ ?_ ?_
              · exact Below.refl _ _
              · refine ⟨_, _, rfl, (fun h => by first | rfl | (rw [if_neg (by omega)]) | simp), (by first | (intro h; cases h; done) | (split <;> simp))⟩
              · exact fun _ _ _ => ⟨trivial, trivial⟩
            refine FlowAll.cons ?_ ?_
            · intro xF wx hR hd K hK
              have dd4 : (∃ ao cp, (xF 4) = .slice ao ja cp ∧ wx.ownsRow w4.heap.size 3 1 (.slice ao ja cp) ja (at_.i64s (Z.take ja))) := hd 4 (by kernel_rfl)
              have dd8 : (∃ sp cp, (xF 8) = .slice sp (m - (ja + 1)) cp ∧ (0 < m - (ja + 1) → sp = some ⟨gq, ja + 1, none⟩) ∧ sp ≠ none) := hd 8 (by kernel_rfl)
              clear hd
              simp only [List.take_succ_cons, List.take_zero, fillOf, Act.put, List.setIfInBounds_toArray, List.set_cons_zero, List.set_cons_succ, Nat.reduceAdd, Nat.zero_add] at hK ⊢
              try generalize xF 4 = yy4 at *
              try generalize xF 8 = yy8 at *
              obtain ⟨ao4, cp4, rfl, ho4⟩ := dd4
              obtain ⟨sp8, cp8, rfl, hsp8, hsn8⟩ := dd8
              obtain hbR := id hR
              rw [if_pos (by rfl)]
              refine kit.wp_of_list (fun Q' hQ' => ?_)
              have hN := sub_news (HZC.out _ hR) (ja + 1) (m - (ja + 1)) hsp8
              refine kit.appN (.tmp 99) (.tmp 103) 47 rfl rfl w4.heap.size Try.underlying47 infoInt rfl (by decide) (by decide) ho4 rfl (at_.i64s ((Z.drop (ja + 1)).take (m - (ja + 1)))) rfl (by rw [at_.i64s_len, List.length_take, List.length_drop, ← HZL.out]; omega) (fun e => absurd e hsn8) hN at_.i64s_one (by omega) hR.size ?_
              intro vN wN hownN hbN
              refine hQ' _ _ ?_
              rw [HE2.out, ← HMX.out, HZXI.out] at hownN
              obtain ⟨aoN, cpN, rfl⟩ := own_form4 hownN
              simp only [Act.put, List.setIfInBounds_toArray, List.set_cons_zero, List.set_cons_succ]
              exact hK.out _ _ (hbN) (⟨aoN, cpN, rfl, hownN⟩) (fun _ _ _ => ⟨trivial, trivial⟩)
            exact FlowAll.nil
          intro xF wx hR hF hP
          clear hP
          have dd1 : ((xF 1) = .slice (some ⟨gq, 0, none⟩) m wc) := hF 1 (by omega) (by decide)
          have dd2 : ((xF 2) = .int .i64 (ja : Int)) := hF 2 (by omega) (by decide)
          have dd3 : (∃ sp cp, (xF 3) = .slice sp ja cp ∧ (0 < ja → sp = some ⟨gq, 0, none⟩) ∧ sp ≠ none) := hF 3 (by omega) (by decide)
          have dd5 : ((xF 5) = .slice (some ⟨gq, 0, none⟩) m wc) := hF 5 (by omega) (by decide)
          have dd6 : ((xF 6) = .int .i64 (ja : Int)) := hF 6 (by omega) (by decide)
          have dd7 : ((xF 7) = .int .i64 ((ja : Int) + 1)) := hF 7 (by omega) (by decide)
          have dd8 : (∃ sp cp, (xF 8) = .slice sp (m - (ja + 1)) cp ∧ (0 < m - (ja + 1) → sp = some ⟨gq, ja + 1, none⟩) ∧ sp ≠ none) := hF 8 (by omega) (by decide)
          have dd9 : (∃ ao cp, (xF 9) = .slice ao mx cp ∧ wx.ownsRow w4.heap.size 3 1 (.slice ao mx cp) mx (at_.i64s Zx)) := hF 9 (by omega) (by decide)
          clear hF
          simp only [List.take_succ_cons, List.take_zero, List.drop_succ_cons, List.drop_zero, fillOf, Act.put, List.setIfInBounds_toArray, List.set_cons_zero, List.set_cons_succ, Nat.reduceAdd, Nat.zero_add]
          try generalize xF 0 = yy0 at *
          try generalize xF 1 = yy1 at *
          try generalize xF 2 = yy2 at *
          try generalize xF 3 = yy3 at *
          try generalize xF 4 = yy4 at *
          try generalize xF 5 = yy5 at *
          try generalize xF 6 = yy6 at *
          try generalize xF 7 = yy7 at *
          try generalize xF 8 = yy8 at *
          try generalize xF 9 = yy9 at *
          clear xF
          obtain rfl := dd1
          obtain rfl := dd2
          obtain ⟨sp3, cp3, rfl, hsp3, hsn3⟩ := dd3
          obtain rfl := dd5
          obtain rfl := dd6
          obtain rfl := dd7
          obtain ⟨sp8, cp8, rfl, hsp8, hsn8⟩ := dd8
          obtain ⟨ao9, cp9, rfl, ho9⟩ := dd9
          have hRX := Lib.hid hR
          clear hR
          have KX : Hid (KeepS w wx (k + 1) a2 mx q2 ao9 cp9 Zx) := by
            show KeepS _ _ _ _ _ _ _ _ _
            exact K1.out.cut B3.out hin HZX.out HMX.out R3.out rfl hRX.out (own_base ho9 (Nat.le_trans HZ1.out B3.out.size))
          obtain ⟨lx, hlx⟩ : ∃ x, x = q2 := ⟨_, rfl⟩
          obtain ⟨cx, hcx⟩ : ∃ x, x = cp9 := ⟨_, rfl⟩
          obtain ⟨wax, hwax⟩ : ∃ x, x = ao9 := ⟨_, rfl⟩
          rw [← hlx, ← hcx, ← hwax] at KX ⊢
          clear hlx hcx hwax ho9
          as_aux_lemma =>
            have hmx : mx ≤ k + 1 := KX.out.2.2.2.1
            go_wp2
            go_loopw [143, 157] (fun i _ wq => ∃ q : Nat, i = .int .i64 q ∧ q ≤ mx ∧ Below wx.heap.size wx wq) (fun i _ _ => mx - (intOf i).toNat)
            case atStart => exact ⟨0, rfl, by omega, Below.refl _ _⟩
            case round =>
              obtain ⟨q, rfl, hq, hbq⟩ := hrel
              by_cases hqm : q < mx
              · have hqI : (q : Int) < (mx : Int) := by omega
                have KQ := Lib.hid (KX.out.next hbq)
                obtain ⟨z0, z1, hmz⟩ := KQ.out.num hqm
                obtain ⟨bb, ob, c, rfl, hR, hC⟩ := rows_cells KQ.out.rows KQ.out.len hqm hmz
                obtain ⟨gq, rfl, hZ⟩ := KQ.out.at' hqm
                obtain ⟨zz, hzz⟩ : ∃ x, x = Zx.getD q 0 := ⟨_, rfl⟩
                rw [← hzz] at z0 z1 hZ hR
                obtain ⟨mm, hmm⟩ : ∃ x, x = msgN zz := ⟨_, rfl⟩
                rw [← hmm] at hR
                obtain ⟨aex, nex, cex, aax, nax, cax, p1x, n1x, c1x, p2x, n2x, c2x, p3x, n3x, c3x, p4x, n4x, c4x, sax, snx, scx, rfl, g⟩ := hR
                have hR : msgRel wr wr.heap.size (#[.int .i64 mm.k, .int .i64 mm.f, .int .i64 mm.to, .int .i64 mm.g, .int .i64 mm.n, .slice aex nex cex, .slice aax nax cax, .slice p1x n1x c1x, .slice p2x n2x c2x, .slice p3x n3x c3x, .slice p4x n4x c4x, .int .i64 mm.ki, .string mm.mn, .string mm.mv, .slice sax snx scx, .int .i64 mm.er]).toList mm := ⟨aex, nex, cex, aax, nax, cax, p1x, n1x, c1x, p2x, n2x, c2x, p3x, n3x, c3x, p4x, n4x, c4x, sax, snx, scx, rfl, g⟩
                have HC := Lib.hid hC
                have HZ := Lib.hid hZ
                have HS : Hid (∀ (W : World) (c' : List Value), Below wr.heap.size wr W → msgRel W W.heap.size c' mm → Calls Try.prog 18 #[.agg #[.int .i64 mm.k, .int .i64 mm.f, .int .i64 mm.to, .int .i64 mm.g, .int .i64 mm.n, .slice aex nex cex, .slice aax nax cax, .slice p1x n1x c1x, .slice p2x n2x c2x, .slice p3x n3x c3x, .slice p4x n4x c4x, .int .i64 mm.ki, .string mm.mn, .string mm.mv, .slice sax snx scx, .int .i64 mm.er], .agg c'.toArray] W (Said true W)) := fun W c' hW h' => same_eq mm _ c' W (msgRel_steady _ _ _ _ _ _ hR hW hW.size) h'
                have HMQ : Hid (∀ W : World, Calls Try.prog 23 #[.int .i64 zz] W fun e w' => ∃ c, e = .returned (.agg (List.toArray c)) ∧ msgRel w' w'.heap.size c mm ∧ Below W.heap.size W w') := by
                  intro W; rw [hmm]; exact HM.out zz W ⟨z0, z1⟩
                clear g hR hC hZ hzz hmm hmz z0 z1 KQ
                go_wp2
                refine wp_flow 11 (fun _ => 1000) (fun ww => RowKit.Below wr.heap.size wr ww) (fun _ w w' => (fun (w w' : World) => RowKit.Below w.heap.size w w') w w') (fun kF vF wF => match kF with | 0 => (vF = .slice (some ⟨bb, ob, none⟩) mx lx) | 1 => (vF = .int .i64 (q : Int)) | 2 => (vF = .pointer (some ⟨bb, ob + q * 16, none⟩)) | 3 => (vF = .agg #[.int .i64 mm.k, .int .i64 mm.f, .int .i64 mm.to, .int .i64 mm.g, .int .i64 mm.n, .slice aex nex cex, .slice aax nax cax, .slice p1x n1x c1x, .slice p2x n2x c2x, .slice p3x n3x c3x, .slice p4x n4x c4x, .int .i64 mm.ki, .string mm.mn, .string mm.mv, .slice sax snx scx, .int .i64 mm.er]) | 4 => (vF = .slice (some ⟨gq, 0, none⟩) mx cx) | 5 => (vF = .int .i64 (q : Int)) | 6 => (vF = .pointer (some ⟨gq, q, none⟩)) | 7 => (vF = .int .i64 zz) | 8 => (∃ c, vF = .agg (List.toArray c) ∧ msgRel wF wF.heap.size c mm) | 9 => (vF = .bool true) | 10 => (vF = .bool false) | _ => True) (fun _ _ _ _ => True) (by kernel_rfl) (by kernel_rfl) ?_ ?_ ?_ ?_ ?_
                · exact (Below.refl _ _).drew
                · intro iF wF1 wF2 hR hT; exact hR.trans (hT.mono hR.size)
                · intro kF hkF iF hiF hne hdd hanc hdan vF wF1 wF2 h hT
                  rcases (by omega : kF = 0 ∨ kF = 1 ∨ kF = 2 ∨ kF = 3 ∨ kF = 4 ∨ kF = 5 ∨ kF = 6 ∨ kF = 7 ∨ kF = 8 ∨ kF = 9 ∨ kF = 10) with rfl | rfl | rfl | rfl | rfl | rfl | rfl | rfl | rfl | rfl | rfl
                  · exact h
                  · exact h
                  · exact h
                  · exact h
                  · exact h
                  · exact h
                  · exact h
                  · exact h
                  · have h : (∃ c, vF = .agg (List.toArray c) ∧ msgRel wF1 wF1.heap.size c mm) := h
                    show (∃ c, vF = .agg (List.toArray c) ∧ msgRel wF2 wF2.heap.size c mm)
                    have hT : (fun (w w' : World) => RowKit.Below w.heap.size w w') wF1 wF2 := hT
                    simp only at hT
                    obtain ⟨c, e, hr⟩ := h
                    exact ⟨c, e, msgRel_steady _ _ _ _ _ _ hr hT hT.size⟩
                  · exact h
                  · exact h
                · refine FlowAll.cons ?_ ?_
                  · intro xF ww hR hd K hK
                    clear hd
                    simp only [List.take_succ_cons, List.take_zero, fillOf, Act.put, List.setIfInBounds_toArray, List.set_cons_zero, List.set_cons_succ, Nat.reduceAdd, Nat.zero_add] at hK ⊢
                    obtain hbR := id hR
                    rw [if_pos (by rfl)]
                    go_simp
                    exact hK.out _ _ (Below.refl _ _) (rfl) (fun _ _ _ => ⟨trivial, trivial⟩)
                  refine FlowAll.cons ?_ ?_
                  · intro xF ww hR hd K hK
                    clear hd
                    simp only [List.take_succ_cons, List.take_zero, fillOf, Act.put, List.setIfInBounds_toArray, List.set_cons_zero, List.set_cons_succ, Nat.reduceAdd, Nat.zero_add] at hK ⊢
                    obtain hbR := id hR
                    rw [if_pos (by rfl)]
                    go_simp
                    exact hK.out _ _ (Below.refl _ _) (rfl) (fun _ _ _ => ⟨trivial, trivial⟩)
                  refine FlowAll.cons ?_ ?_
                  · intro xF ww hR hd K hK
                    have dd0 : ((xF 0) = .slice (some ⟨bb, ob, none⟩) mx lx) := hd 0 (by kernel_rfl)
                    have dd1 : ((xF 1) = .int .i64 (q : Int)) := hd 1 (by kernel_rfl)
                    clear hd
                    simp only [List.take_succ_cons, List.take_zero, fillOf, Act.put, List.setIfInBounds_toArray, List.set_cons_zero, List.set_cons_succ, Nat.reduceAdd, Nat.zero_add] at hK ⊢
                    try generalize xF 0 = yy0 at *
                    try generalize xF 1 = yy1 at *
                    obtain rfl := dd0
                    obtain rfl := dd1
                    obtain hbR := id hR
                    rw [if_pos (by rfl)]
                    go_simp
                    exact hK.out _ _ (Below.refl _ _) (rfl) (fun _ _ _ => ⟨trivial, trivial⟩)
                  refine FlowAll.cons ?_ ?_
                  · intro xF ww hR hd K hK
                    have dd2 : ((xF 2) = .pointer (some ⟨bb, ob + q * 16, none⟩)) := hd 2 (by kernel_rfl)
                    clear hd
                    simp only [List.take_succ_cons, List.take_zero, fillOf, Act.put, List.setIfInBounds_toArray, List.set_cons_zero, List.set_cons_succ, Nat.reduceAdd, Nat.zero_add] at hK ⊢
                    try generalize xF 2 = yy2 at *
                    obtain rfl := dd2
                    obtain hbR := id hR
                    have q0 : ww.cell? ⟨bb, ob + q * 16, none⟩ = _ := HC.out _ hR 0 _ rfl
                    have q1 := HC.out _ hR 1 _ rfl
                    have q2 := HC.out _ hR 2 _ rfl
                    have q3 := HC.out _ hR 3 _ rfl
                    have q4 := HC.out _ hR 4 _ rfl
                    have q5 := HC.out _ hR 5 _ rfl
                    have q6 := HC.out _ hR 6 _ rfl
                    have q7 := HC.out _ hR 7 _ rfl
                    have q8 := HC.out _ hR 8 _ rfl
                    have q9 := HC.out _ hR 9 _ rfl
                    have q10 := HC.out _ hR 10 _ rfl
                    have q11 := HC.out _ hR 11 _ rfl
                    have q12 := HC.out _ hR 12 _ rfl
                    have q13 := HC.out _ hR 13 _ rfl
                    have q14 := HC.out _ hR 14 _ rfl
                    have q15 := HC.out _ hR 15 _ rfl
                    rw [if_pos (by rfl)]
                    go_simp
                    exact hK.out _ _ (Below.refl _ _) (rfl) (fun _ _ _ => ⟨trivial, trivial⟩)
                  refine FlowAll.cons ?_ ?_
                  · intro xF ww hR hd K hK
                    clear hd
                    simp only [List.take_succ_cons, List.take_zero, fillOf, Act.put, List.setIfInBounds_toArray, List.set_cons_zero, List.set_cons_succ, Nat.reduceAdd, Nat.zero_add] at hK ⊢
                    obtain hbR := id hR
                    rw [if_pos (by rfl)]
                    go_simp
                    exact hK.out _ _ (Below.refl _ _) (rfl) (fun _ _ _ => ⟨trivial, trivial⟩)
                  refine FlowAll.cons ?_ ?_
                  · intro xF ww hR hd K hK
                    clear hd
                    simp only [List.take_succ_cons, List.take_zero, fillOf, Act.put, List.setIfInBounds_toArray, List.set_cons_zero, List.set_cons_succ, Nat.reduceAdd, Nat.zero_add] at hK ⊢
                    obtain hbR := id hR
                    rw [if_pos (by rfl)]
                    go_simp
                    exact hK.out _ _ (Below.refl _ _) (rfl) (fun _ _ _ => ⟨trivial, trivial⟩)
                  refine FlowAll.cons ?_ ?_
                  · intro xF ww hR hd K hK
                    have dd4 : ((xF 4) = .slice (some ⟨gq, 0, none⟩) mx cx) := hd 4 (by kernel_rfl)
                    have dd5 : ((xF 5) = .int .i64 (q : Int)) := hd 5 (by kernel_rfl)
                    clear hd
                    simp only [List.take_succ_cons, List.take_zero, fillOf, Act.put, List.setIfInBounds_toArray, List.set_cons_zero, List.set_cons_succ, Nat.reduceAdd, Nat.zero_add] at hK ⊢
                    try generalize xF 4 = yy4 at *
                    try generalize xF 5 = yy5 at *
                    obtain rfl := dd4
                    obtain rfl := dd5
                    obtain hbR := id hR
                    rw [if_pos (by rfl)]
                    go_simp
                    exact hK.out _ _ (Below.refl _ _) (rfl) (fun _ _ _ => ⟨trivial, trivial⟩)
                  refine FlowAll.cons ?_ ?_
                  · intro xF ww hR hd K hK
                    have dd6 : ((xF 6) = .pointer (some ⟨gq, q, none⟩)) := hd 6 (by kernel_rfl)
                    clear hd
                    simp only [List.take_succ_cons, List.take_zero, fillOf, Act.put, List.setIfInBounds_toArray, List.set_cons_zero, List.set_cons_succ, Nat.reduceAdd, Nat.zero_add] at hK ⊢
                    try generalize xF 6 = yy6 at *
                    obtain rfl := dd6
                    obtain hbR := id hR
                    have q0 := HZ.out _ hR
                    rw [if_pos (by rfl)]
                    go_simp
                    exact hK.out _ _ (Below.refl _ _) (rfl) (fun _ _ _ => ⟨trivial, trivial⟩)
                  refine FlowAll.cons ?_ ?_
                  · intro xF ww hR hd K hK
                    have dd7 : ((xF 7) = .int .i64 zz) := hd 7 (by kernel_rfl)
                    clear hd
                    simp only [List.take_succ_cons, List.take_zero, fillOf, Act.put, List.setIfInBounds_toArray, List.set_cons_zero, List.set_cons_succ, Nat.reduceAdd, Nat.zero_add] at hK ⊢
                    try generalize xF 7 = yy7 at *
                    obtain rfl := dd7
                    obtain hbR := id hR
                    rw [if_pos (by rfl)]
                    go_simp
                    (go_at_call 23; (with_reducible refine (HMQ.out _).mono ?_); rintro e wK ⟨cK, rfl, hrK, hbK⟩)
                    try go_wp2_with fail
                    exact hK.out _ _ (hbK) (⟨cK, rfl, hrK⟩) (fun _ _ _ => ⟨trivial, trivial⟩)
                  refine FlowAll.cons ?_ ?_
                  · intro xF ww hR hd K hK
                    have dd3 : ((xF 3) = .agg #[.int .i64 mm.k, .int .i64 mm.f, .int .i64 mm.to, .int .i64 mm.g, .int .i64 mm.n, .slice aex nex cex, .slice aax nax cax, .slice p1x n1x c1x, .slice p2x n2x c2x, .slice p3x n3x c3x, .slice p4x n4x c4x, .int .i64 mm.ki, .string mm.mn, .string mm.mv, .slice sax snx scx, .int .i64 mm.er]) := hd 3 (by kernel_rfl)
                    have dd8 : (∃ c, (xF 8) = .agg (List.toArray c) ∧ msgRel ww ww.heap.size c mm) := hd 8 (by kernel_rfl)
                    clear hd
                    simp only [List.take_succ_cons, List.take_zero, fillOf, Act.put, List.setIfInBounds_toArray, List.set_cons_zero, List.set_cons_succ, Nat.reduceAdd, Nat.zero_add] at hK ⊢
                    try generalize xF 3 = yy3 at *
                    try generalize xF 8 = yy8 at *
                    obtain rfl := dd3
                    obtain ⟨c8, rfl, hr8⟩ := dd8
                    obtain hbR := id hR
                    rw [if_pos (by rfl)]
                    go_simp
                    (go_at_call 18; (with_reducible refine (HS.out _ c8 hR hr8).mono ?_); rintro e wK ⟨rfl, hbK⟩)
                    try go_wp2_with fail
                    exact hK.out _ _ (hbK) (rfl) (fun _ _ _ => ⟨trivial, trivial⟩)
                  refine FlowAll.cons ?_ ?_
                  · intro xF ww hR hd K hK
                    have dd9 : ((xF 9) = .bool true) := hd 9 (by kernel_rfl)
                    clear hd
                    simp only [List.take_succ_cons, List.take_zero, fillOf, Act.put, List.setIfInBounds_toArray, List.set_cons_zero, List.set_cons_succ, Nat.reduceAdd, Nat.zero_add] at hK ⊢
                    try generalize xF 9 = yy9 at *
                    obtain rfl := dd9
                    obtain hbR := id hR
                    rw [if_pos (by rfl)]
                    go_simp
                    exact hK.out _ _ (Below.refl _ _) (rfl) (fun _ _ _ => ⟨trivial, trivial⟩)
                  exact FlowAll.nil
                intro xF ww hR hF hP
                clear hP
                have dd0 : ((xF 0) = .slice (some ⟨bb, ob, none⟩) mx lx) := hF 0 (by omega) (by decide)
                have dd1 : ((xF 1) = .int .i64 (q : Int)) := hF 1 (by omega) (by decide)
                have dd2 : ((xF 2) = .pointer (some ⟨bb, ob + q * 16, none⟩)) := hF 2 (by omega) (by decide)
                have dd3 : ((xF 3) = .agg #[.int .i64 mm.k, .int .i64 mm.f, .int .i64 mm.to, .int .i64 mm.g, .int .i64 mm.n, .slice aex nex cex, .slice aax nax cax, .slice p1x n1x c1x, .slice p2x n2x c2x, .slice p3x n3x c3x, .slice p4x n4x c4x, .int .i64 mm.ki, .string mm.mn, .string mm.mv, .slice sax snx scx, .int .i64 mm.er]) := hF 3 (by omega) (by decide)
                have dd4 : ((xF 4) = .slice (some ⟨gq, 0, none⟩) mx cx) := hF 4 (by omega) (by decide)
                have dd5 : ((xF 5) = .int .i64 (q : Int)) := hF 5 (by omega) (by decide)
                have dd6 : ((xF 6) = .pointer (some ⟨gq, q, none⟩)) := hF 6 (by omega) (by decide)
                have dd7 : ((xF 7) = .int .i64 zz) := hF 7 (by omega) (by decide)
                have dd8 : (∃ c, (xF 8) = .agg (List.toArray c) ∧ msgRel ww ww.heap.size c mm) := hF 8 (by omega) (by decide)
                have dd9 : ((xF 9) = .bool true) := hF 9 (by omega) (by decide)
                have dd10 : ((xF 10) = .bool false) := hF 10 (by omega) (by decide)
                clear hF
                simp only [List.take_succ_cons, List.take_zero, List.drop_succ_cons, List.drop_zero, fillOf, Act.put, List.setIfInBounds_toArray, List.set_cons_zero, List.set_cons_succ, Nat.reduceAdd, Nat.zero_add]
                try generalize xF 0 = yy0 at *
                try generalize xF 1 = yy1 at *
                try generalize xF 2 = yy2 at *
                try generalize xF 3 = yy3 at *
                try generalize xF 4 = yy4 at *
                try generalize xF 5 = yy5 at *
                try generalize xF 6 = yy6 at *
                try generalize xF 7 = yy7 at *
                try generalize xF 8 = yy8 at *
                try generalize xF 9 = yy9 at *
                try generalize xF 10 = yy10 at *
                clear xF
                obtain rfl := dd0
                obtain rfl := dd1
                obtain rfl := dd2
                obtain rfl := dd3
                obtain rfl := dd4
                obtain rfl := dd5
                obtain rfl := dd6
                obtain rfl := dd7
                obtain ⟨c8, rfl, hr8⟩ := dd8
                obtain rfl := dd9
                obtain rfl := dd10
                have hRE := Lib.hid hR
                clear hR
                go_wp2
                go_roundw
                case rel => exact ⟨q + 1, by go_num, by omega, hbq.trans (hRE.out.mono hbq.size)⟩
                case measure => simp [intOf]; omega
              · go_wp2
                go_roundw
                case rel => exact ⟨k + 1, _, _, _, _, _, Zx, by go_num, rfl, rfl, by omega, KX.out.next hbq⟩
                case measure => simp [intOf]; omega
      · as_aux_lemma =>
          have hinI : ¬ (ja : Int) < (m : Int) := by omega
          have HOI : Hid (¬ (0 ≤ (ja : Int) ∧ (ja : Int) < ((Z.map msgN).length : Int))) := by show ¬ _; rw [← HLN.out]; omega
          have HS2 := Lib.hid (take_out (Z.map msgN) (.slice la m lc) ja w1 K1.out.rows (by rw [← HLN.out]; omega) K1.out.fit HOI.out)
          go_wp2_with fail
          rw [← HW1.out]
          (with_reducible refine HS2.out.mono ?_)
          rintro e w2 ⟨rfl, b2⟩
          obtain ⟨w3, hw3⟩ : ∃ W, W = w2.alloc (.cells #[.int .i64 0, .int .i64 0, .int .i64 0, .int .i64 0, .int .i64 0, .slice none 0 0, .slice none 0 0, .slice none 0 0, .slice none 0 0, .slice none 0 0, .slice none 0 0, .int .i64 0, .string ⟨#[]⟩, .string ⟨#[]⟩, .slice none 0 0, .int .i64 0] 34) := ⟨_, rfl⟩
          have b3 : Below w2.heap.size w2 w3 := by rw [hw3]; exact below1
          have B3 := Lib.hid (b2.trans (b3.mono b2.size))
          have K3 := Lib.hid (K1.out.next B3.out)
          have y10 : (w2.alloc (.cells #[.int .i64 0, .int .i64 0, .int .i64 0, .int .i64 0, .int .i64 0, .slice none 0 0, .slice none 0 0, .slice none 0 0, .slice none 0 0, .slice none 0 0, .slice none 0 0, .int .i64 0, .string ⟨#[]⟩, .string ⟨#[]⟩, .slice none 0 0, .int .i64 0] 34)).cell? ⟨wo.heap.size, 0, none⟩ = some (.int .i64 1) := by rw [← hw3]; exact boxc (X1.out _ B3.out) 0 _ rfl
          clear b2 b3
          go_wp2_with fail
          rw [← hw3]
          clear hw3 y10
          obtain ⟨wx, hwx⟩ : ∃ W, W = w3 := ⟨_, rfl⟩
          rw [← hwx] at K3 ⊢
          clear hwx
          obtain ⟨Zx, hZx⟩ : ∃ x, x = Z := ⟨_, rfl⟩
          obtain ⟨mx, hmx0⟩ : ∃ x, x = m := ⟨_, rfl⟩
          obtain ⟨lx, hlx⟩ : ∃ x, x = lc := ⟨_, rfl⟩
          obtain ⟨cx, hcx⟩ : ∃ x, x = wc := ⟨_, rfl⟩
          have KX : Hid (KeepS w wx (k + 1) la mx lx wa cx Zx) := by
            rw [hmx0, hlx, hcx, hZx]
            obtain ⟨g1, g2, g3, g4, g5, g6⟩ := K3.out
            exact ⟨g1, g2, g3, by omega, g5, g6⟩
          have hinX : ¬ (ja : Int) < (mx : Int) := by omega
          have hinY : ¬ ja < mx := by omega
          have hinZ : decide (ja < mx) = false := decide_eq_false hinY
          rw [← hmx0, ← hlx, ← hcx]
          clear hmx0 hlx hcx hZx
          as_aux_lemma =>
            have hmx : mx ≤ k + 1 := KX.out.2.2.2.1
            go_loopw [143, 157] (fun i _ wq => ∃ q : Nat, i = .int .i64 q ∧ q ≤ mx ∧ Below wx.heap.size wx wq) (fun i _ _ => mx - (intOf i).toNat)
            case atStart => exact ⟨0, rfl, by omega, Below.refl _ _⟩
            case round =>
              obtain ⟨q, rfl, hq, hbq⟩ := hrel
              by_cases hqm : q < mx
              · have hqI : (q : Int) < (mx : Int) := by omega
                have KQ := Lib.hid (KX.out.next hbq)
                obtain ⟨z0, z1, hmz⟩ := KQ.out.num hqm
                obtain ⟨bb, ob, c, rfl, hR, hC⟩ := rows_cells KQ.out.rows KQ.out.len hqm hmz
                obtain ⟨gq, rfl, hZ⟩ := KQ.out.at' hqm
                obtain ⟨zz, hzz⟩ : ∃ x, x = Zx.getD q 0 := ⟨_, rfl⟩
                rw [← hzz] at z0 z1 hZ hR
                obtain ⟨mm, hmm⟩ : ∃ x, x = msgN zz := ⟨_, rfl⟩
                rw [← hmm] at hR
                obtain ⟨aex, nex, cex, aax, nax, cax, p1x, n1x, c1x, p2x, n2x, c2x, p3x, n3x, c3x, p4x, n4x, c4x, sax, snx, scx, rfl, g⟩ := hR
                have hR : msgRel wr wr.heap.size (#[.int .i64 mm.k, .int .i64 mm.f, .int .i64 mm.to, .int .i64 mm.g, .int .i64 mm.n, .slice aex nex cex, .slice aax nax cax, .slice p1x n1x c1x, .slice p2x n2x c2x, .slice p3x n3x c3x, .slice p4x n4x c4x, .int .i64 mm.ki, .string mm.mn, .string mm.mv, .slice sax snx scx, .int .i64 mm.er]).toList mm := ⟨aex, nex, cex, aax, nax, cax, p1x, n1x, c1x, p2x, n2x, c2x, p3x, n3x, c3x, p4x, n4x, c4x, sax, snx, scx, rfl, g⟩
                have HC := Lib.hid hC
                have HZ := Lib.hid hZ
                have HS : Hid (∀ (W : World) (c' : List Value), Below wr.heap.size wr W → msgRel W W.heap.size c' mm → Calls Try.prog 18 #[.agg #[.int .i64 mm.k, .int .i64 mm.f, .int .i64 mm.to, .int .i64 mm.g, .int .i64 mm.n, .slice aex nex cex, .slice aax nax cax, .slice p1x n1x c1x, .slice p2x n2x c2x, .slice p3x n3x c3x, .slice p4x n4x c4x, .int .i64 mm.ki, .string mm.mn, .string mm.mv, .slice sax snx scx, .int .i64 mm.er], .agg c'.toArray] W (Said true W)) := fun W c' hW h' => same_eq mm _ c' W (msgRel_steady _ _ _ _ _ _ hR hW hW.size) h'
                have HMQ : Hid (∀ W : World, Calls Try.prog 23 #[.int .i64 zz] W fun e w' => ∃ c, e = .returned (.agg (List.toArray c)) ∧ msgRel w' w'.heap.size c mm ∧ Below W.heap.size W w') := by
                  intro W; rw [hmm]; exact HM.out zz W ⟨z0, z1⟩
                clear g hR hC hZ hzz hmm hmz z0 z1 KQ
                go_wp2
                refine wp_flow 11 (fun _ => 1000) (fun ww => RowKit.Below wr.heap.size wr ww) (fun _ w w' => (fun (w w' : World) => RowKit.Below w.heap.size w w') w w') (fun kF vF wF => match kF with | 0 => (vF = .slice (some ⟨bb, ob, none⟩) mx lx) | 1 => (vF = .int .i64 (q : Int)) | 2 => (vF = .pointer (some ⟨bb, ob + q * 16, none⟩)) | 3 => (vF = .agg #[.int .i64 mm.k, .int .i64 mm.f, .int .i64 mm.to, .int .i64 mm.g, .int .i64 mm.n, .slice aex nex cex, .slice aax nax cax, .slice p1x n1x c1x, .slice p2x n2x c2x, .slice p3x n3x c3x, .slice p4x n4x c4x, .int .i64 mm.ki, .string mm.mn, .string mm.mv, .slice sax snx scx, .int .i64 mm.er]) | 4 => (vF = .slice (some ⟨gq, 0, none⟩) mx cx) | 5 => (vF = .int .i64 (q : Int)) | 6 => (vF = .pointer (some ⟨gq, q, none⟩)) | 7 => (vF = .int .i64 zz) | 8 => (∃ c, vF = .agg (List.toArray c) ∧ msgRel wF wF.heap.size c mm) | 9 => (vF = .bool true) | 10 => (vF = .bool false) | _ => True) (fun _ _ _ _ => True) (by kernel_rfl) (by kernel_rfl) ?_ ?_ ?_ ?_ ?_
                · exact (Below.refl _ _).drew
                · intro iF wF1 wF2 hR hT; exact hR.trans (hT.mono hR.size)
                · intro kF hkF iF hiF hne hdd hanc hdan vF wF1 wF2 h hT
                  rcases (by omega : kF = 0 ∨ kF = 1 ∨ kF = 2 ∨ kF = 3 ∨ kF = 4 ∨ kF = 5 ∨ kF = 6 ∨ kF = 7 ∨ kF = 8 ∨ kF = 9 ∨ kF = 10) with rfl | rfl | rfl | rfl | rfl | rfl | rfl | rfl | rfl | rfl | rfl
                  · exact h
                  · exact h
                  · exact h
                  · exact h
                  · exact h
                  · exact h
                  · exact h
                  · exact h
                  · have h : (∃ c, vF = .agg (List.toArray c) ∧ msgRel wF1 wF1.heap.size c mm) := h
                    show (∃ c, vF = .agg (List.toArray c) ∧ msgRel wF2 wF2.heap.size c mm)
                    have hT : (fun (w w' : World) => RowKit.Below w.heap.size w w') wF1 wF2 := hT
                    simp only at hT
                    obtain ⟨c, e, hr⟩ := h
                    exact ⟨c, e, msgRel_steady _ _ _ _ _ _ hr hT hT.size⟩
                  · exact h
                  · exact h
                · refine FlowAll.cons ?_ ?_
                  · intro xF ww hR hd K hK
                    clear hd
                    simp only [List.take_succ_cons, List.take_zero, fillOf, Act.put, List.setIfInBounds_toArray, List.set_cons_zero, List.set_cons_succ, Nat.reduceAdd, Nat.zero_add] at hK ⊢
                    obtain hbR := id hR
                    rw [if_pos (by rfl)]
                    go_simp
                    exact hK.out _ _ (Below.refl _ _) (rfl) (fun _ _ _ => ⟨trivial, trivial⟩)
                  refine FlowAll.cons ?_ ?_
                  · intro xF ww hR hd K hK
                    clear hd
                    simp only [List.take_succ_cons, List.take_zero, fillOf, Act.put, List.setIfInBounds_toArray, List.set_cons_zero, List.set_cons_succ, Nat.reduceAdd, Nat.zero_add] at hK ⊢
                    obtain hbR := id hR
                    rw [if_pos (by rfl)]
                    go_simp
                    exact hK.out _ _ (Below.refl _ _) (rfl) (fun _ _ _ => ⟨trivial, trivial⟩)
                  refine FlowAll.cons ?_ ?_
                  · intro xF ww hR hd K hK
                    have dd0 : ((xF 0) = .slice (some ⟨bb, ob, none⟩) mx lx) := hd 0 (by kernel_rfl)
                    have dd1 : ((xF 1) = .int .i64 (q : Int)) := hd 1 (by kernel_rfl)
                    clear hd
                    simp only [List.take_succ_cons, List.take_zero, fillOf, Act.put, List.setIfInBounds_toArray, List.set_cons_zero, List.set_cons_succ, Nat.reduceAdd, Nat.zero_add] at hK ⊢
                    try generalize xF 0 = yy0 at *
                    try generalize xF 1 = yy1 at *
                    obtain rfl := dd0
                    obtain rfl := dd1
                    obtain hbR := id hR
                    rw [if_pos (by rfl)]
                    go_simp
                    exact hK.out _ _ (Below.refl _ _) (rfl) (fun _ _ _ => ⟨trivial, trivial⟩)
                  refine FlowAll.cons ?_ ?_
                  · intro xF ww hR hd K hK
                    have dd2 : ((xF 2) = .pointer (some ⟨bb, ob + q * 16, none⟩)) := hd 2 (by kernel_rfl)
                    clear hd
                    simp only [List.take_succ_cons, List.take_zero, fillOf, Act.put, List.setIfInBounds_toArray, List.set_cons_zero, List.set_cons_succ, Nat.reduceAdd, Nat.zero_add] at hK ⊢
                    try generalize xF 2 = yy2 at *
                    obtain rfl := dd2
                    obtain hbR := id hR
                    have q0 : ww.cell? ⟨bb, ob + q * 16, none⟩ = _ := HC.out _ hR 0 _ rfl
                    have q1 := HC.out _ hR 1 _ rfl
                    have q2 := HC.out _ hR 2 _ rfl
                    have q3 := HC.out _ hR 3 _ rfl
                    have q4 := HC.out _ hR 4 _ rfl
                    have q5 := HC.out _ hR 5 _ rfl
                    have q6 := HC.out _ hR 6 _ rfl
                    have q7 := HC.out _ hR 7 _ rfl
                    have q8 := HC.out _ hR 8 _ rfl
                    have q9 := HC.out _ hR 9 _ rfl
                    have q10 := HC.out _ hR 10 _ rfl
                    have q11 := HC.out _ hR 11 _ rfl
                    have q12 := HC.out _ hR 12 _ rfl
                    have q13 := HC.out _ hR 13 _ rfl
                    have q14 := HC.out _ hR 14 _ rfl
                    have q15 := HC.out _ hR 15 _ rfl
                    rw [if_pos (by rfl)]
                    go_simp
                    exact hK.out _ _ (Below.refl _ _) (rfl) (fun _ _ _ => ⟨trivial, trivial⟩)
                  refine FlowAll.cons ?_ ?_
                  · intro xF ww hR hd K hK
                    clear hd
                    simp only [List.take_succ_cons, List.take_zero, fillOf, Act.put, List.setIfInBounds_toArray, List.set_cons_zero, List.set_cons_succ, Nat.reduceAdd, Nat.zero_add] at hK ⊢
                    obtain hbR := id hR
                    rw [if_pos (by rfl)]
                    go_simp
                    exact hK.out _ _ (Below.refl _ _) (rfl) (fun _ _ _ => ⟨trivial, trivial⟩)
                  refine FlowAll.cons ?_ ?_
                  · intro xF ww hR hd K hK
                    clear hd
                    simp only [List.take_succ_cons, List.take_zero, fillOf, Act.put, List.setIfInBounds_toArray, List.set_cons_zero, List.set_cons_succ, Nat.reduceAdd, Nat.zero_add] at hK ⊢
                    obtain hbR := id hR
                    rw [if_pos (by rfl)]
                    go_simp
                    exact hK.out _ _ (Below.refl _ _) (rfl) (fun _ _ _ => ⟨trivial, trivial⟩)
                  refine FlowAll.cons ?_ ?_
                  · intro xF ww hR hd K hK
                    have dd4 : ((xF 4) = .slice (some ⟨gq, 0, none⟩) mx cx) := hd 4 (by kernel_rfl)
                    have dd5 : ((xF 5) = .int .i64 (q : Int)) := hd 5 (by kernel_rfl)
                    clear hd
                    simp only [List.take_succ_cons, List.take_zero, fillOf, Act.put, List.setIfInBounds_toArray, List.set_cons_zero, List.set_cons_succ, Nat.reduceAdd, Nat.zero_add] at hK ⊢
                    try generalize xF 4 = yy4 at *
                    try generalize xF 5 = yy5 at *
                    obtain rfl := dd4
                    obtain rfl := dd5
                    obtain hbR := id hR
                    rw [if_pos (by rfl)]
                    go_simp
                    exact hK.out _ _ (Below.refl _ _) (rfl) (fun _ _ _ => ⟨trivial, trivial⟩)
                  refine FlowAll.cons ?_ ?_
                  · intro xF ww hR hd K hK
                    have dd6 : ((xF 6) = .pointer (some ⟨gq, q, none⟩)) := hd 6 (by kernel_rfl)
                    clear hd
                    simp only [List.take_succ_cons, List.take_zero, fillOf, Act.put, List.setIfInBounds_toArray, List.set_cons_zero, List.set_cons_succ, Nat.reduceAdd, Nat.zero_add] at hK ⊢
                    try generalize xF 6 = yy6 at *
                    obtain rfl := dd6
                    obtain hbR := id hR
                    have q0 := HZ.out _ hR
                    rw [if_pos (by rfl)]
                    go_simp
                    exact hK.out _ _ (Below.refl _ _) (rfl) (fun _ _ _ => ⟨trivial, trivial⟩)
                  refine FlowAll.cons ?_ ?_
                  · intro xF ww hR hd K hK
                    have dd7 : ((xF 7) = .int .i64 zz) := hd 7 (by kernel_rfl)
                    clear hd
                    simp only [List.take_succ_cons, List.take_zero, fillOf, Act.put, List.setIfInBounds_toArray, List.set_cons_zero, List.set_cons_succ, Nat.reduceAdd, Nat.zero_add] at hK ⊢
                    try generalize xF 7 = yy7 at *
                    obtain rfl := dd7
                    obtain hbR := id hR
                    rw [if_pos (by rfl)]
                    go_simp
                    (go_at_call 23; (with_reducible refine (HMQ.out _).mono ?_); rintro e wK ⟨cK, rfl, hrK, hbK⟩)
                    try go_wp2_with fail
                    exact hK.out _ _ (hbK) (⟨cK, rfl, hrK⟩) (fun _ _ _ => ⟨trivial, trivial⟩)
                  refine FlowAll.cons ?_ ?_
                  · intro xF ww hR hd K hK
                    have dd3 : ((xF 3) = .agg #[.int .i64 mm.k, .int .i64 mm.f, .int .i64 mm.to, .int .i64 mm.g, .int .i64 mm.n, .slice aex nex cex, .slice aax nax cax, .slice p1x n1x c1x, .slice p2x n2x c2x, .slice p3x n3x c3x, .slice p4x n4x c4x, .int .i64 mm.ki, .string mm.mn, .string mm.mv, .slice sax snx scx, .int .i64 mm.er]) := hd 3 (by kernel_rfl)
                    have dd8 : (∃ c, (xF 8) = .agg (List.toArray c) ∧ msgRel ww ww.heap.size c mm) := hd 8 (by kernel_rfl)
                    clear hd
                    simp only [List.take_succ_cons, List.take_zero, fillOf, Act.put, List.setIfInBounds_toArray, List.set_cons_zero, List.set_cons_succ, Nat.reduceAdd, Nat.zero_add] at hK ⊢
                    try generalize xF 3 = yy3 at *
                    try generalize xF 8 = yy8 at *
                    obtain rfl := dd3
                    obtain ⟨c8, rfl, hr8⟩ := dd8
                    obtain hbR := id hR
                    rw [if_pos (by rfl)]
                    go_simp
                    (go_at_call 18; (with_reducible refine (HS.out _ c8 hR hr8).mono ?_); rintro e wK ⟨rfl, hbK⟩)
                    try go_wp2_with fail
                    exact hK.out _ _ (hbK) (rfl) (fun _ _ _ => ⟨trivial, trivial⟩)
                  refine FlowAll.cons ?_ ?_
                  · intro xF ww hR hd K hK
                    have dd9 : ((xF 9) = .bool true) := hd 9 (by kernel_rfl)
                    clear hd
                    simp only [List.take_succ_cons, List.take_zero, fillOf, Act.put, List.setIfInBounds_toArray, List.set_cons_zero, List.set_cons_succ, Nat.reduceAdd, Nat.zero_add] at hK ⊢
                    try generalize xF 9 = yy9 at *
                    obtain rfl := dd9
                    obtain hbR := id hR
                    rw [if_pos (by rfl)]
                    go_simp
                    exact hK.out _ _ (Below.refl _ _) (rfl) (fun _ _ _ => ⟨trivial, trivial⟩)
                  exact FlowAll.nil
                intro xF ww hR hF hP
                clear hP
                have dd0 : ((xF 0) = .slice (some ⟨bb, ob, none⟩) mx lx) := hF 0 (by omega) (by decide)
                have dd1 : ((xF 1) = .int .i64 (q : Int)) := hF 1 (by omega) (by decide)
                have dd2 : ((xF 2) = .pointer (some ⟨bb, ob + q * 16, none⟩)) := hF 2 (by omega) (by decide)
                have dd3 : ((xF 3) = .agg #[.int .i64 mm.k, .int .i64 mm.f, .int .i64 mm.to, .int .i64 mm.g, .int .i64 mm.n, .slice aex nex cex, .slice aax nax cax, .slice p1x n1x c1x, .slice p2x n2x c2x, .slice p3x n3x c3x, .slice p4x n4x c4x, .int .i64 mm.ki, .string mm.mn, .string mm.mv, .slice sax snx scx, .int .i64 mm.er]) := hF 3 (by omega) (by decide)
                have dd4 : ((xF 4) = .slice (some ⟨gq, 0, none⟩) mx cx) := hF 4 (by omega) (by decide)
                have dd5 : ((xF 5) = .int .i64 (q : Int)) := hF 5 (by omega) (by decide)
                have dd6 : ((xF 6) = .pointer (some ⟨gq, q, none⟩)) := hF 6 (by omega) (by decide)
                have dd7 : ((xF 7) = .int .i64 zz) := hF 7 (by omega) (by decide)
                have dd8 : (∃ c, (xF 8) = .agg (List.toArray c) ∧ msgRel ww ww.heap.size c mm) := hF 8 (by omega) (by decide)
                have dd9 : ((xF 9) = .bool true) := hF 9 (by omega) (by decide)
                have dd10 : ((xF 10) = .bool false) := hF 10 (by omega) (by decide)
                clear hF
                simp only [List.take_succ_cons, List.take_zero, List.drop_succ_cons, List.drop_zero, fillOf, Act.put, List.setIfInBounds_toArray, List.set_cons_zero, List.set_cons_succ, Nat.reduceAdd, Nat.zero_add]
                try generalize xF 0 = yy0 at *
                try generalize xF 1 = yy1 at *
                try generalize xF 2 = yy2 at *
                try generalize xF 3 = yy3 at *
                try generalize xF 4 = yy4 at *
                try generalize xF 5 = yy5 at *
                try generalize xF 6 = yy6 at *
                try generalize xF 7 = yy7 at *
                try generalize xF 8 = yy8 at *
                try generalize xF 9 = yy9 at *
                try generalize xF 10 = yy10 at *
                clear xF
                obtain rfl := dd0
                obtain rfl := dd1
                obtain rfl := dd2
                obtain rfl := dd3
                obtain rfl := dd4
                obtain rfl := dd5
                obtain rfl := dd6
                obtain rfl := dd7
                obtain ⟨c8, rfl, hr8⟩ := dd8
                obtain rfl := dd9
                obtain rfl := dd10
                have hRE := Lib.hid hR
                clear hR
                go_wp2
                go_roundw
                case rel => exact ⟨q + 1, by go_num, by omega, hbq.trans (hRE.out.mono hbq.size)⟩
                case measure => simp [intOf]; omega
              · go_wp2
                go_roundw
                case rel => exact ⟨k + 1, _, _, _, _, _, Zx, by go_num, rfl, rfl, by omega, KX.out.next hbq⟩
                case measure => simp [intOf]; omega
    by_cases k2 : kd = 2
    · subst k2
      by_cases hin : ja < m
      · as_aux_lemma =>
          obtain ⟨gq, rfl, hwc, hZ⟩ := K1.out.cell hin
          obtain ⟨z0, z1, hmz⟩ := K1.out.num hin
          obtain ⟨mx, hmx0⟩ : ∃ x, x = ja + (m - (ja + 1)) := ⟨_, rfl⟩
          obtain ⟨Zx, hZx⟩ : ∃ x, x = Z.take ja ++ Z.drop (ja + 1) := ⟨_, rfl⟩
          have HZL : Hid (m = Z.length) := K1.out.2.2.1
          have HMX := Lib.hid hmx0
          have HZX := Lib.hid hZx
          have HZXI : Hid (at_.i64s (Z.take ja) ++ at_.i64s (Z.drop (ja + 1)) = at_.i64s Zx) := by show _ = _; rw [HZX.out, at_.i64s_app]
          have HE2 : Hid ((Z.drop (ja + 1)).take (m - (ja + 1)) = Z.drop (ja + 1)) := List.take_of_length_le (by rw [List.length_drop, HZL.out]; omega)
          have HZQ := Lib.hid hZ
          clear hZ hmx0 hZx
          have hinI : (ja : Int) < (m : Int) := by omega
          have HS2 := Lib.hid (take_f w (Z.map msgN) (.slice la m lc) m _ ja w1 HZ1.out K1.out.1.choose_spec (by rw [← HLN.out]; omega) K1.out.fit (by rw [← HLN.out]; exact hin))
          go_wp2_with fail
          rw [← HW1.out]
          (with_reducible refine HS2.out.mono ?_)
          rintro e w2 ⟨a2, n2, q2, cs2, c2, rfl, h2, hm2, b2⟩
          rw [hmz] at hm2
          obtain ⟨mm, hmm⟩ : ∃ x, x = msgN (Z.getD ja 0) := ⟨_, rfl⟩
          rw [← hmm] at hm2
          obtain ⟨ae, ne, ce, aa, na, ca, p1, n1, c1, p2, n2, c2, p3, n3, c3, p4, n4, c4, sa, sn, sc, rfl, g⟩ := hm2
          have hm2 : msgRel w2 w2.heap.size (#[.int .i64 mm.k, .int .i64 mm.f, .int .i64 mm.to, .int .i64 mm.g, .int .i64 mm.n, .slice ae ne ce, .slice aa na ca, .slice p1 n1 c1, .slice p2 n2 c2, .slice p3 n3 c3, .slice p4 n4 c4, .int .i64 mm.ki, .string mm.mn, .string mm.mv, .slice sa sn sc, .int .i64 mm.er]).toList mm := ⟨ae, ne, ce, aa, na, ca, p1, n1, c1, p2, n2, c2, p3, n3, c3, p4, n4, c4, sa, sn, sc, rfl, g⟩
          clear g
          obtain ⟨w3, hw3⟩ : ∃ W, W = w2.alloc (.cells #[.int .i64 mm.k, .int .i64 mm.f, .int .i64 mm.to, .int .i64 mm.g, .int .i64 mm.n, .slice ae ne ce, .slice aa na ca, .slice p1 n1 c1, .slice p2 n2 c2, .slice p3 n3 c3, .slice p4 n4 c4, .int .i64 mm.ki, .string mm.mn, .string mm.mv, .slice sa sn sc, .int .i64 mm.er] 34) := ⟨_, rfl⟩
          have b3 : Below w2.heap.size w2 w3 := by rw [hw3]; exact below1
          have x3 : w3.heap[w2.heap.size]? = some (.cells #[.int .i64 mm.k, .int .i64 mm.f, .int .i64 mm.to, .int .i64 mm.g, .int .i64 mm.n, .slice ae ne ce, .slice aa na ca, .slice p1 n1 c1, .slice p2 n2 c2, .slice p3 n3 c3, .slice p4 n4 c4, .int .i64 mm.ki, .string mm.mn, .string mm.mv, .slice sa sn sc, .int .i64 mm.er] 34) := by rw [hw3]; exact heap_alloc_new w2 _
          have B3 := Lib.hid (b2.trans (b3.mono b2.size))
          have K3 := Lib.hid (K1.out.next B3.out)
          have HL3 := Lib.hid (lose_f w (Z.map msgN) (.slice la m lc) m _ ja w3 (Nat.le_trans HZ1.out B3.out.size) K3.out.1.choose_spec (by rw [← HLN.out]; omega) K3.out.fit (by rw [← HLN.out]; exact hin))
          have y10 : (w2.alloc (.cells #[.int .i64 mm.k, .int .i64 mm.f, .int .i64 mm.to, .int .i64 mm.g, .int .i64 mm.n, .slice ae ne ce, .slice aa na ca, .slice p1 n1 c1, .slice p2 n2 c2, .slice p3 n3 c3, .slice p4 n4 c4, .int .i64 mm.ki, .string mm.mn, .string mm.mv, .slice sa sn sc, .int .i64 mm.er] 34)).cell? ⟨wo.heap.size, 0, none⟩ = some (.int .i64 2) := by rw [← hw3]; exact boxc (X1.out _ B3.out) 0 _ rfl
          clear hm2 h2 b2 b3 x3 z0 z1 hmz hmm
          go_wp2_with fail
          rw [← hw3]
          clear hw3 y10
          (with_reducible refine HL3.out.mono ?_)
          rintro e w4 ⟨a3, n3, q3, cs3, rfl, h3, b4⟩
          obtain rfl : mx = n3 := by rw [h3.2.2.2, HMX.out, cut_map, List.length_map]; exact (cut_len HZL.out hin).symm
          replace B3 := Lib.hid (B3.out.trans (b4.mono B3.out.size))
          have R3 := Lib.hid h3
          have y10 := boxc (X1.out w4 B3.out) 0 _ rfl
          have HY : Hid (∀ W, Below w4.heap.size w4 W → W.cell? ⟨wo.heap.size, 0, none⟩ = some (.int .i64 2)) := fun W hW => boxc (X1.out W (B3.out.trans (hW.mono B3.out.size))) 0 _ rfl
          clear h3 b4 HL3 K3
          go_wp2_with fail
          clear y10
          refine wp_flow 13 (fun _ => 1000) (fun ww => RowKit.Below w4.heap.size w4 ww) (fun _ w w' => (fun (w w' : World) => RowKit.Below w.heap.size w w') w w') (fun kF vF wF => match kF with | 0 => (vF = .pointer (some ⟨wo.heap.size, 0, none⟩)) | 1 => (vF = .int .i64 2) | 2 => (vF = .bool false) | 3 => (vF = .bool false) | 4 => (vF = undef) | 5 => (vF = undef) | 6 => (vF = undef) | 7 => (vF = undef) | 8 => (vF = undef) | 9 => (vF = undef) | 10 => (vF = undef) | 11 => (vF = undef) | 12 => (vF = .bool false) | _ => True) (fun _ _ _ _ => True) (by kernel_rfl) (by kernel_rfl) ?_ ?_ ?_ ?_ ?_
          · exact (Below.refl _ _).drew
          · intro iF wF1 wF2 hR hT; exact hR.trans (hT.mono hR.size)
          · intro kF hkF iF hiF hne hdd hanc hdan vF wF1 wF2 h hT
            rcases (by omega : kF = 0 ∨ kF = 1 ∨ kF = 2 ∨ kF = 3 ∨ kF = 4 ∨ kF = 5 ∨ kF = 6 ∨ kF = 7 ∨ kF = 8 ∨ kF = 9 ∨ kF = 10 ∨ kF = 11 ∨ kF = 12) with rfl | rfl | rfl | rfl | rfl | rfl | rfl | rfl | rfl | rfl | rfl | rfl | rfl
            · exact h
            · exact h
            · exact h
            · exact h
            · exact h
            · exact h
            · exact h
            · exact h
            · exact h
            · exact h
            · exact h
            · exact h
            · exact h
          · refine FlowAll.cons ?_ ?_
            · intro xF w5 hR hd K hK
              clear hd
              simp only [List.take_succ_cons, List.take_zero, fillOf, Act.put, List.setIfInBounds_toArray, List.set_cons_zero, List.set_cons_succ, Nat.reduceAdd, Nat.zero_add] at hK ⊢
              obtain hbR := id hR
              rw [if_pos (by rfl)]
              go_simp
              exact hK.out _ _ (Below.refl _ _) (rfl) (fun _ _ _ => ⟨trivial, trivial⟩)
            refine FlowAll.cons ?_ ?_
            · intro xF w5 hR hd K hK
              have dd0 : ((xF 0) = .pointer (some ⟨wo.heap.size, 0, none⟩)) := hd 0 (by kernel_rfl)
              clear hd
              simp only [List.take_succ_cons, List.take_zero, fillOf, Act.put, List.setIfInBounds_toArray, List.set_cons_zero, List.set_cons_succ, Nat.reduceAdd, Nat.zero_add] at hK ⊢
              try generalize xF 0 = yy0 at *
              obtain rfl := dd0
              obtain hbR := id hR
              have q0 := HY.out _ hR
              rw [if_pos (by rfl)]
              go_simp
              exact hK.out _ _ (Below.refl _ _) (rfl) (fun _ _ _ => ⟨trivial, trivial⟩)
            refine FlowAll.cons ?_ ?_
            · intro xF w5 hR hd K hK
              have dd1 : ((xF 1) = .int .i64 2) := hd 1 (by kernel_rfl)
              clear hd
              simp only [List.take_succ_cons, List.take_zero, fillOf, Act.put, List.setIfInBounds_toArray, List.set_cons_zero, List.set_cons_succ, Nat.reduceAdd, Nat.zero_add] at hK ⊢
              try generalize xF 1 = yy1 at *
              obtain rfl := dd1
              obtain hbR := id hR
              rw [if_pos (by rfl)]
              go_simp
              exact hK.out _ _ (Below.refl _ _) (rfl) (fun _ _ _ => ⟨trivial, trivial⟩)
            refine FlowAll.cons ?_ ?_
            · intro xF w5 hR hd K hK
              have dd2 : ((xF 2) = .bool false) := hd 2 (by kernel_rfl)
              clear hd
              simp only [List.take_succ_cons, List.take_zero, fillOf, Act.put, List.setIfInBounds_toArray, List.set_cons_zero, List.set_cons_succ, Nat.reduceAdd, Nat.zero_add] at hK ⊢
              try generalize xF 2 = yy2 at *
              obtain rfl := dd2
              obtain hbR := id hR
              rw [if_pos (by rfl)]
              go_simp
              exact hK.out _ _ (Below.refl _ _) (rfl) (fun _ _ _ => ⟨trivial, trivial⟩)
            refine FlowAll.cons ?_ ?_
            · intro xF w5 hR hd K hK
              have dd3 : ((xF 3) = .bool false) := hd 3 (by kernel_rfl)
              clear hd
              simp only [List.take_succ_cons, List.take_zero, fillOf, Act.put, List.setIfInBounds_toArray, List.set_cons_zero, List.set_cons_succ, Nat.reduceAdd, Nat.zero_add] at hK ⊢
              try generalize xF 3 = yy3 at *
              obtain rfl := dd3
              obtain hbR := id hR
              rw [if_neg (by intro h; exact absurd (show false = true from h) Bool.false_ne_true)]
              try simp only [Act.put, List.setIfInBounds_toArray, List.set_cons_zero, List.set_cons_succ]
              exact hK.out _ _ (Below.refl _ _) (rfl) (fun _ _ _ => ⟨trivial, trivial⟩)
            refine FlowAll.cons ?_ ?_
            · intro xF w5 hR hd K hK
              have dd3 : ((xF 3) = .bool false) := hd 3 (by kernel_rfl)
              clear hd
              simp only [List.take_succ_cons, List.take_zero, fillOf, Act.put, List.setIfInBounds_toArray, List.set_cons_zero, List.set_cons_succ, Nat.reduceAdd, Nat.zero_add] at hK ⊢
              try generalize xF 3 = yy3 at *
              obtain rfl := dd3
              obtain hbR := id hR
              rw [if_neg (by intro h; exact absurd (show false = true from h) Bool.false_ne_true)]
              try simp only [Act.put, List.setIfInBounds_toArray, List.set_cons_zero, List.set_cons_succ]
              exact hK.out _ _ (Below.refl _ _) (rfl) (fun _ _ _ => ⟨trivial, trivial⟩)
            refine FlowAll.cons ?_ ?_
            · intro xF w5 hR hd K hK
              have dd3 : ((xF 3) = .bool false) := hd 3 (by kernel_rfl)
              clear hd
              simp only [List.take_succ_cons, List.take_zero, fillOf, Act.put, List.setIfInBounds_toArray, List.set_cons_zero, List.set_cons_succ, Nat.reduceAdd, Nat.zero_add] at hK ⊢
              try generalize xF 3 = yy3 at *
              obtain rfl := dd3
              obtain hbR := id hR
              rw [if_neg (by intro h; exact absurd (show false = true from h) Bool.false_ne_true)]
              try simp only [Act.put, List.setIfInBounds_toArray, List.set_cons_zero, List.set_cons_succ]
              exact hK.out _ _ (Below.refl _ _) (rfl) (fun _ _ _ => ⟨trivial, trivial⟩)
            refine FlowAll.cons ?_ ?_
            · intro xF w5 hR hd K hK
              have dd3 : ((xF 3) = .bool false) := hd 3 (by kernel_rfl)
              clear hd
              simp only [List.take_succ_cons, List.take_zero, fillOf, Act.put, List.setIfInBounds_toArray, List.set_cons_zero, List.set_cons_succ, Nat.reduceAdd, Nat.zero_add] at hK ⊢
              try generalize xF 3 = yy3 at *
              obtain rfl := dd3
              obtain hbR := id hR
              rw [if_neg (by intro h; exact absurd (show false = true from h) Bool.false_ne_true)]
              try simp only [Act.put, List.setIfInBounds_toArray, List.set_cons_zero, List.set_cons_succ]
              exact hK.out _ _ (Below.refl _ _) (rfl) (fun _ _ _ => ⟨trivial, trivial⟩)
            refine FlowAll.cons ?_ ?_
            · intro xF w5 hR hd K hK
              have dd3 : ((xF 3) = .bool false) := hd 3 (by kernel_rfl)
              clear hd
              simp only [List.take_succ_cons, List.take_zero, fillOf, Act.put, List.setIfInBounds_toArray, List.set_cons_zero, List.set_cons_succ, Nat.reduceAdd, Nat.zero_add] at hK ⊢
              try generalize xF 3 = yy3 at *
              obtain rfl := dd3
              obtain hbR := id hR
              rw [if_neg (by intro h; exact absurd (show false = true from h) Bool.false_ne_true)]
              try simp only [Act.put, List.setIfInBounds_toArray, List.set_cons_zero, List.set_cons_succ]
              exact hK.out _ _ (Below.refl _ _) (rfl) (fun _ _ _ => ⟨trivial, trivial⟩)
            refine FlowAll.cons ?_ ?_
            · intro xF w5 hR hd K hK
              have dd3 : ((xF 3) = .bool false) := hd 3 (by kernel_rfl)
              clear hd
              simp only [List.take_succ_cons, List.take_zero, fillOf, Act.put, List.setIfInBounds_toArray, List.set_cons_zero, List.set_cons_succ, Nat.reduceAdd, Nat.zero_add] at hK ⊢
              try generalize xF 3 = yy3 at *
              obtain rfl := dd3
              obtain hbR := id hR
              rw [if_neg (by intro h; exact absurd (show false = true from h) Bool.false_ne_true)]
              try simp only [Act.put, List.setIfInBounds_toArray, List.set_cons_zero, List.set_cons_succ]
              exact hK.out _ _ (Below.refl _ _) (rfl) (fun _ _ _ => ⟨trivial, trivial⟩)
            refine FlowAll.cons ?_ ?_
            · intro xF w5 hR hd K hK
              have dd3 : ((xF 3) = .bool false) := hd 3 (by kernel_rfl)
              clear hd
              simp only [List.take_succ_cons, List.take_zero, fillOf, Act.put, List.setIfInBounds_toArray, List.set_cons_zero, List.set_cons_succ, Nat.reduceAdd, Nat.zero_add] at hK ⊢
              try generalize xF 3 = yy3 at *
              obtain rfl := dd3
              obtain hbR := id hR
              rw [if_neg (by intro h; exact absurd (show false = true from h) Bool.false_ne_true)]
              try simp only [Act.put, List.setIfInBounds_toArray, List.set_cons_zero, List.set_cons_succ]
              exact hK.out _ _ (Below.refl _ _) (rfl) (fun _ _ _ => ⟨trivial, trivial⟩)
            refine FlowAll.cons ?_ ?_
            · intro xF w5 hR hd K hK
              have dd3 : ((xF 3) = .bool false) := hd 3 (by kernel_rfl)
              clear hd
              simp only [List.take_succ_cons, List.take_zero, fillOf, Act.put, List.setIfInBounds_toArray, List.set_cons_zero, List.set_cons_succ, Nat.reduceAdd, Nat.zero_add] at hK ⊢
              try generalize xF 3 = yy3 at *
              obtain rfl := dd3
              obtain hbR := id hR
              rw [if_neg (by intro h; exact absurd (show false = true from h) Bool.false_ne_true)]
              try simp only [Act.put, List.setIfInBounds_toArray, List.set_cons_zero, List.set_cons_succ]
              exact hK.out _ _ (Below.refl _ _) (rfl) (fun _ _ _ => ⟨trivial, trivial⟩)
            refine FlowAll.cons ?_ ?_
            · intro xF w5 hR hd K hK
              have dd3 : ((xF 3) = .bool false) := hd 3 (by kernel_rfl)
              have dd11 : ((xF 11) = undef) := hd 11 (by kernel_rfl)
              clear hd
              simp only [List.take_succ_cons, List.take_zero, fillOf, Act.put, List.setIfInBounds_toArray, List.set_cons_zero, List.set_cons_succ, Nat.reduceAdd, Nat.zero_add] at hK ⊢
              try generalize xF 3 = yy3 at *
              try generalize xF 11 = yy11 at *
              obtain rfl := dd3
              obtain rfl := dd11
              obtain hbR := id hR
              rw [if_pos (by rfl)]
              go_simp
              exact hK.out _ _ (Below.refl _ _) (rfl) (fun _ _ _ => ⟨trivial, trivial⟩)
            exact FlowAll.nil
          intro xF w5 hR hF hP
          clear hP
          have dd0 : ((xF 0) = .pointer (some ⟨wo.heap.size, 0, none⟩)) := hF 0 (by omega) (by decide)
          have dd1 : ((xF 1) = .int .i64 2) := hF 1 (by omega) (by decide)
          have dd2 : ((xF 2) = .bool false) := hF 2 (by omega) (by decide)
          have dd3 : ((xF 3) = .bool false) := hF 3 (by omega) (by decide)
          have dd4 : ((xF 4) = undef) := hF 4 (by omega) (by decide)
          have dd5 : ((xF 5) = undef) := hF 5 (by omega) (by decide)
          have dd6 : ((xF 6) = undef) := hF 6 (by omega) (by decide)
          have dd7 : ((xF 7) = undef) := hF 7 (by omega) (by decide)
          have dd8 : ((xF 8) = undef) := hF 8 (by omega) (by decide)
          have dd9 : ((xF 9) = undef) := hF 9 (by omega) (by decide)
          have dd10 : ((xF 10) = undef) := hF 10 (by omega) (by decide)
          have dd11 : ((xF 11) = undef) := hF 11 (by omega) (by decide)
          have dd12 : ((xF 12) = .bool false) := hF 12 (by omega) (by decide)
          clear hF
          simp only [List.take_succ_cons, List.take_zero, List.drop_succ_cons, List.drop_zero, fillOf, Act.put, List.setIfInBounds_toArray, List.set_cons_zero, List.set_cons_succ, Nat.reduceAdd, Nat.zero_add]
          try generalize xF 0 = yy0 at *
          try generalize xF 1 = yy1 at *
          try generalize xF 2 = yy2 at *
          try generalize xF 3 = yy3 at *
          try generalize xF 4 = yy4 at *
          try generalize xF 5 = yy5 at *
          try generalize xF 6 = yy6 at *
          try generalize xF 7 = yy7 at *
          try generalize xF 8 = yy8 at *
          try generalize xF 9 = yy9 at *
          try generalize xF 10 = yy10 at *
          try generalize xF 11 = yy11 at *
          try generalize xF 12 = yy12 at *
          clear xF
          obtain rfl := dd0
          obtain rfl := dd1
          obtain rfl := dd2
          obtain rfl := dd3
          obtain rfl := dd4
          obtain rfl := dd5
          obtain rfl := dd6
          obtain rfl := dd7
          obtain rfl := dd8
          obtain rfl := dd9
          obtain rfl := dd10
          obtain rfl := dd11
          obtain rfl := dd12
          have hRE := Lib.hid hR
          clear hR
          replace R3 := Lib.hid (R3.out.next hRE.out)
          replace B3 := Lib.hid (B3.out.trans (hRE.out.mono B3.out.size))
          have HZC : Hid (∀ W, Below w5.heap.size w5 W → ∀ (j : Nat) u, (at_.i64s Z)[j]? = some u → W.cell? ⟨gq, j, none⟩ = some u) := fun W hW => HZQ.out W (B3.out.trans (hW.mono B3.out.size))
          clear hRE HY HS2
          go_wp2
          refine wp_flow 10 (fun kF => match kF with | 0 => 4 | 4 => 9 | _ => 1000) (fun ww => RowKit.Below w5.heap.size w5 ww) (fun i w w' => if i = 9 then (fun (w w' : World) => RowKit.Below w5.heap.size w w') w w' else if i = 4 then (fun (w w' : World) => RowKit.Below w5.heap.size w w') w w' else (fun (w w' : World) => RowKit.Below w.heap.size w w') w w') (fun kF vF wF => match kF with | 0 => (∃ g, vF = .slice (some ⟨g, 0, none⟩) 0 0 ∧ wF.ownsRow w5.heap.size 3 1 (.slice (some ⟨g, 0, none⟩) 0 0) 0 []) | 1 => (vF = .slice (some ⟨gq, 0, none⟩) m wc) | 2 => (vF = .int .i64 (ja : Int)) | 3 => (∃ sp cp, vF = .slice sp ja cp ∧ (0 < ja → sp = some ⟨gq, 0, none⟩) ∧ sp ≠ none) | 4 => (∃ ao cp, vF = .slice ao ja cp ∧ wF.ownsRow w5.heap.size 3 1 (.slice ao ja cp) ja (at_.i64s (Z.take ja))) | 5 => (vF = .slice (some ⟨gq, 0, none⟩) m wc) | 6 => (vF = .int .i64 (ja : Int)) | 7 => (vF = .int .i64 ((ja : Int) + 1)) | 8 => (∃ sp cp, vF = .slice sp (m - (ja + 1)) cp ∧ (0 < m - (ja + 1) → sp = some ⟨gq, ja + 1, none⟩) ∧ sp ≠ none) | 9 => (∃ ao cp, vF = .slice ao mx cp ∧ wF.ownsRow w5.heap.size 3 1 (.slice ao mx cp) mx (at_.i64s Zx)) | _ => True) (fun _ _ _ _ => True) (by kernel_rfl) (by kernel_rfl) ?_ ?_ ?_ ?_ ?_
          · exact (Below.refl _ _).drew
          · intro iF wF1 wF2 hR hT
            have hT : (fun i w w' => if i = 9 then (fun (w w' : World) => RowKit.Below w5.heap.size w w') w w' else if i = 4 then (fun (w w' : World) => RowKit.Below w5.heap.size w w') w w' else (fun (w w' : World) => RowKit.Below w.heap.size w w') w w') iF wF1 wF2 := hT
            simp only at hT
            by_cases hi9 : iF = 9
            · rw [if_pos hi9] at hT; exact hR.trans hT
            rw [if_neg hi9] at hT
            by_cases hi4 : iF = 4
            · rw [if_pos hi4] at hT; exact hR.trans hT
            rw [if_neg hi4] at hT
            exact hR.trans (hT.mono hR.size)
          · intro kF hkF iF hiF hne hdd hanc hdan vF wF1 wF2 h hT
            rcases (by omega : kF = 0 ∨ kF = 1 ∨ kF = 2 ∨ kF = 3 ∨ kF = 4 ∨ kF = 5 ∨ kF = 6 ∨ kF = 7 ∨ kF = 8 ∨ kF = 9) with rfl | rfl | rfl | rfl | rfl | rfl | rfl | rfl | rfl | rfl
            · have h : (∃ g, vF = .slice (some ⟨g, 0, none⟩) 0 0 ∧ wF1.ownsRow w5.heap.size 3 1 (.slice (some ⟨g, 0, none⟩) 0 0) 0 []) := h
              show (∃ g, vF = .slice (some ⟨g, 0, none⟩) 0 0 ∧ wF2.ownsRow w5.heap.size 3 1 (.slice (some ⟨g, 0, none⟩) 0 0) 0 [])
              have hT : (fun i w w' => if i = 9 then (fun (w w' : World) => RowKit.Below w5.heap.size w w') w w' else if i = 4 then (fun (w w' : World) => RowKit.Below w5.heap.size w w') w w' else (fun (w w' : World) => RowKit.Below w.heap.size w w') w w') iF wF1 wF2 := hT
              simp only at hT
              by_cases hi9 : iF = 9
              · subst hi9; exact (anc_no hdan (by kernel_rfl)).elim
              rw [if_neg hi9] at hT
              by_cases hi4 : iF = 4
              · exact absurd hi4.symm hdd
              rw [if_neg hi4] at hT
              obtain ⟨g, e, ho⟩ := h
              exact ⟨g, e, own_stay ho hT⟩
            · exact h
            · exact h
            · exact h
            · have h : (∃ ao cp, vF = .slice ao ja cp ∧ wF1.ownsRow w5.heap.size 3 1 (.slice ao ja cp) ja (at_.i64s (Z.take ja))) := h
              show (∃ ao cp, vF = .slice ao ja cp ∧ wF2.ownsRow w5.heap.size 3 1 (.slice ao ja cp) ja (at_.i64s (Z.take ja)))
              have hT : (fun i w w' => if i = 9 then (fun (w w' : World) => RowKit.Below w5.heap.size w w') w w' else if i = 4 then (fun (w w' : World) => RowKit.Below w5.heap.size w w') w w' else (fun (w w' : World) => RowKit.Below w.heap.size w w') w w') iF wF1 wF2 := hT
              simp only at hT
              by_cases hi9 : iF = 9
              · exact absurd hi9.symm hdd
              rw [if_neg hi9] at hT
              by_cases hi4 : iF = 4
              · exact absurd hi4.symm hne
              rw [if_neg hi4] at hT
              obtain ⟨ao, cp, e, ho⟩ := h
              exact ⟨ao, cp, e, own_stay ho hT⟩
            · exact h
            · exact h
            · exact h
            · exact h
            · have h : (∃ ao cp, vF = .slice ao mx cp ∧ wF1.ownsRow w5.heap.size 3 1 (.slice ao mx cp) mx (at_.i64s Zx)) := h
              show (∃ ao cp, vF = .slice ao mx cp ∧ wF2.ownsRow w5.heap.size 3 1 (.slice ao mx cp) mx (at_.i64s Zx))
              have hT : (fun i w w' => if i = 9 then (fun (w w' : World) => RowKit.Below w5.heap.size w w') w w' else if i = 4 then (fun (w w' : World) => RowKit.Below w5.heap.size w w') w w' else (fun (w w' : World) => RowKit.Below w.heap.size w w') w w') iF wF1 wF2 := hT
              simp only at hT
              by_cases hi9 : iF = 9
              · exact absurd hi9.symm hne
              rw [if_neg hi9] at hT
              by_cases hi4 : iF = 4
              · subst hi4; exact (anc_no hanc (by kernel_rfl)).elim
              rw [if_neg hi4] at hT
              obtain ⟨ao, cp, e, ho⟩ := h
              exact ⟨ao, cp, e, own_stay ho hT⟩
          · refine FlowAll.cons ?_ ?_
            · intro xF wx hR hd K hK
              clear hd
              simp only [List.take_succ_cons, List.take_zero, fillOf, Act.put, List.setIfInBounds_toArray, List.set_cons_zero, List.set_cons_succ, Nat.reduceAdd, Nat.zero_add] at hK ⊢
              obtain hbR := id hR
              rw [if_pos (by rfl)]
              go_simp
              exact hK.out _ _ (below1) (⟨_, rfl, own_none _ hR.size 1⟩) (fun _ _ _ => ⟨trivial, trivial⟩)
            refine FlowAll.cons ?_ ?_
            · intro xF wx hR hd K hK
              clear hd
              simp only [List.take_succ_cons, List.take_zero, fillOf, Act.put, List.setIfInBounds_toArray, List.set_cons_zero, List.set_cons_succ, Nat.reduceAdd, Nat.zero_add] at hK ⊢
              obtain hbR := id hR
              rw [if_pos (by rfl)]
              go_simp
              exact hK.out _ _ (Below.refl _ _) (rfl) (fun _ _ _ => ⟨trivial, trivial⟩)
            refine FlowAll.cons ?_ ?_
            · intro xF wx hR hd K hK
              clear hd
              simp only [List.take_succ_cons, List.take_zero, fillOf, Act.put, List.setIfInBounds_toArray, List.set_cons_zero, List.set_cons_succ, Nat.reduceAdd, Nat.zero_add] at hK ⊢
              obtain hbR := id hR
              rw [if_pos (by rfl)]
              go_simp
              exact hK.out _ _ (Below.refl _ _) (rfl) (fun _ _ _ => ⟨trivial, trivial⟩)
            refine FlowAll.cons ?_ ?_
            · intro xF wx hR hd K hK
              have dd1 : ((xF 1) = .slice (some ⟨gq, 0, none⟩) m wc) := hd 1 (by kernel_rfl)
              have dd2 : ((xF 2) = .int .i64 (ja : Int)) := hd 2 (by kernel_rfl)
              clear hd
              simp only [List.take_succ_cons, List.take_zero, fillOf, Act.put, List.setIfInBounds_toArray, List.set_cons_zero, List.set_cons_succ, Nat.reduceAdd, Nat.zero_add] at hK ⊢
              try generalize xF 1 = yy1 at *
              try generalize xF 2 = yy2 at *
              obtain rfl := dd1
              obtain rfl := dd2
              obtain hbR := id hR
              have e1 : ja ≤ wc := by omega
              rw [if_pos (by rfl)]
              go_simp
              refine hK.out _ _ ?_ ?_ ?_
              · exact Below.refl _ _
              · refine ⟨_, _, rfl, (fun h => by first | rfl | (rw [if_neg (by omega)]) | simp), (by first | (intro h; cases h; done) | (split <;> simp))⟩
              · exact fun _ _ _ => ⟨trivial, trivial⟩
            refine FlowAll.cons ?_ ?_
            · intro xF wx hR hd K hK
              have dd0 : (∃ g, (xF 0) = .slice (some ⟨g, 0, none⟩) 0 0 ∧ wx.ownsRow w5.heap.size 3 1 (.slice (some ⟨g, 0, none⟩) 0 0) 0 []) := hd 0 (by kernel_rfl)
              have dd3 : (∃ sp cp, (xF 3) = .slice sp ja cp ∧ (0 < ja → sp = some ⟨gq, 0, none⟩) ∧ sp ≠ none) := hd 3 (by kernel_rfl)
              clear hd
              simp only [List.take_succ_cons, List.take_zero, fillOf, Act.put, List.setIfInBounds_toArray, List.set_cons_zero, List.set_cons_succ, Nat.reduceAdd, Nat.zero_add] at hK ⊢
              try generalize xF 0 = yy0 at *
              try generalize xF 3 = yy3 at *
              obtain ⟨g0, rfl, ho0⟩ := dd0
              obtain ⟨sp3, cp3, rfl, hsp3, hsn3⟩ := dd3
              obtain hbR := id hR
              rw [if_pos (by rfl)]
              refine kit.wp_of_list (fun Q' hQ' => ?_)
              have hN := sub_news (HZC.out _ hR) 0 (ja) hsp3
              refine kit.appN (.tmp 95) (.tmp 98) 47 rfl rfl w5.heap.size Try.underlying47 infoInt rfl (by decide) (by decide) ho0 rfl (at_.i64s ((Z.drop 0).take (ja))) rfl (by rw [at_.i64s_len, List.length_take, List.length_drop, ← HZL.out]; omega) (fun e => absurd e hsn3) hN at_.i64s_one (by omega) hR.size ?_
              intro vN wN hownN hbN
              refine hQ' _ _ ?_
              rw [Nat.zero_add, List.nil_append, List.drop_zero] at hownN
              obtain ⟨aoN, cpN, rfl⟩ := own_form4 hownN
              simp only [Act.put, List.setIfInBounds_toArray, List.set_cons_zero, List.set_cons_succ]
              exact hK.out _ _ (hbN) (⟨aoN, cpN, rfl, hownN⟩) (fun _ _ _ => ⟨trivial, trivial⟩)
            refine FlowAll.cons ?_ ?_
            · intro xF wx hR hd K hK
              clear hd
              simp only [List.take_succ_cons, List.take_zero, fillOf, Act.put, List.setIfInBounds_toArray, List.set_cons_zero, List.set_cons_succ, Nat.reduceAdd, Nat.zero_add] at hK ⊢
              obtain hbR := id hR
              rw [if_pos (by rfl)]
              go_simp
              exact hK.out _ _ (Below.refl _ _) (rfl) (fun _ _ _ => ⟨trivial, trivial⟩)
            refine FlowAll.cons ?_ ?_
            · intro xF wx hR hd K hK
              clear hd
              simp only [List.take_succ_cons, List.take_zero, fillOf, Act.put, List.setIfInBounds_toArray, List.set_cons_zero, List.set_cons_succ, Nat.reduceAdd, Nat.zero_add] at hK ⊢
              obtain hbR := id hR
              rw [if_pos (by rfl)]
              go_simp
              exact hK.out _ _ (Below.refl _ _) (rfl) (fun _ _ _ => ⟨trivial, trivial⟩)
            refine FlowAll.cons ?_ ?_
            · intro xF wx hR hd K hK
              have dd6 : ((xF 6) = .int .i64 (ja : Int)) := hd 6 (by kernel_rfl)
              clear hd
              simp only [List.take_succ_cons, List.take_zero, fillOf, Act.put, List.setIfInBounds_toArray, List.set_cons_zero, List.set_cons_succ, Nat.reduceAdd, Nat.zero_add] at hK ⊢
              try generalize xF 6 = yy6 at *
              obtain rfl := dd6
              obtain hbR := id hR
              have hjw : IntKind.i64.wrap ((ja : Int) + 1) = (ja : Int) + 1 := IntWalk.i64_in _ (by omega)
              rw [if_pos (by rfl)]
              go_simp
              exact hK.out _ _ (Below.refl _ _) (rfl) (fun _ _ _ => ⟨trivial, trivial⟩)
            refine FlowAll.cons ?_ ?_
            · intro xF wx hR hd K hK
              have dd5 : ((xF 5) = .slice (some ⟨gq, 0, none⟩) m wc) := hd 5 (by kernel_rfl)
              have dd7 : ((xF 7) = .int .i64 ((ja : Int) + 1)) := hd 7 (by kernel_rfl)
              clear hd
              simp only [List.take_succ_cons, List.take_zero, fillOf, Act.put, List.setIfInBounds_toArray, List.set_cons_zero, List.set_cons_succ, Nat.reduceAdd, Nat.zero_add] at hK ⊢
              try generalize xF 5 = yy5 at *
              try generalize xF 7 = yy7 at *
              obtain rfl := dd5
              obtain rfl := dd7
              obtain hbR := id hR
              have e1 : (0 : Int) ≤ (ja : Int) + 1 := by omega
              have e2 : (ja : Int) + 1 ≤ (m : Int) := by omega
              have e3 : ja + 1 ≤ m := by omega
              rw [if_pos (by rfl)]
              go_simp
              refine hK.out _ _ ?_ ?_ ?_
              · exact Below.refl _ _
              · refine ⟨_, _, rfl, (fun h => by first | rfl | (rw [if_neg (by omega)]) | simp), (by first | (intro h; cases h; done) | (split <;> simp))⟩
              · exact fun _ _ _ => ⟨trivial, trivial⟩
            refine FlowAll.cons ?_ ?_
            · intro xF wx hR hd K hK
              have dd4 : (∃ ao cp, (xF 4) = .slice ao ja cp ∧ wx.ownsRow w5.heap.size 3 1 (.slice ao ja cp) ja (at_.i64s (Z.take ja))) := hd 4 (by kernel_rfl)
              have dd8 : (∃ sp cp, (xF 8) = .slice sp (m - (ja + 1)) cp ∧ (0 < m - (ja + 1) → sp = some ⟨gq, ja + 1, none⟩) ∧ sp ≠ none) := hd 8 (by kernel_rfl)
              clear hd
              simp only [List.take_succ_cons, List.take_zero, fillOf, Act.put, List.setIfInBounds_toArray, List.set_cons_zero, List.set_cons_succ, Nat.reduceAdd, Nat.zero_add] at hK ⊢
              try generalize xF 4 = yy4 at *
              try generalize xF 8 = yy8 at *
              obtain ⟨ao4, cp4, rfl, ho4⟩ := dd4
              obtain ⟨sp8, cp8, rfl, hsp8, hsn8⟩ := dd8
              obtain hbR := id hR
              rw [if_pos (by rfl)]
              refine kit.wp_of_list (fun Q' hQ' => ?_)
              have hN := sub_news (HZC.out _ hR) (ja + 1) (m - (ja + 1)) hsp8
              refine kit.appN (.tmp 99) (.tmp 103) 47 rfl rfl w5.heap.size Try.underlying47 infoInt rfl (by decide) (by decide) ho4 rfl (at_.i64s ((Z.drop (ja + 1)).take (m - (ja + 1)))) rfl (by rw [at_.i64s_len, List.length_take, List.length_drop, ← HZL.out]; omega) (fun e => absurd e hsn8) hN at_.i64s_one (by omega) hR.size ?_
              intro vN wN hownN hbN
              refine hQ' _ _ ?_
              rw [HE2.out, ← HMX.out, HZXI.out] at hownN
              obtain ⟨aoN, cpN, rfl⟩ := own_form4 hownN
              simp only [Act.put, List.setIfInBounds_toArray, List.set_cons_zero, List.set_cons_succ]
              exact hK.out _ _ (hbN) (⟨aoN, cpN, rfl, hownN⟩) (fun _ _ _ => ⟨trivial, trivial⟩)
            exact FlowAll.nil
          intro xF wx hR hF hP
          clear hP
          have dd1 : ((xF 1) = .slice (some ⟨gq, 0, none⟩) m wc) := hF 1 (by omega) (by decide)
          have dd2 : ((xF 2) = .int .i64 (ja : Int)) := hF 2 (by omega) (by decide)
          have dd3 : (∃ sp cp, (xF 3) = .slice sp ja cp ∧ (0 < ja → sp = some ⟨gq, 0, none⟩) ∧ sp ≠ none) := hF 3 (by omega) (by decide)
          have dd5 : ((xF 5) = .slice (some ⟨gq, 0, none⟩) m wc) := hF 5 (by omega) (by decide)
          have dd6 : ((xF 6) = .int .i64 (ja : Int)) := hF 6 (by omega) (by decide)
          have dd7 : ((xF 7) = .int .i64 ((ja : Int) + 1)) := hF 7 (by omega) (by decide)
          have dd8 : (∃ sp cp, (xF 8) = .slice sp (m - (ja + 1)) cp ∧ (0 < m - (ja + 1) → sp = some ⟨gq, ja + 1, none⟩) ∧ sp ≠ none) := hF 8 (by omega) (by decide)
          have dd9 : (∃ ao cp, (xF 9) = .slice ao mx cp ∧ wx.ownsRow w5.heap.size 3 1 (.slice ao mx cp) mx (at_.i64s Zx)) := hF 9 (by omega) (by decide)
          clear hF
          simp only [List.take_succ_cons, List.take_zero, List.drop_succ_cons, List.drop_zero, fillOf, Act.put, List.setIfInBounds_toArray, List.set_cons_zero, List.set_cons_succ, Nat.reduceAdd, Nat.zero_add]
          try generalize xF 0 = yy0 at *
          try generalize xF 1 = yy1 at *
          try generalize xF 2 = yy2 at *
          try generalize xF 3 = yy3 at *
          try generalize xF 4 = yy4 at *
          try generalize xF 5 = yy5 at *
          try generalize xF 6 = yy6 at *
          try generalize xF 7 = yy7 at *
          try generalize xF 8 = yy8 at *
          try generalize xF 9 = yy9 at *
          clear xF
          obtain rfl := dd1
          obtain rfl := dd2
          obtain ⟨sp3, cp3, rfl, hsp3, hsn3⟩ := dd3
          obtain rfl := dd5
          obtain rfl := dd6
          obtain rfl := dd7
          obtain ⟨sp8, cp8, rfl, hsp8, hsn8⟩ := dd8
          obtain ⟨ao9, cp9, rfl, ho9⟩ := dd9
          have hRX := Lib.hid hR
          clear hR
          have KX : Hid (KeepS w wx (k + 1) a3 mx q3 ao9 cp9 Zx) := by
            show KeepS _ _ _ _ _ _ _ _ _
            exact K1.out.cut B3.out hin HZX.out HMX.out R3.out rfl hRX.out (own_base ho9 (Nat.le_trans HZ1.out B3.out.size))
          obtain ⟨lx, hlx⟩ : ∃ x, x = q3 := ⟨_, rfl⟩
          obtain ⟨cx, hcx⟩ : ∃ x, x = cp9 := ⟨_, rfl⟩
          obtain ⟨wax, hwax⟩ : ∃ x, x = ao9 := ⟨_, rfl⟩
          rw [← hlx, ← hcx, ← hwax] at KX ⊢
          clear hlx hcx hwax ho9
          as_aux_lemma =>
            have hmx : mx ≤ k + 1 := KX.out.2.2.2.1
            go_wp2
            go_loopw [143, 157] (fun i _ wq => ∃ q : Nat, i = .int .i64 q ∧ q ≤ mx ∧ Below wx.heap.size wx wq) (fun i _ _ => mx - (intOf i).toNat)
            case atStart => exact ⟨0, rfl, by omega, Below.refl _ _⟩
            case round =>
              obtain ⟨q, rfl, hq, hbq⟩ := hrel
              by_cases hqm : q < mx
              · have hqI : (q : Int) < (mx : Int) := by omega
                have KQ := Lib.hid (KX.out.next hbq)
                obtain ⟨z0, z1, hmz⟩ := KQ.out.num hqm
                obtain ⟨bb, ob, c, rfl, hR, hC⟩ := rows_cells KQ.out.rows KQ.out.len hqm hmz
                obtain ⟨gq, rfl, hZ⟩ := KQ.out.at' hqm
                obtain ⟨zz, hzz⟩ : ∃ x, x = Zx.getD q 0 := ⟨_, rfl⟩
                rw [← hzz] at z0 z1 hZ hR
                obtain ⟨mm, hmm⟩ : ∃ x, x = msgN zz := ⟨_, rfl⟩
                rw [← hmm] at hR
                obtain ⟨aex, nex, cex, aax, nax, cax, p1x, n1x, c1x, p2x, n2x, c2x, p3x, n3x, c3x, p4x, n4x, c4x, sax, snx, scx, rfl, g⟩ := hR
                have hR : msgRel wr wr.heap.size (#[.int .i64 mm.k, .int .i64 mm.f, .int .i64 mm.to, .int .i64 mm.g, .int .i64 mm.n, .slice aex nex cex, .slice aax nax cax, .slice p1x n1x c1x, .slice p2x n2x c2x, .slice p3x n3x c3x, .slice p4x n4x c4x, .int .i64 mm.ki, .string mm.mn, .string mm.mv, .slice sax snx scx, .int .i64 mm.er]).toList mm := ⟨aex, nex, cex, aax, nax, cax, p1x, n1x, c1x, p2x, n2x, c2x, p3x, n3x, c3x, p4x, n4x, c4x, sax, snx, scx, rfl, g⟩
                have HC := Lib.hid hC
                have HZ := Lib.hid hZ
                have HS : Hid (∀ (W : World) (c' : List Value), Below wr.heap.size wr W → msgRel W W.heap.size c' mm → Calls Try.prog 18 #[.agg #[.int .i64 mm.k, .int .i64 mm.f, .int .i64 mm.to, .int .i64 mm.g, .int .i64 mm.n, .slice aex nex cex, .slice aax nax cax, .slice p1x n1x c1x, .slice p2x n2x c2x, .slice p3x n3x c3x, .slice p4x n4x c4x, .int .i64 mm.ki, .string mm.mn, .string mm.mv, .slice sax snx scx, .int .i64 mm.er], .agg c'.toArray] W (Said true W)) := fun W c' hW h' => same_eq mm _ c' W (msgRel_steady _ _ _ _ _ _ hR hW hW.size) h'
                have HMQ : Hid (∀ W : World, Calls Try.prog 23 #[.int .i64 zz] W fun e w' => ∃ c, e = .returned (.agg (List.toArray c)) ∧ msgRel w' w'.heap.size c mm ∧ Below W.heap.size W w') := by
                  intro W; rw [hmm]; exact HM.out zz W ⟨z0, z1⟩
                clear g hR hC hZ hzz hmm hmz z0 z1 KQ
                go_wp2
                refine wp_flow 11 (fun _ => 1000) (fun ww => RowKit.Below wr.heap.size wr ww) (fun _ w w' => (fun (w w' : World) => RowKit.Below w.heap.size w w') w w') (fun kF vF wF => match kF with | 0 => (vF = .slice (some ⟨bb, ob, none⟩) mx lx) | 1 => (vF = .int .i64 (q : Int)) | 2 => (vF = .pointer (some ⟨bb, ob + q * 16, none⟩)) | 3 => (vF = .agg #[.int .i64 mm.k, .int .i64 mm.f, .int .i64 mm.to, .int .i64 mm.g, .int .i64 mm.n, .slice aex nex cex, .slice aax nax cax, .slice p1x n1x c1x, .slice p2x n2x c2x, .slice p3x n3x c3x, .slice p4x n4x c4x, .int .i64 mm.ki, .string mm.mn, .string mm.mv, .slice sax snx scx, .int .i64 mm.er]) | 4 => (vF = .slice (some ⟨gq, 0, none⟩) mx cx) | 5 => (vF = .int .i64 (q : Int)) | 6 => (vF = .pointer (some ⟨gq, q, none⟩)) | 7 => (vF = .int .i64 zz) | 8 => (∃ c, vF = .agg (List.toArray c) ∧ msgRel wF wF.heap.size c mm) | 9 => (vF = .bool true) | 10 => (vF = .bool false) | _ => True) (fun _ _ _ _ => True) (by kernel_rfl) (by kernel_rfl) ?_ ?_ ?_ ?_ ?_
                · exact (Below.refl _ _).drew
                · intro iF wF1 wF2 hR hT; exact hR.trans (hT.mono hR.size)
                · intro kF hkF iF hiF hne hdd hanc hdan vF wF1 wF2 h hT
                  rcases (by omega : kF = 0 ∨ kF = 1 ∨ kF = 2 ∨ kF = 3 ∨ kF = 4 ∨ kF = 5 ∨ kF = 6 ∨ kF = 7 ∨ kF = 8 ∨ kF = 9 ∨ kF = 10) with rfl | rfl | rfl | rfl | rfl | rfl | rfl | rfl | rfl | rfl | rfl
                  · exact h
                  · exact h
                  · exact h
                  · exact h
                  · exact h
                  · exact h
                  · exact h
                  · exact h
                  · have h : (∃ c, vF = .agg (List.toArray c) ∧ msgRel wF1 wF1.heap.size c mm) := h
                    show (∃ c, vF = .agg (List.toArray c) ∧ msgRel wF2 wF2.heap.size c mm)
                    have hT : (fun (w w' : World) => RowKit.Below w.heap.size w w') wF1 wF2 := hT
                    simp only at hT
                    obtain ⟨c, e, hr⟩ := h
                    exact ⟨c, e, msgRel_steady _ _ _ _ _ _ hr hT hT.size⟩
                  · exact h
                  · exact h
                · refine FlowAll.cons ?_ ?_
                  · intro xF ww hR hd K hK
                    clear hd
                    simp only [List.take_succ_cons, List.take_zero, fillOf, Act.put, List.setIfInBounds_toArray, List.set_cons_zero, List.set_cons_succ, Nat.reduceAdd, Nat.zero_add] at hK ⊢
                    obtain hbR := id hR
                    rw [if_pos (by rfl)]
                    go_simp
                    exact hK.out _ _ (Below.refl _ _) (rfl) (fun _ _ _ => ⟨trivial, trivial⟩)
                  refine FlowAll.cons ?_ ?_
                  · intro xF ww hR hd K hK
                    clear hd
                    simp only [List.take_succ_cons, List.take_zero, fillOf, Act.put, List.setIfInBounds_toArray, List.set_cons_zero, List.set_cons_succ, Nat.reduceAdd, Nat.zero_add] at hK ⊢
                    obtain hbR := id hR
                    rw [if_pos (by rfl)]
                    go_simp
                    exact hK.out _ _ (Below.refl _ _) (rfl) (fun _ _ _ => ⟨trivial, trivial⟩)
                  refine FlowAll.cons ?_ ?_
                  · intro xF ww hR hd K hK
                    have dd0 : ((xF 0) = .slice (some ⟨bb, ob, none⟩) mx lx) := hd 0 (by kernel_rfl)
                    have dd1 : ((xF 1) = .int .i64 (q : Int)) := hd 1 (by kernel_rfl)
                    clear hd
                    simp only [List.take_succ_cons, List.take_zero, fillOf, Act.put, List.setIfInBounds_toArray, List.set_cons_zero, List.set_cons_succ, Nat.reduceAdd, Nat.zero_add] at hK ⊢
                    try generalize xF 0 = yy0 at *
                    try generalize xF 1 = yy1 at *
                    obtain rfl := dd0
                    obtain rfl := dd1
                    obtain hbR := id hR
                    rw [if_pos (by rfl)]
                    go_simp
                    exact hK.out _ _ (Below.refl _ _) (rfl) (fun _ _ _ => ⟨trivial, trivial⟩)
                  refine FlowAll.cons ?_ ?_
                  · intro xF ww hR hd K hK
                    have dd2 : ((xF 2) = .pointer (some ⟨bb, ob + q * 16, none⟩)) := hd 2 (by kernel_rfl)
                    clear hd
                    simp only [List.take_succ_cons, List.take_zero, fillOf, Act.put, List.setIfInBounds_toArray, List.set_cons_zero, List.set_cons_succ, Nat.reduceAdd, Nat.zero_add] at hK ⊢
                    try generalize xF 2 = yy2 at *
                    obtain rfl := dd2
                    obtain hbR := id hR
                    have q0 : ww.cell? ⟨bb, ob + q * 16, none⟩ = _ := HC.out _ hR 0 _ rfl
                    have q1 := HC.out _ hR 1 _ rfl
                    have q2 := HC.out _ hR 2 _ rfl
                    have q3 := HC.out _ hR 3 _ rfl
                    have q4 := HC.out _ hR 4 _ rfl
                    have q5 := HC.out _ hR 5 _ rfl
                    have q6 := HC.out _ hR 6 _ rfl
                    have q7 := HC.out _ hR 7 _ rfl
                    have q8 := HC.out _ hR 8 _ rfl
                    have q9 := HC.out _ hR 9 _ rfl
                    have q10 := HC.out _ hR 10 _ rfl
                    have q11 := HC.out _ hR 11 _ rfl
                    have q12 := HC.out _ hR 12 _ rfl
                    have q13 := HC.out _ hR 13 _ rfl
                    have q14 := HC.out _ hR 14 _ rfl
                    have q15 := HC.out _ hR 15 _ rfl
                    rw [if_pos (by rfl)]
                    go_simp
                    exact hK.out _ _ (Below.refl _ _) (rfl) (fun _ _ _ => ⟨trivial, trivial⟩)
                  refine FlowAll.cons ?_ ?_
                  · intro xF ww hR hd K hK
                    clear hd
                    simp only [List.take_succ_cons, List.take_zero, fillOf, Act.put, List.setIfInBounds_toArray, List.set_cons_zero, List.set_cons_succ, Nat.reduceAdd, Nat.zero_add] at hK ⊢
                    obtain hbR := id hR
                    rw [if_pos (by rfl)]
                    go_simp
                    exact hK.out _ _ (Below.refl _ _) (rfl) (fun _ _ _ => ⟨trivial, trivial⟩)
                  refine FlowAll.cons ?_ ?_
                  · intro xF ww hR hd K hK
                    clear hd
                    simp only [List.take_succ_cons, List.take_zero, fillOf, Act.put, List.setIfInBounds_toArray, List.set_cons_zero, List.set_cons_succ, Nat.reduceAdd, Nat.zero_add] at hK ⊢
                    obtain hbR := id hR
                    rw [if_pos (by rfl)]
                    go_simp
                    exact hK.out _ _ (Below.refl _ _) (rfl) (fun _ _ _ => ⟨trivial, trivial⟩)
                  refine FlowAll.cons ?_ ?_
                  · intro xF ww hR hd K hK
                    have dd4 : ((xF 4) = .slice (some ⟨gq, 0, none⟩) mx cx) := hd 4 (by kernel_rfl)
                    have dd5 : ((xF 5) = .int .i64 (q : Int)) := hd 5 (by kernel_rfl)
                    clear hd
                    simp only [List.take_succ_cons, List.take_zero, fillOf, Act.put, List.setIfInBounds_toArray, List.set_cons_zero, List.set_cons_succ, Nat.reduceAdd, Nat.zero_add] at hK ⊢
                    try generalize xF 4 = yy4 at *
                    try generalize xF 5 = yy5 at *
                    obtain rfl := dd4
                    obtain rfl := dd5
                    obtain hbR := id hR
                    rw [if_pos (by rfl)]
                    go_simp
                    exact hK.out _ _ (Below.refl _ _) (rfl) (fun _ _ _ => ⟨trivial, trivial⟩)
                  refine FlowAll.cons ?_ ?_
                  · intro xF ww hR hd K hK
                    have dd6 : ((xF 6) = .pointer (some ⟨gq, q, none⟩)) := hd 6 (by kernel_rfl)
                    clear hd
                    simp only [List.take_succ_cons, List.take_zero, fillOf, Act.put, List.setIfInBounds_toArray, List.set_cons_zero, List.set_cons_succ, Nat.reduceAdd, Nat.zero_add] at hK ⊢
                    try generalize xF 6 = yy6 at *
                    obtain rfl := dd6
                    obtain hbR := id hR
                    have q0 := HZ.out _ hR
                    rw [if_pos (by rfl)]
                    go_simp
                    exact hK.out _ _ (Below.refl _ _) (rfl) (fun _ _ _ => ⟨trivial, trivial⟩)
                  refine FlowAll.cons ?_ ?_
                  · intro xF ww hR hd K hK
                    have dd7 : ((xF 7) = .int .i64 zz) := hd 7 (by kernel_rfl)
                    clear hd
                    simp only [List.take_succ_cons, List.take_zero, fillOf, Act.put, List.setIfInBounds_toArray, List.set_cons_zero, List.set_cons_succ, Nat.reduceAdd, Nat.zero_add] at hK ⊢
                    try generalize xF 7 = yy7 at *
                    obtain rfl := dd7
                    obtain hbR := id hR
                    rw [if_pos (by rfl)]
                    go_simp
                    (go_at_call 23; (with_reducible refine (HMQ.out _).mono ?_); rintro e wK ⟨cK, rfl, hrK, hbK⟩)
                    try go_wp2_with fail
                    exact hK.out _ _ (hbK) (⟨cK, rfl, hrK⟩) (fun _ _ _ => ⟨trivial, trivial⟩)
                  refine FlowAll.cons ?_ ?_
                  · intro xF ww hR hd K hK
                    have dd3 : ((xF 3) = .agg #[.int .i64 mm.k, .int .i64 mm.f, .int .i64 mm.to, .int .i64 mm.g, .int .i64 mm.n, .slice aex nex cex, .slice aax nax cax, .slice p1x n1x c1x, .slice p2x n2x c2x, .slice p3x n3x c3x, .slice p4x n4x c4x, .int .i64 mm.ki, .string mm.mn, .string mm.mv, .slice sax snx scx, .int .i64 mm.er]) := hd 3 (by kernel_rfl)
                    have dd8 : (∃ c, (xF 8) = .agg (List.toArray c) ∧ msgRel ww ww.heap.size c mm) := hd 8 (by kernel_rfl)
                    clear hd
                    simp only [List.take_succ_cons, List.take_zero, fillOf, Act.put, List.setIfInBounds_toArray, List.set_cons_zero, List.set_cons_succ, Nat.reduceAdd, Nat.zero_add] at hK ⊢
                    try generalize xF 3 = yy3 at *
                    try generalize xF 8 = yy8 at *
                    obtain rfl := dd3
                    obtain ⟨c8, rfl, hr8⟩ := dd8
                    obtain hbR := id hR
                    rw [if_pos (by rfl)]
                    go_simp
                    (go_at_call 18; (with_reducible refine (HS.out _ c8 hR hr8).mono ?_); rintro e wK ⟨rfl, hbK⟩)
                    try go_wp2_with fail
                    exact hK.out _ _ (hbK) (rfl) (fun _ _ _ => ⟨trivial, trivial⟩)
                  refine FlowAll.cons ?_ ?_
                  · intro xF ww hR hd K hK
                    have dd9 : ((xF 9) = .bool true) := hd 9 (by kernel_rfl)
                    clear hd
                    simp only [List.take_succ_cons, List.take_zero, fillOf, Act.put, List.setIfInBounds_toArray, List.set_cons_zero, List.set_cons_succ, Nat.reduceAdd, Nat.zero_add] at hK ⊢
                    try generalize xF 9 = yy9 at *
                    obtain rfl := dd9
                    obtain hbR := id hR
                    rw [if_pos (by rfl)]
                    go_simp
                    exact hK.out _ _ (Below.refl _ _) (rfl) (fun _ _ _ => ⟨trivial, trivial⟩)
                  exact FlowAll.nil
                intro xF ww hR hF hP
                clear hP
                have dd0 : ((xF 0) = .slice (some ⟨bb, ob, none⟩) mx lx) := hF 0 (by omega) (by decide)
                have dd1 : ((xF 1) = .int .i64 (q : Int)) := hF 1 (by omega) (by decide)
                have dd2 : ((xF 2) = .pointer (some ⟨bb, ob + q * 16, none⟩)) := hF 2 (by omega) (by decide)
                have dd3 : ((xF 3) = .agg #[.int .i64 mm.k, .int .i64 mm.f, .int .i64 mm.to, .int .i64 mm.g, .int .i64 mm.n, .slice aex nex cex, .slice aax nax cax, .slice p1x n1x c1x, .slice p2x n2x c2x, .slice p3x n3x c3x, .slice p4x n4x c4x, .int .i64 mm.ki, .string mm.mn, .string mm.mv, .slice sax snx scx, .int .i64 mm.er]) := hF 3 (by omega) (by decide)
                have dd4 : ((xF 4) = .slice (some ⟨gq, 0, none⟩) mx cx) := hF 4 (by omega) (by decide)
                have dd5 : ((xF 5) = .int .i64 (q : Int)) := hF 5 (by omega) (by decide)
                have dd6 : ((xF 6) = .pointer (some ⟨gq, q, none⟩)) := hF 6 (by omega) (by decide)
                have dd7 : ((xF 7) = .int .i64 zz) := hF 7 (by omega) (by decide)
                have dd8 : (∃ c, (xF 8) = .agg (List.toArray c) ∧ msgRel ww ww.heap.size c mm) := hF 8 (by omega) (by decide)
                have dd9 : ((xF 9) = .bool true) := hF 9 (by omega) (by decide)
                have dd10 : ((xF 10) = .bool false) := hF 10 (by omega) (by decide)
                clear hF
                simp only [List.take_succ_cons, List.take_zero, List.drop_succ_cons, List.drop_zero, fillOf, Act.put, List.setIfInBounds_toArray, List.set_cons_zero, List.set_cons_succ, Nat.reduceAdd, Nat.zero_add]
                try generalize xF 0 = yy0 at *
                try generalize xF 1 = yy1 at *
                try generalize xF 2 = yy2 at *
                try generalize xF 3 = yy3 at *
                try generalize xF 4 = yy4 at *
                try generalize xF 5 = yy5 at *
                try generalize xF 6 = yy6 at *
                try generalize xF 7 = yy7 at *
                try generalize xF 8 = yy8 at *
                try generalize xF 9 = yy9 at *
                try generalize xF 10 = yy10 at *
                clear xF
                obtain rfl := dd0
                obtain rfl := dd1
                obtain rfl := dd2
                obtain rfl := dd3
                obtain rfl := dd4
                obtain rfl := dd5
                obtain rfl := dd6
                obtain rfl := dd7
                obtain ⟨c8, rfl, hr8⟩ := dd8
                obtain rfl := dd9
                obtain rfl := dd10
                have hRE := Lib.hid hR
                clear hR
                go_wp2
                go_roundw
                case rel => exact ⟨q + 1, by go_num, by omega, hbq.trans (hRE.out.mono hbq.size)⟩
                case measure => simp [intOf]; omega
              · go_wp2
                go_roundw
                case rel => exact ⟨k + 1, _, _, _, _, _, Zx, by go_num, rfl, rfl, by omega, KX.out.next hbq⟩
                case measure => simp [intOf]; omega
      · as_aux_lemma =>
          have hinI : ¬ (ja : Int) < (m : Int) := by omega
          have HOI : Hid (¬ (0 ≤ (ja : Int) ∧ (ja : Int) < ((Z.map msgN).length : Int))) := by show ¬ _; rw [← HLN.out]; omega
          have HS2 := Lib.hid (take_out (Z.map msgN) (.slice la m lc) ja w1 K1.out.rows (by rw [← HLN.out]; omega) K1.out.fit HOI.out)
          go_wp2_with fail
          rw [← HW1.out]
          (with_reducible refine HS2.out.mono ?_)
          rintro e w2 ⟨rfl, b2⟩
          obtain ⟨w3, hw3⟩ : ∃ W, W = w2.alloc (.cells #[.int .i64 0, .int .i64 0, .int .i64 0, .int .i64 0, .int .i64 0, .slice none 0 0, .slice none 0 0, .slice none 0 0, .slice none 0 0, .slice none 0 0, .slice none 0 0, .int .i64 0, .string ⟨#[]⟩, .string ⟨#[]⟩, .slice none 0 0, .int .i64 0] 34) := ⟨_, rfl⟩
          have b3 : Below w2.heap.size w2 w3 := by rw [hw3]; exact below1
          have B3 := Lib.hid (b2.trans (b3.mono b2.size))
          have K3 := Lib.hid (K1.out.next B3.out)
          have y10 : (w2.alloc (.cells #[.int .i64 0, .int .i64 0, .int .i64 0, .int .i64 0, .int .i64 0, .slice none 0 0, .slice none 0 0, .slice none 0 0, .slice none 0 0, .slice none 0 0, .slice none 0 0, .int .i64 0, .string ⟨#[]⟩, .string ⟨#[]⟩, .slice none 0 0, .int .i64 0] 34)).cell? ⟨wo.heap.size, 0, none⟩ = some (.int .i64 2) := by rw [← hw3]; exact boxc (X1.out _ B3.out) 0 _ rfl
          clear b2 b3
          go_wp2_with fail
          rw [← hw3]
          clear hw3 y10
          have HL3 := Lib.hid (lose_out (Z.map msgN) (.slice la m lc) ja w3 K3.out.rows (by rw [← HLN.out]; omega) K3.out.fit HOI.out)
          (with_reducible refine HL3.out.mono ?_)
          rintro e wx ⟨rfl, b4⟩
          replace B3 := Lib.hid (B3.out.trans (b4.mono B3.out.size))
          replace K3 := Lib.hid (K3.out.next b4)
          have y10 := boxc (X1.out wx B3.out) 0 _ rfl
          clear b4 HL3
          obtain ⟨Zx, hZx⟩ : ∃ x, x = Z := ⟨_, rfl⟩
          obtain ⟨mx, hmx0⟩ : ∃ x, x = m := ⟨_, rfl⟩
          obtain ⟨lx, hlx⟩ : ∃ x, x = lc := ⟨_, rfl⟩
          obtain ⟨cx, hcx⟩ : ∃ x, x = wc := ⟨_, rfl⟩
          have KX : Hid (KeepS w wx (k + 1) la mx lx wa cx Zx) := by
            rw [hmx0, hlx, hcx, hZx]
            obtain ⟨g1, g2, g3, g4, g5, g6⟩ := K3.out
            exact ⟨g1, g2, g3, by omega, g5, g6⟩
          have hinX : ¬ (ja : Int) < (mx : Int) := by omega
          have hinY : ¬ ja < mx := by omega
          have hinZ : decide (ja < mx) = false := decide_eq_false hinY
          rw [← hmx0, ← hlx, ← hcx]
          clear hmx0 hlx hcx hZx
          as_aux_lemma =>
            have hmx : mx ≤ k + 1 := KX.out.2.2.2.1
            go_wp2
            go_loopw [143, 157] (fun i _ wq => ∃ q : Nat, i = .int .i64 q ∧ q ≤ mx ∧ Below wx.heap.size wx wq) (fun i _ _ => mx - (intOf i).toNat)
            case atStart => exact ⟨0, rfl, by omega, Below.refl _ _⟩
            case round =>
              obtain ⟨q, rfl, hq, hbq⟩ := hrel
              by_cases hqm : q < mx
              · have hqI : (q : Int) < (mx : Int) := by omega
                have KQ := Lib.hid (KX.out.next hbq)
                obtain ⟨z0, z1, hmz⟩ := KQ.out.num hqm
                obtain ⟨bb, ob, c, rfl, hR, hC⟩ := rows_cells KQ.out.rows KQ.out.len hqm hmz
                obtain ⟨gq, rfl, hZ⟩ := KQ.out.at' hqm
                obtain ⟨zz, hzz⟩ : ∃ x, x = Zx.getD q 0 := ⟨_, rfl⟩
                rw [← hzz] at z0 z1 hZ hR
                obtain ⟨mm, hmm⟩ : ∃ x, x = msgN zz := ⟨_, rfl⟩
                rw [← hmm] at hR
                obtain ⟨aex, nex, cex, aax, nax, cax, p1x, n1x, c1x, p2x, n2x, c2x, p3x, n3x, c3x, p4x, n4x, c4x, sax, snx, scx, rfl, g⟩ := hR
                have hR : msgRel wr wr.heap.size (#[.int .i64 mm.k, .int .i64 mm.f, .int .i64 mm.to, .int .i64 mm.g, .int .i64 mm.n, .slice aex nex cex, .slice aax nax cax, .slice p1x n1x c1x, .slice p2x n2x c2x, .slice p3x n3x c3x, .slice p4x n4x c4x, .int .i64 mm.ki, .string mm.mn, .string mm.mv, .slice sax snx scx, .int .i64 mm.er]).toList mm := ⟨aex, nex, cex, aax, nax, cax, p1x, n1x, c1x, p2x, n2x, c2x, p3x, n3x, c3x, p4x, n4x, c4x, sax, snx, scx, rfl, g⟩
                have HC := Lib.hid hC
                have HZ := Lib.hid hZ
                have HS : Hid (∀ (W : World) (c' : List Value), Below wr.heap.size wr W → msgRel W W.heap.size c' mm → Calls Try.prog 18 #[.agg #[.int .i64 mm.k, .int .i64 mm.f, .int .i64 mm.to, .int .i64 mm.g, .int .i64 mm.n, .slice aex nex cex, .slice aax nax cax, .slice p1x n1x c1x, .slice p2x n2x c2x, .slice p3x n3x c3x, .slice p4x n4x c4x, .int .i64 mm.ki, .string mm.mn, .string mm.mv, .slice sax snx scx, .int .i64 mm.er], .agg c'.toArray] W (Said true W)) := fun W c' hW h' => same_eq mm _ c' W (msgRel_steady _ _ _ _ _ _ hR hW hW.size) h'
                have HMQ : Hid (∀ W : World, Calls Try.prog 23 #[.int .i64 zz] W fun e w' => ∃ c, e = .returned (.agg (List.toArray c)) ∧ msgRel w' w'.heap.size c mm ∧ Below W.heap.size W w') := by
                  intro W; rw [hmm]; exact HM.out zz W ⟨z0, z1⟩
                clear g hR hC hZ hzz hmm hmz z0 z1 KQ
                go_wp2
                refine wp_flow 11 (fun _ => 1000) (fun ww => RowKit.Below wr.heap.size wr ww) (fun _ w w' => (fun (w w' : World) => RowKit.Below w.heap.size w w') w w') (fun kF vF wF => match kF with | 0 => (vF = .slice (some ⟨bb, ob, none⟩) mx lx) | 1 => (vF = .int .i64 (q : Int)) | 2 => (vF = .pointer (some ⟨bb, ob + q * 16, none⟩)) | 3 => (vF = .agg #[.int .i64 mm.k, .int .i64 mm.f, .int .i64 mm.to, .int .i64 mm.g, .int .i64 mm.n, .slice aex nex cex, .slice aax nax cax, .slice p1x n1x c1x, .slice p2x n2x c2x, .slice p3x n3x c3x, .slice p4x n4x c4x, .int .i64 mm.ki, .string mm.mn, .string mm.mv, .slice sax snx scx, .int .i64 mm.er]) | 4 => (vF = .slice (some ⟨gq, 0, none⟩) mx cx) | 5 => (vF = .int .i64 (q : Int)) | 6 => (vF = .pointer (some ⟨gq, q, none⟩)) | 7 => (vF = .int .i64 zz) | 8 => (∃ c, vF = .agg (List.toArray c) ∧ msgRel wF wF.heap.size c mm) | 9 => (vF = .bool true) | 10 => (vF = .bool false) | _ => True) (fun _ _ _ _ => True) (by kernel_rfl) (by kernel_rfl) ?_ ?_ ?_ ?_ ?_
                · exact (Below.refl _ _).drew
                · intro iF wF1 wF2 hR hT; exact hR.trans (hT.mono hR.size)
                · intro kF hkF iF hiF hne hdd hanc hdan vF wF1 wF2 h hT
                  rcases (by omega : kF = 0 ∨ kF = 1 ∨ kF = 2 ∨ kF = 3 ∨ kF = 4 ∨ kF = 5 ∨ kF = 6 ∨ kF = 7 ∨ kF = 8 ∨ kF = 9 ∨ kF = 10) with rfl | rfl | rfl | rfl | rfl | rfl | rfl | rfl | rfl | rfl | rfl
                  · exact h
                  · exact h
                  · exact h
                  · exact h
                  · exact h
                  · exact h
                  · exact h
                  · exact h
                  · have h : (∃ c, vF = .agg (List.toArray c) ∧ msgRel wF1 wF1.heap.size c mm) := h
                    show (∃ c, vF = .agg (List.toArray c) ∧ msgRel wF2 wF2.heap.size c mm)
                    have hT : (fun (w w' : World) => RowKit.Below w.heap.size w w') wF1 wF2 := hT
                    simp only at hT
                    obtain ⟨c, e, hr⟩ := h
                    exact ⟨c, e, msgRel_steady _ _ _ _ _ _ hr hT hT.size⟩
                  · exact h
                  · exact h
                · refine FlowAll.cons ?_ ?_
                  · intro xF ww hR hd K hK
                    clear hd
                    simp only [List.take_succ_cons, List.take_zero, fillOf, Act.put, List.setIfInBounds_toArray, List.set_cons_zero, List.set_cons_succ, Nat.reduceAdd, Nat.zero_add] at hK ⊢
                    obtain hbR := id hR
                    rw [if_pos (by rfl)]
                    go_simp
                    exact hK.out _ _ (Below.refl _ _) (rfl) (fun _ _ _ => ⟨trivial, trivial⟩)
                  refine FlowAll.cons ?_ ?_
                  · intro xF ww hR hd K hK
                    clear hd
                    simp only [List.take_succ_cons, List.take_zero, fillOf, Act.put, List.setIfInBounds_toArray, List.set_cons_zero, List.set_cons_succ, Nat.reduceAdd, Nat.zero_add] at hK ⊢
                    obtain hbR := id hR
                    rw [if_pos (by rfl)]
                    go_simp
                    exact hK.out _ _ (Below.refl _ _) (rfl) (fun _ _ _ => ⟨trivial, trivial⟩)
                  refine FlowAll.cons ?_ ?_
                  · intro xF ww hR hd K hK
                    have dd0 : ((xF 0) = .slice (some ⟨bb, ob, none⟩) mx lx) := hd 0 (by kernel_rfl)
                    have dd1 : ((xF 1) = .int .i64 (q : Int)) := hd 1 (by kernel_rfl)
                    clear hd
                    simp only [List.take_succ_cons, List.take_zero, fillOf, Act.put, List.setIfInBounds_toArray, List.set_cons_zero, List.set_cons_succ, Nat.reduceAdd, Nat.zero_add] at hK ⊢
                    try generalize xF 0 = yy0 at *
                    try generalize xF 1 = yy1 at *
                    obtain rfl := dd0
                    obtain rfl := dd1
                    obtain hbR := id hR
                    rw [if_pos (by rfl)]
                    go_simp
                    exact hK.out _ _ (Below.refl _ _) (rfl) (fun _ _ _ => ⟨trivial, trivial⟩)
                  refine FlowAll.cons ?_ ?_
                  · intro xF ww hR hd K hK
                    have dd2 : ((xF 2) = .pointer (some ⟨bb, ob + q * 16, none⟩)) := hd 2 (by kernel_rfl)
                    clear hd
                    simp only [List.take_succ_cons, List.take_zero, fillOf, Act.put, List.setIfInBounds_toArray, List.set_cons_zero, List.set_cons_succ, Nat.reduceAdd, Nat.zero_add] at hK ⊢
                    try generalize xF 2 = yy2 at *
                    obtain rfl := dd2
                    obtain hbR := id hR
                    have q0 : ww.cell? ⟨bb, ob + q * 16, none⟩ = _ := HC.out _ hR 0 _ rfl
                    have q1 := HC.out _ hR 1 _ rfl
                    have q2 := HC.out _ hR 2 _ rfl
                    have q3 := HC.out _ hR 3 _ rfl
                    have q4 := HC.out _ hR 4 _ rfl
                    have q5 := HC.out _ hR 5 _ rfl
                    have q6 := HC.out _ hR 6 _ rfl
                    have q7 := HC.out _ hR 7 _ rfl
                    have q8 := HC.out _ hR 8 _ rfl
                    have q9 := HC.out _ hR 9 _ rfl
                    have q10 := HC.out _ hR 10 _ rfl
                    have q11 := HC.out _ hR 11 _ rfl
                    have q12 := HC.out _ hR 12 _ rfl
                    have q13 := HC.out _ hR 13 _ rfl
                    have q14 := HC.out _ hR 14 _ rfl
                    have q15 := HC.out _ hR 15 _ rfl
                    rw [if_pos (by rfl)]
                    go_simp
                    exact hK.out _ _ (Below.refl _ _) (rfl) (fun _ _ _ => ⟨trivial, trivial⟩)
                  refine FlowAll.cons ?_ ?_
                  · intro xF ww hR hd K hK
                    clear hd
                    simp only [List.take_succ_cons, List.take_zero, fillOf, Act.put, List.setIfInBounds_toArray, List.set_cons_zero, List.set_cons_succ, Nat.reduceAdd, Nat.zero_add] at hK ⊢
                    obtain hbR := id hR
                    rw [if_pos (by rfl)]
                    go_simp
                    exact hK.out _ _ (Below.refl _ _) (rfl) (fun _ _ _ => ⟨trivial, trivial⟩)
                  refine FlowAll.cons ?_ ?_
                  · intro xF ww hR hd K hK
                    clear hd
                    simp only [List.take_succ_cons, List.take_zero, fillOf, Act.put, List.setIfInBounds_toArray, List.set_cons_zero, List.set_cons_succ, Nat.reduceAdd, Nat.zero_add] at hK ⊢
                    obtain hbR := id hR
                    rw [if_pos (by rfl)]
                    go_simp
                    exact hK.out _ _ (Below.refl _ _) (rfl) (fun _ _ _ => ⟨trivial, trivial⟩)
                  refine FlowAll.cons ?_ ?_
                  · intro xF ww hR hd K hK
                    have dd4 : ((xF 4) = .slice (some ⟨gq, 0, none⟩) mx cx) := hd 4 (by kernel_rfl)
                    have dd5 : ((xF 5) = .int .i64 (q : Int)) := hd 5 (by kernel_rfl)
                    clear hd
                    simp only [List.take_succ_cons, List.take_zero, fillOf, Act.put, List.setIfInBounds_toArray, List.set_cons_zero, List.set_cons_succ, Nat.reduceAdd, Nat.zero_add] at hK ⊢
                    try generalize xF 4 = yy4 at *
                    try generalize xF 5 = yy5 at *
                    obtain rfl := dd4
                    obtain rfl := dd5
                    obtain hbR := id hR
                    rw [if_pos (by rfl)]
                    go_simp
                    exact hK.out _ _ (Below.refl _ _) (rfl) (fun _ _ _ => ⟨trivial, trivial⟩)
                  refine FlowAll.cons ?_ ?_
                  · intro xF ww hR hd K hK
                    have dd6 : ((xF 6) = .pointer (some ⟨gq, q, none⟩)) := hd 6 (by kernel_rfl)
                    clear hd
                    simp only [List.take_succ_cons, List.take_zero, fillOf, Act.put, List.setIfInBounds_toArray, List.set_cons_zero, List.set_cons_succ, Nat.reduceAdd, Nat.zero_add] at hK ⊢
                    try generalize xF 6 = yy6 at *
                    obtain rfl := dd6
                    obtain hbR := id hR
                    have q0 := HZ.out _ hR
                    rw [if_pos (by rfl)]
                    go_simp
                    exact hK.out _ _ (Below.refl _ _) (rfl) (fun _ _ _ => ⟨trivial, trivial⟩)
                  refine FlowAll.cons ?_ ?_
                  · intro xF ww hR hd K hK
                    have dd7 : ((xF 7) = .int .i64 zz) := hd 7 (by kernel_rfl)
                    clear hd
                    simp only [List.take_succ_cons, List.take_zero, fillOf, Act.put, List.setIfInBounds_toArray, List.set_cons_zero, List.set_cons_succ, Nat.reduceAdd, Nat.zero_add] at hK ⊢
                    try generalize xF 7 = yy7 at *
                    obtain rfl := dd7
                    obtain hbR := id hR
                    rw [if_pos (by rfl)]
                    go_simp
                    (go_at_call 23; (with_reducible refine (HMQ.out _).mono ?_); rintro e wK ⟨cK, rfl, hrK, hbK⟩)
                    try go_wp2_with fail
                    exact hK.out _ _ (hbK) (⟨cK, rfl, hrK⟩) (fun _ _ _ => ⟨trivial, trivial⟩)
                  refine FlowAll.cons ?_ ?_
                  · intro xF ww hR hd K hK
                    have dd3 : ((xF 3) = .agg #[.int .i64 mm.k, .int .i64 mm.f, .int .i64 mm.to, .int .i64 mm.g, .int .i64 mm.n, .slice aex nex cex, .slice aax nax cax, .slice p1x n1x c1x, .slice p2x n2x c2x, .slice p3x n3x c3x, .slice p4x n4x c4x, .int .i64 mm.ki, .string mm.mn, .string mm.mv, .slice sax snx scx, .int .i64 mm.er]) := hd 3 (by kernel_rfl)
                    have dd8 : (∃ c, (xF 8) = .agg (List.toArray c) ∧ msgRel ww ww.heap.size c mm) := hd 8 (by kernel_rfl)
                    clear hd
                    simp only [List.take_succ_cons, List.take_zero, fillOf, Act.put, List.setIfInBounds_toArray, List.set_cons_zero, List.set_cons_succ, Nat.reduceAdd, Nat.zero_add] at hK ⊢
                    try generalize xF 3 = yy3 at *
                    try generalize xF 8 = yy8 at *
                    obtain rfl := dd3
                    obtain ⟨c8, rfl, hr8⟩ := dd8
                    obtain hbR := id hR
                    rw [if_pos (by rfl)]
                    go_simp
                    (go_at_call 18; (with_reducible refine (HS.out _ c8 hR hr8).mono ?_); rintro e wK ⟨rfl, hbK⟩)
                    try go_wp2_with fail
                    exact hK.out _ _ (hbK) (rfl) (fun _ _ _ => ⟨trivial, trivial⟩)
                  refine FlowAll.cons ?_ ?_
                  · intro xF ww hR hd K hK
                    have dd9 : ((xF 9) = .bool true) := hd 9 (by kernel_rfl)
                    clear hd
                    simp only [List.take_succ_cons, List.take_zero, fillOf, Act.put, List.setIfInBounds_toArray, List.set_cons_zero, List.set_cons_succ, Nat.reduceAdd, Nat.zero_add] at hK ⊢
                    try generalize xF 9 = yy9 at *
                    obtain rfl := dd9
                    obtain hbR := id hR
                    rw [if_pos (by rfl)]
                    go_simp
                    exact hK.out _ _ (Below.refl _ _) (rfl) (fun _ _ _ => ⟨trivial, trivial⟩)
                  exact FlowAll.nil
                intro xF ww hR hF hP
                clear hP
                have dd0 : ((xF 0) = .slice (some ⟨bb, ob, none⟩) mx lx) := hF 0 (by omega) (by decide)
                have dd1 : ((xF 1) = .int .i64 (q : Int)) := hF 1 (by omega) (by decide)
                have dd2 : ((xF 2) = .pointer (some ⟨bb, ob + q * 16, none⟩)) := hF 2 (by omega) (by decide)
                have dd3 : ((xF 3) = .agg #[.int .i64 mm.k, .int .i64 mm.f, .int .i64 mm.to, .int .i64 mm.g, .int .i64 mm.n, .slice aex nex cex, .slice aax nax cax, .slice p1x n1x c1x, .slice p2x n2x c2x, .slice p3x n3x c3x, .slice p4x n4x c4x, .int .i64 mm.ki, .string mm.mn, .string mm.mv, .slice sax snx scx, .int .i64 mm.er]) := hF 3 (by omega) (by decide)
                have dd4 : ((xF 4) = .slice (some ⟨gq, 0, none⟩) mx cx) := hF 4 (by omega) (by decide)
                have dd5 : ((xF 5) = .int .i64 (q : Int)) := hF 5 (by omega) (by decide)
                have dd6 : ((xF 6) = .pointer (some ⟨gq, q, none⟩)) := hF 6 (by omega) (by decide)
                have dd7 : ((xF 7) = .int .i64 zz) := hF 7 (by omega) (by decide)
                have dd8 : (∃ c, (xF 8) = .agg (List.toArray c) ∧ msgRel ww ww.heap.size c mm) := hF 8 (by omega) (by decide)
                have dd9 : ((xF 9) = .bool true) := hF 9 (by omega) (by decide)
                have dd10 : ((xF 10) = .bool false) := hF 10 (by omega) (by decide)
                clear hF
                simp only [List.take_succ_cons, List.take_zero, List.drop_succ_cons, List.drop_zero, fillOf, Act.put, List.setIfInBounds_toArray, List.set_cons_zero, List.set_cons_succ, Nat.reduceAdd, Nat.zero_add]
                try generalize xF 0 = yy0 at *
                try generalize xF 1 = yy1 at *
                try generalize xF 2 = yy2 at *
                try generalize xF 3 = yy3 at *
                try generalize xF 4 = yy4 at *
                try generalize xF 5 = yy5 at *
                try generalize xF 6 = yy6 at *
                try generalize xF 7 = yy7 at *
                try generalize xF 8 = yy8 at *
                try generalize xF 9 = yy9 at *
                try generalize xF 10 = yy10 at *
                clear xF
                obtain rfl := dd0
                obtain rfl := dd1
                obtain rfl := dd2
                obtain rfl := dd3
                obtain rfl := dd4
                obtain rfl := dd5
                obtain rfl := dd6
                obtain rfl := dd7
                obtain ⟨c8, rfl, hr8⟩ := dd8
                obtain rfl := dd9
                obtain rfl := dd10
                have hRE := Lib.hid hR
                clear hR
                go_wp2
                go_roundw
                case rel => exact ⟨q + 1, by go_num, by omega, hbq.trans (hRE.out.mono hbq.size)⟩
                case measure => simp [intOf]; omega
              · go_wp2
                go_roundw
                case rel => exact ⟨k + 1, _, _, _, _, _, Zx, by go_num, rfl, rfl, by omega, KX.out.next hbq⟩
                case measure => simp [intOf]; omega
    by_cases k3 : kd = 3
    · subst k3
      by_cases hin : ja < m
      · as_aux_lemma =>
          have hinI : (ja : Int) < (m : Int) := by omega
          have HS2 := Lib.hid (twice_f w (Z.map msgN) (.slice la m lc) m _ ja w1 HZ1.out K1.out.1.choose_spec (by rw [← HLN.out]; omega) K1.out.fit (by rw [← HLN.out]; exact hin))
          go_wp2_with fail
          rw [← HW1.out]
          (with_reducible refine HS2.out.mono ?_)
          rintro e w3 ⟨a3, n3, q3, cs3, rfl, h3, b3⟩
          obtain rfl : n3 = m + 1 := by rw [h3.2.2.2, List.length_append, ← HLN.out]; rfl
          obtain ⟨z0, z1, hmz⟩ := K1.out.num hin
          rw [hmz] at h3
          have K3 := Lib.hid (K1.out.next b3)
          obtain ⟨gq, rfl, hZ⟩ := K3.out.at' hin
          obtain ⟨zz, hzz⟩ : ∃ x, x = Z.getD ja 0 := ⟨_, rfl⟩
          rw [← hzz] at z0 z1 hZ h3
          have R3 := Lib.hid h3
          have hz3 := K3.out.2.2.2.2.2.size
          have O3 := Lib.hid K3.out.2.1
          have B3 := Lib.hid b3
          have q0 := hZ w3 (Below.refl _ _)
          have HZZ := Lib.hid (And.intro z0 z1)
          clear h3 b3 hZ hmz hzz z0 z1
          go_wp2_with (at_builtin; refine app1g (.tmp 128) (.tmp 133) 47 rfl rfl w.heap.size Try.underlying47 infoInt rfl (by decide) (by decide) O3.out rfl rfl rfl (by intro u hu; simp at hu; subst hu; rfl) (by omega) hz3 ?_)
          intro v' wx hown' hg3
          obtain ⟨hkx, hbx⟩ := app_int O3.out hz3 hg3
          obtain ⟨wax, cx, rfl⟩ := own_form4 hown'
          obtain ⟨Zx, hZx⟩ : ∃ x, x = Z ++ [zz] := ⟨_, rfl⟩
          have KX : Hid (KeepS w wx (k + 1) a3 (m + 1) q3 wax cx Zx) := by
            show KeepS _ _ _ _ _ _ _ _ _
            rw [hZx]; exact K1.out.snoc B3.out HZZ.out R3.out hkx hown' hbx
          clear hown' hbx hkx hg3 hZx hz3 O3 R3 K3 HS2 B3 q0
          obtain ⟨mx, hmx0⟩ : ∃ x, x = m + 1 := ⟨_, rfl⟩
          rw [← hmx0] at KX ⊢
          obtain ⟨lx, hlx⟩ : ∃ x, x = q3 := ⟨_, rfl⟩
          rw [← hlx] at KX ⊢
          clear hlx hmx0
          as_aux_lemma =>
            have hmx : mx ≤ k + 1 := KX.out.2.2.2.1
            go_wp2
            go_loopw [143, 157] (fun i _ wq => ∃ q : Nat, i = .int .i64 q ∧ q ≤ mx ∧ Below wx.heap.size wx wq) (fun i _ _ => mx - (intOf i).toNat)
            case atStart => exact ⟨0, rfl, by omega, Below.refl _ _⟩
            case round =>
              obtain ⟨q, rfl, hq, hbq⟩ := hrel
              by_cases hqm : q < mx
              · have hqI : (q : Int) < (mx : Int) := by omega
                have KQ := Lib.hid (KX.out.next hbq)
                obtain ⟨z0, z1, hmz⟩ := KQ.out.num hqm
                obtain ⟨bb, ob, c, rfl, hR, hC⟩ := rows_cells KQ.out.rows KQ.out.len hqm hmz
                obtain ⟨gq, rfl, hZ⟩ := KQ.out.at' hqm
                obtain ⟨zz, hzz⟩ : ∃ x, x = Zx.getD q 0 := ⟨_, rfl⟩
                rw [← hzz] at z0 z1 hZ hR
                obtain ⟨mm, hmm⟩ : ∃ x, x = msgN zz := ⟨_, rfl⟩
                rw [← hmm] at hR
                obtain ⟨aex, nex, cex, aax, nax, cax, p1x, n1x, c1x, p2x, n2x, c2x, p3x, n3x, c3x, p4x, n4x, c4x, sax, snx, scx, rfl, g⟩ := hR
                have hR : msgRel wr wr.heap.size (#[.int .i64 mm.k, .int .i64 mm.f, .int .i64 mm.to, .int .i64 mm.g, .int .i64 mm.n, .slice aex nex cex, .slice aax nax cax, .slice p1x n1x c1x, .slice p2x n2x c2x, .slice p3x n3x c3x, .slice p4x n4x c4x, .int .i64 mm.ki, .string mm.mn, .string mm.mv, .slice sax snx scx, .int .i64 mm.er]).toList mm := ⟨aex, nex, cex, aax, nax, cax, p1x, n1x, c1x, p2x, n2x, c2x, p3x, n3x, c3x, p4x, n4x, c4x, sax, snx, scx, rfl, g⟩
                have HC := Lib.hid hC
                have HZ := Lib.hid hZ
                have HS : Hid (∀ (W : World) (c' : List Value), Below wr.heap.size wr W → msgRel W W.heap.size c' mm → Calls Try.prog 18 #[.agg #[.int .i64 mm.k, .int .i64 mm.f, .int .i64 mm.to, .int .i64 mm.g, .int .i64 mm.n, .slice aex nex cex, .slice aax nax cax, .slice p1x n1x c1x, .slice p2x n2x c2x, .slice p3x n3x c3x, .slice p4x n4x c4x, .int .i64 mm.ki, .string mm.mn, .string mm.mv, .slice sax snx scx, .int .i64 mm.er], .agg c'.toArray] W (Said true W)) := fun W c' hW h' => same_eq mm _ c' W (msgRel_steady _ _ _ _ _ _ hR hW hW.size) h'
                have HMQ : Hid (∀ W : World, Calls Try.prog 23 #[.int .i64 zz] W fun e w' => ∃ c, e = .returned (.agg (List.toArray c)) ∧ msgRel w' w'.heap.size c mm ∧ Below W.heap.size W w') := by
                  intro W; rw [hmm]; exact HM.out zz W ⟨z0, z1⟩
                clear g hR hC hZ hzz hmm hmz z0 z1 KQ
                go_wp2
                refine wp_flow 11 (fun _ => 1000) (fun ww => RowKit.Below wr.heap.size wr ww) (fun _ w w' => (fun (w w' : World) => RowKit.Below w.heap.size w w') w w') (fun kF vF wF => match kF with | 0 => (vF = .slice (some ⟨bb, ob, none⟩) mx lx) | 1 => (vF = .int .i64 (q : Int)) | 2 => (vF = .pointer (some ⟨bb, ob + q * 16, none⟩)) | 3 => (vF = .agg #[.int .i64 mm.k, .int .i64 mm.f, .int .i64 mm.to, .int .i64 mm.g, .int .i64 mm.n, .slice aex nex cex, .slice aax nax cax, .slice p1x n1x c1x, .slice p2x n2x c2x, .slice p3x n3x c3x, .slice p4x n4x c4x, .int .i64 mm.ki, .string mm.mn, .string mm.mv, .slice sax snx scx, .int .i64 mm.er]) | 4 => (vF = .slice (some ⟨gq, 0, none⟩) mx cx) | 5 => (vF = .int .i64 (q : Int)) | 6 => (vF = .pointer (some ⟨gq, q, none⟩)) | 7 => (vF = .int .i64 zz) | 8 => (∃ c, vF = .agg (List.toArray c) ∧ msgRel wF wF.heap.size c mm) | 9 => (vF = .bool true) | 10 => (vF = .bool false) | _ => True) (fun _ _ _ _ => True) (by kernel_rfl) (by kernel_rfl) ?_ ?_ ?_ ?_ ?_
                · exact (Below.refl _ _).drew
                · intro iF wF1 wF2 hR hT; exact hR.trans (hT.mono hR.size)
                · intro kF hkF iF hiF hne hdd hanc hdan vF wF1 wF2 h hT
                  rcases (by omega : kF = 0 ∨ kF = 1 ∨ kF = 2 ∨ kF = 3 ∨ kF = 4 ∨ kF = 5 ∨ kF = 6 ∨ kF = 7 ∨ kF = 8 ∨ kF = 9 ∨ kF = 10) with rfl | rfl | rfl | rfl | rfl | rfl | rfl | rfl | rfl | rfl | rfl
                  · exact h
                  · exact h
                  · exact h
                  · exact h
                  · exact h
                  · exact h
                  · exact h
                  · exact h
                  · have h : (∃ c, vF = .agg (List.toArray c) ∧ msgRel wF1 wF1.heap.size c mm) := h
                    show (∃ c, vF = .agg (List.toArray c) ∧ msgRel wF2 wF2.heap.size c mm)
                    have hT : (fun (w w' : World) => RowKit.Below w.heap.size w w') wF1 wF2 := hT
                    simp only at hT
                    obtain ⟨c, e, hr⟩ := h
                    exact ⟨c, e, msgRel_steady _ _ _ _ _ _ hr hT hT.size⟩
                  · exact h
                  · exact h
                · refine FlowAll.cons ?_ ?_
                  · intro xF ww hR hd K hK
                    clear hd
                    simp only [List.take_succ_cons, List.take_zero, fillOf, Act.put, List.setIfInBounds_toArray, List.set_cons_zero, List.set_cons_succ, Nat.reduceAdd, Nat.zero_add] at hK ⊢
                    obtain hbR := id hR
                    rw [if_pos (by rfl)]
                    go_simp
                    exact hK.out _ _ (Below.refl _ _) (rfl) (fun _ _ _ => ⟨trivial, trivial⟩)
                  refine FlowAll.cons ?_ ?_
                  · intro xF ww hR hd K hK
                    clear hd
                    simp only [List.take_succ_cons, List.take_zero, fillOf, Act.put, List.setIfInBounds_toArray, List.set_cons_zero, List.set_cons_succ, Nat.reduceAdd, Nat.zero_add] at hK ⊢
                    obtain hbR := id hR
                    rw [if_pos (by rfl)]
                    go_simp
                    exact hK.out _ _ (Below.refl _ _) (rfl) (fun _ _ _ => ⟨trivial, trivial⟩)
                  refine FlowAll.cons ?_ ?_
                  · intro xF ww hR hd K hK
                    have dd0 : ((xF 0) = .slice (some ⟨bb, ob, none⟩) mx lx) := hd 0 (by kernel_rfl)
                    have dd1 : ((xF 1) = .int .i64 (q : Int)) := hd 1 (by kernel_rfl)
                    clear hd
                    simp only [List.take_succ_cons, List.take_zero, fillOf, Act.put, List.setIfInBounds_toArray, List.set_cons_zero, List.set_cons_succ, Nat.reduceAdd, Nat.zero_add] at hK ⊢
                    try generalize xF 0 = yy0 at *
                    try generalize xF 1 = yy1 at *
                    obtain rfl := dd0
                    obtain rfl := dd1
                    obtain hbR := id hR
                    rw [if_pos (by rfl)]
                    go_simp
                    exact hK.out _ _ (Below.refl _ _) (rfl) (fun _ _ _ => ⟨trivial, trivial⟩)
                  refine FlowAll.cons ?_ ?_
                  · intro xF ww hR hd K hK
                    have dd2 : ((xF 2) = .pointer (some ⟨bb, ob + q * 16, none⟩)) := hd 2 (by kernel_rfl)
                    clear hd
                    simp only [List.take_succ_cons, List.take_zero, fillOf, Act.put, List.setIfInBounds_toArray, List.set_cons_zero, List.set_cons_succ, Nat.reduceAdd, Nat.zero_add] at hK ⊢
                    try generalize xF 2 = yy2 at *
                    obtain rfl := dd2
                    obtain hbR := id hR
                    have q0 : ww.cell? ⟨bb, ob + q * 16, none⟩ = _ := HC.out _ hR 0 _ rfl
                    have q1 := HC.out _ hR 1 _ rfl
                    have q2 := HC.out _ hR 2 _ rfl
                    have q3 := HC.out _ hR 3 _ rfl
                    have q4 := HC.out _ hR 4 _ rfl
                    have q5 := HC.out _ hR 5 _ rfl
                    have q6 := HC.out _ hR 6 _ rfl
                    have q7 := HC.out _ hR 7 _ rfl
                    have q8 := HC.out _ hR 8 _ rfl
                    have q9 := HC.out _ hR 9 _ rfl
                    have q10 := HC.out _ hR 10 _ rfl
                    have q11 := HC.out _ hR 11 _ rfl
                    have q12 := HC.out _ hR 12 _ rfl
                    have q13 := HC.out _ hR 13 _ rfl
                    have q14 := HC.out _ hR 14 _ rfl
                    have q15 := HC.out _ hR 15 _ rfl
                    rw [if_pos (by rfl)]
                    go_simp
                    exact hK.out _ _ (Below.refl _ _) (rfl) (fun _ _ _ => ⟨trivial, trivial⟩)
                  refine FlowAll.cons ?_ ?_
                  · intro xF ww hR hd K hK
                    clear hd
                    simp only [List.take_succ_cons, List.take_zero, fillOf, Act.put, List.setIfInBounds_toArray, List.set_cons_zero, List.set_cons_succ, Nat.reduceAdd, Nat.zero_add] at hK ⊢
                    obtain hbR := id hR
                    rw [if_pos (by rfl)]
                    go_simp
                    exact hK.out _ _ (Below.refl _ _) (rfl) (fun _ _ _ => ⟨trivial, trivial⟩)
                  refine FlowAll.cons ?_ ?_
                  · intro xF ww hR hd K hK
                    clear hd
                    simp only [List.take_succ_cons, List.take_zero, fillOf, Act.put, List.setIfInBounds_toArray, List.set_cons_zero, List.set_cons_succ, Nat.reduceAdd, Nat.zero_add] at hK ⊢
                    obtain hbR := id hR
                    rw [if_pos (by rfl)]
                    go_simp
                    exact hK.out _ _ (Below.refl _ _) (rfl) (fun _ _ _ => ⟨trivial, trivial⟩)
                  refine FlowAll.cons ?_ ?_
                  · intro xF ww hR hd K hK
                    have dd4 : ((xF 4) = .slice (some ⟨gq, 0, none⟩) mx cx) := hd 4 (by kernel_rfl)
                    have dd5 : ((xF 5) = .int .i64 (q : Int)) := hd 5 (by kernel_rfl)
                    clear hd
                    simp only [List.take_succ_cons, List.take_zero, fillOf, Act.put, List.setIfInBounds_toArray, List.set_cons_zero, List.set_cons_succ, Nat.reduceAdd, Nat.zero_add] at hK ⊢
                    try generalize xF 4 = yy4 at *
                    try generalize xF 5 = yy5 at *
                    obtain rfl := dd4
                    obtain rfl := dd5
                    obtain hbR := id hR
                    rw [if_pos (by rfl)]
                    go_simp
                    exact hK.out _ _ (Below.refl _ _) (rfl) (fun _ _ _ => ⟨trivial, trivial⟩)
                  refine FlowAll.cons ?_ ?_
                  · intro xF ww hR hd K hK
                    have dd6 : ((xF 6) = .pointer (some ⟨gq, q, none⟩)) := hd 6 (by kernel_rfl)
                    clear hd
                    simp only [List.take_succ_cons, List.take_zero, fillOf, Act.put, List.setIfInBounds_toArray, List.set_cons_zero, List.set_cons_succ, Nat.reduceAdd, Nat.zero_add] at hK ⊢
                    try generalize xF 6 = yy6 at *
                    obtain rfl := dd6
                    obtain hbR := id hR
                    have q0 := HZ.out _ hR
                    rw [if_pos (by rfl)]
                    go_simp
                    exact hK.out _ _ (Below.refl _ _) (rfl) (fun _ _ _ => ⟨trivial, trivial⟩)
                  refine FlowAll.cons ?_ ?_
                  · intro xF ww hR hd K hK
                    have dd7 : ((xF 7) = .int .i64 zz) := hd 7 (by kernel_rfl)
                    clear hd
                    simp only [List.take_succ_cons, List.take_zero, fillOf, Act.put, List.setIfInBounds_toArray, List.set_cons_zero, List.set_cons_succ, Nat.reduceAdd, Nat.zero_add] at hK ⊢
                    try generalize xF 7 = yy7 at *
                    obtain rfl := dd7
                    obtain hbR := id hR
                    rw [if_pos (by rfl)]
                    go_simp
                    (go_at_call 23; (with_reducible refine (HMQ.out _).mono ?_); rintro e wK ⟨cK, rfl, hrK, hbK⟩)
                    try go_wp2_with fail
                    exact hK.out _ _ (hbK) (⟨cK, rfl, hrK⟩) (fun _ _ _ => ⟨trivial, trivial⟩)
                  refine FlowAll.cons ?_ ?_
                  · intro xF ww hR hd K hK
                    have dd3 : ((xF 3) = .agg #[.int .i64 mm.k, .int .i64 mm.f, .int .i64 mm.to, .int .i64 mm.g, .int .i64 mm.n, .slice aex nex cex, .slice aax nax cax, .slice p1x n1x c1x, .slice p2x n2x c2x, .slice p3x n3x c3x, .slice p4x n4x c4x, .int .i64 mm.ki, .string mm.mn, .string mm.mv, .slice sax snx scx, .int .i64 mm.er]) := hd 3 (by kernel_rfl)
                    have dd8 : (∃ c, (xF 8) = .agg (List.toArray c) ∧ msgRel ww ww.heap.size c mm) := hd 8 (by kernel_rfl)
                    clear hd
                    simp only [List.take_succ_cons, List.take_zero, fillOf, Act.put, List.setIfInBounds_toArray, List.set_cons_zero, List.set_cons_succ, Nat.reduceAdd, Nat.zero_add] at hK ⊢
                    try generalize xF 3 = yy3 at *
                    try generalize xF 8 = yy8 at *
                    obtain rfl := dd3
                    obtain ⟨c8, rfl, hr8⟩ := dd8
                    obtain hbR := id hR
                    rw [if_pos (by rfl)]
                    go_simp
                    (go_at_call 18; (with_reducible refine (HS.out _ c8 hR hr8).mono ?_); rintro e wK ⟨rfl, hbK⟩)
                    try go_wp2_with fail
                    exact hK.out _ _ (hbK) (rfl) (fun _ _ _ => ⟨trivial, trivial⟩)
                  refine FlowAll.cons ?_ ?_
                  · intro xF ww hR hd K hK
                    have dd9 : ((xF 9) = .bool true) := hd 9 (by kernel_rfl)
                    clear hd
                    simp only [List.take_succ_cons, List.take_zero, fillOf, Act.put, List.setIfInBounds_toArray, List.set_cons_zero, List.set_cons_succ, Nat.reduceAdd, Nat.zero_add] at hK ⊢
                    try generalize xF 9 = yy9 at *
                    obtain rfl := dd9
                    obtain hbR := id hR
                    rw [if_pos (by rfl)]
                    go_simp
                    exact hK.out _ _ (Below.refl _ _) (rfl) (fun _ _ _ => ⟨trivial, trivial⟩)
                  exact FlowAll.nil
                intro xF ww hR hF hP
                clear hP
                have dd0 : ((xF 0) = .slice (some ⟨bb, ob, none⟩) mx lx) := hF 0 (by omega) (by decide)
                have dd1 : ((xF 1) = .int .i64 (q : Int)) := hF 1 (by omega) (by decide)
                have dd2 : ((xF 2) = .pointer (some ⟨bb, ob + q * 16, none⟩)) := hF 2 (by omega) (by decide)
                have dd3 : ((xF 3) = .agg #[.int .i64 mm.k, .int .i64 mm.f, .int .i64 mm.to, .int .i64 mm.g, .int .i64 mm.n, .slice aex nex cex, .slice aax nax cax, .slice p1x n1x c1x, .slice p2x n2x c2x, .slice p3x n3x c3x, .slice p4x n4x c4x, .int .i64 mm.ki, .string mm.mn, .string mm.mv, .slice sax snx scx, .int .i64 mm.er]) := hF 3 (by omega) (by decide)
                have dd4 : ((xF 4) = .slice (some ⟨gq, 0, none⟩) mx cx) := hF 4 (by omega) (by decide)
                have dd5 : ((xF 5) = .int .i64 (q : Int)) := hF 5 (by omega) (by decide)
                have dd6 : ((xF 6) = .pointer (some ⟨gq, q, none⟩)) := hF 6 (by omega) (by decide)
                have dd7 : ((xF 7) = .int .i64 zz) := hF 7 (by omega) (by decide)
                have dd8 : (∃ c, (xF 8) = .agg (List.toArray c) ∧ msgRel ww ww.heap.size c mm) := hF 8 (by omega) (by decide)
                have dd9 : ((xF 9) = .bool true) := hF 9 (by omega) (by decide)
                have dd10 : ((xF 10) = .bool false) := hF 10 (by omega) (by decide)
                clear hF
                simp only [List.take_succ_cons, List.take_zero, List.drop_succ_cons, List.drop_zero, fillOf, Act.put, List.setIfInBounds_toArray, List.set_cons_zero, List.set_cons_succ, Nat.reduceAdd, Nat.zero_add]
                try generalize xF 0 = yy0 at *
                try generalize xF 1 = yy1 at *
                try generalize xF 2 = yy2 at *
                try generalize xF 3 = yy3 at *
                try generalize xF 4 = yy4 at *
                try generalize xF 5 = yy5 at *
                try generalize xF 6 = yy6 at *
                try generalize xF 7 = yy7 at *
                try generalize xF 8 = yy8 at *
                try generalize xF 9 = yy9 at *
                try generalize xF 10 = yy10 at *
                clear xF
                obtain rfl := dd0
                obtain rfl := dd1
                obtain rfl := dd2
                obtain rfl := dd3
                obtain rfl := dd4
                obtain rfl := dd5
                obtain rfl := dd6
                obtain rfl := dd7
                obtain ⟨c8, rfl, hr8⟩ := dd8
                obtain rfl := dd9
                obtain rfl := dd10
                have hRE := Lib.hid hR
                clear hR
                go_wp2
                go_roundw
                case rel => exact ⟨q + 1, by go_num, by omega, hbq.trans (hRE.out.mono hbq.size)⟩
                case measure => simp [intOf]; omega
              · go_wp2
                go_roundw
                case rel => exact ⟨k + 1, _, _, _, _, _, Zx, by go_num, rfl, rfl, by omega, KX.out.next hbq⟩
                case measure => simp [intOf]; omega
      · as_aux_lemma =>
          have hinI : ¬ (ja : Int) < (m : Int) := by omega
          have HOI : Hid (¬ (0 ≤ (ja : Int) ∧ (ja : Int) < ((Z.map msgN).length : Int))) := by show ¬ _; rw [← HLN.out]; omega
          have HS2 := Lib.hid (twice_out (Z.map msgN) (.slice la m lc) ja w1 K1.out.rows K1.out.fit HOI.out)
          go_wp2_with fail
          rw [← HW1.out]
          (with_reducible refine HS2.out.mono ?_)
          rintro e wx ⟨rfl, rfl⟩
          have K3 := Lib.hid K1.out
          obtain ⟨Zx, hZx⟩ : ∃ x, x = Z := ⟨_, rfl⟩
          obtain ⟨mx, hmx0⟩ : ∃ x, x = m := ⟨_, rfl⟩
          obtain ⟨lx, hlx⟩ : ∃ x, x = lc := ⟨_, rfl⟩
          obtain ⟨cx, hcx⟩ : ∃ x, x = wc := ⟨_, rfl⟩
          have KX : Hid (KeepS w wx (k + 1) la mx lx wa cx Zx) := by
            rw [hmx0, hlx, hcx, hZx]
            obtain ⟨g1, g2, g3, g4, g5, g6⟩ := K3.out
            exact ⟨g1, g2, g3, by omega, g5, g6⟩
          have hinX : ¬ (ja : Int) < (mx : Int) := by omega
          have hinY : ¬ ja < mx := by omega
          have hinZ : decide (ja < mx) = false := decide_eq_false hinY
          rw [← hmx0, ← hlx, ← hcx]
          clear hmx0 hlx hcx hZx
          as_aux_lemma =>
            have hmx : mx ≤ k + 1 := KX.out.2.2.2.1
            go_wp2
            go_loopw [143, 157] (fun i _ wq => ∃ q : Nat, i = .int .i64 q ∧ q ≤ mx ∧ Below wx.heap.size wx wq) (fun i _ _ => mx - (intOf i).toNat)
            case atStart => exact ⟨0, rfl, by omega, Below.refl _ _⟩
            case round =>
              obtain ⟨q, rfl, hq, hbq⟩ := hrel
              by_cases hqm : q < mx
              · have hqI : (q : Int) < (mx : Int) := by omega
                have KQ := Lib.hid (KX.out.next hbq)
                obtain ⟨z0, z1, hmz⟩ := KQ.out.num hqm
                obtain ⟨bb, ob, c, rfl, hR, hC⟩ := rows_cells KQ.out.rows KQ.out.len hqm hmz
                obtain ⟨gq, rfl, hZ⟩ := KQ.out.at' hqm
                obtain ⟨zz, hzz⟩ : ∃ x, x = Zx.getD q 0 := ⟨_, rfl⟩
                rw [← hzz] at z0 z1 hZ hR
                obtain ⟨mm, hmm⟩ : ∃ x, x = msgN zz := ⟨_, rfl⟩
                rw [← hmm] at hR
                obtain ⟨aex, nex, cex, aax, nax, cax, p1x, n1x, c1x, p2x, n2x, c2x, p3x, n3x, c3x, p4x, n4x, c4x, sax, snx, scx, rfl, g⟩ := hR
                have hR : msgRel wr wr.heap.size (#[.int .i64 mm.k, .int .i64 mm.f, .int .i64 mm.to, .int .i64 mm.g, .int .i64 mm.n, .slice aex nex cex, .slice aax nax cax, .slice p1x n1x c1x, .slice p2x n2x c2x, .slice p3x n3x c3x, .slice p4x n4x c4x, .int .i64 mm.ki, .string mm.mn, .string mm.mv, .slice sax snx scx, .int .i64 mm.er]).toList mm := ⟨aex, nex, cex, aax, nax, cax, p1x, n1x, c1x, p2x, n2x, c2x, p3x, n3x, c3x, p4x, n4x, c4x, sax, snx, scx, rfl, g⟩
                have HC := Lib.hid hC
                have HZ := Lib.hid hZ
                have HS : Hid (∀ (W : World) (c' : List Value), Below wr.heap.size wr W → msgRel W W.heap.size c' mm → Calls Try.prog 18 #[.agg #[.int .i64 mm.k, .int .i64 mm.f, .int .i64 mm.to, .int .i64 mm.g, .int .i64 mm.n, .slice aex nex cex, .slice aax nax cax, .slice p1x n1x c1x, .slice p2x n2x c2x, .slice p3x n3x c3x, .slice p4x n4x c4x, .int .i64 mm.ki, .string mm.mn, .string mm.mv, .slice sax snx scx, .int .i64 mm.er], .agg c'.toArray] W (Said true W)) := fun W c' hW h' => same_eq mm _ c' W (msgRel_steady _ _ _ _ _ _ hR hW hW.size) h'
                have HMQ : Hid (∀ W : World, Calls Try.prog 23 #[.int .i64 zz] W fun e w' => ∃ c, e = .returned (.agg (List.toArray c)) ∧ msgRel w' w'.heap.size c mm ∧ Below W.heap.size W w') := by
                  intro W; rw [hmm]; exact HM.out zz W ⟨z0, z1⟩
                clear g hR hC hZ hzz hmm hmz z0 z1 KQ
                go_wp2
                refine wp_flow 11 (fun _ => 1000) (fun ww => RowKit.Below wr.heap.size wr ww) (fun _ w w' => (fun (w w' : World) => RowKit.Below w.heap.size w w') w w') (fun kF vF wF => match kF with | 0 => (vF = .slice (some ⟨bb, ob, none⟩) mx lx) | 1 => (vF = .int .i64 (q : Int)) | 2 => (vF = .pointer (some ⟨bb, ob + q * 16, none⟩)) | 3 => (vF = .agg #[.int .i64 mm.k, .int .i64 mm.f, .int .i64 mm.to, .int .i64 mm.g, .int .i64 mm.n, .slice aex nex cex, .slice aax nax cax, .slice p1x n1x c1x, .slice p2x n2x c2x, .slice p3x n3x c3x, .slice p4x n4x c4x, .int .i64 mm.ki, .string mm.mn, .string mm.mv, .slice sax snx scx, .int .i64 mm.er]) | 4 => (vF = .slice (some ⟨gq, 0, none⟩) mx cx) | 5 => (vF = .int .i64 (q : Int)) | 6 => (vF = .pointer (some ⟨gq, q, none⟩)) | 7 => (vF = .int .i64 zz) | 8 => (∃ c, vF = .agg (List.toArray c) ∧ msgRel wF wF.heap.size c mm) | 9 => (vF = .bool true) | 10 => (vF = .bool false) | _ => True) (fun _ _ _ _ => True) (by kernel_rfl) (by kernel_rfl) ?_ ?_ ?_ ?_ ?_
                · exact (Below.refl _ _).drew
                · intro iF wF1 wF2 hR hT; exact hR.trans (hT.mono hR.size)
                · intro kF hkF iF hiF hne hdd hanc hdan vF wF1 wF2 h hT
                  rcases (by omega : kF = 0 ∨ kF = 1 ∨ kF = 2 ∨ kF = 3 ∨ kF = 4 ∨ kF = 5 ∨ kF = 6 ∨ kF = 7 ∨ kF = 8 ∨ kF = 9 ∨ kF = 10) with rfl | rfl | rfl | rfl | rfl | rfl | rfl | rfl | rfl | rfl | rfl
                  · exact h
                  · exact h
                  · exact h
                  · exact h
                  · exact h
                  · exact h
                  · exact h
                  · exact h
                  · have h : (∃ c, vF = .agg (List.toArray c) ∧ msgRel wF1 wF1.heap.size c mm) := h
                    show (∃ c, vF = .agg (List.toArray c) ∧ msgRel wF2 wF2.heap.size c mm)
                    have hT : (fun (w w' : World) => RowKit.Below w.heap.size w w') wF1 wF2 := hT
                    simp only at hT
                    obtain ⟨c, e, hr⟩ := h
                    exact ⟨c, e, msgRel_steady _ _ _ _ _ _ hr hT hT.size⟩
                  · exact h
                  · exact h
                · refine FlowAll.cons ?_ ?_
                  · intro xF ww hR hd K hK
                    clear hd
                    simp only [List.take_succ_cons, List.take_zero, fillOf, Act.put, List.setIfInBounds_toArray, List.set_cons_zero, List.set_cons_succ, Nat.reduceAdd, Nat.zero_add] at hK ⊢
                    obtain hbR := id hR
                    rw [if_pos (by rfl)]
                    go_simp
                    exact hK.out _ _ (Below.refl _ _) (rfl) (fun _ _ _ => ⟨trivial, trivial⟩)
                  refine FlowAll.cons ?_ ?_
                  · intro xF ww hR hd K hK
                    clear hd
                    simp only [List.take_succ_cons, List.take_zero, fillOf, Act.put, List.setIfInBounds_toArray, List.set_cons_zero, List.set_cons_succ, Nat.reduceAdd, Nat.zero_add] at hK ⊢
                    obtain hbR := id hR
                    rw [if_pos (by rfl)]
                    go_simp
                    exact hK.out _ _ (Below.refl _ _) (rfl) (fun _ _ _ => ⟨trivial, trivial⟩)
                  refine FlowAll.cons ?_ ?_
                  · intro xF ww hR hd K hK
                    have dd0 : ((xF 0) = .slice (some ⟨bb, ob, none⟩) mx lx) := hd 0 (by kernel_rfl)
                    have dd1 : ((xF 1) = .int .i64 (q : Int)) := hd 1 (by kernel_rfl)
                    clear hd
                    simp only [List.take_succ_cons, List.take_zero, fillOf, Act.put, List.setIfInBounds_toArray, List.set_cons_zero, List.set_cons_succ, Nat.reduceAdd, Nat.zero_add] at hK ⊢
                    try generalize xF 0 = yy0 at *
                    try generalize xF 1 = yy1 at *
                    obtain rfl := dd0
                    obtain rfl := dd1
                    obtain hbR := id hR
                    rw [if_pos (by rfl)]
                    go_simp
                    exact hK.out _ _ (Below.refl _ _) (rfl) (fun _ _ _ => ⟨trivial, trivial⟩)
                  refine FlowAll.cons ?_ ?_
                  · intro xF ww hR hd K hK
                    have dd2 : ((xF 2) = .pointer (some ⟨bb, ob + q * 16, none⟩)) := hd 2 (by kernel_rfl)
                    clear hd
                    simp only [List.take_succ_cons, List.take_zero, fillOf, Act.put, List.setIfInBounds_toArray, List.set_cons_zero, List.set_cons_succ, Nat.reduceAdd, Nat.zero_add] at hK ⊢
                    try generalize xF 2 = yy2 at *
                    obtain rfl := dd2
                    obtain hbR := id hR
                    have q0 : ww.cell? ⟨bb, ob + q * 16, none⟩ = _ := HC.out _ hR 0 _ rfl
                    have q1 := HC.out _ hR 1 _ rfl
                    have q2 := HC.out _ hR 2 _ rfl
                    have q3 := HC.out _ hR 3 _ rfl
                    have q4 := HC.out _ hR 4 _ rfl
                    have q5 := HC.out _ hR 5 _ rfl
                    have q6 := HC.out _ hR 6 _ rfl
                    have q7 := HC.out _ hR 7 _ rfl
                    have q8 := HC.out _ hR 8 _ rfl
                    have q9 := HC.out _ hR 9 _ rfl
                    have q10 := HC.out _ hR 10 _ rfl
                    have q11 := HC.out _ hR 11 _ rfl
                    have q12 := HC.out _ hR 12 _ rfl
                    have q13 := HC.out _ hR 13 _ rfl
                    have q14 := HC.out _ hR 14 _ rfl
                    have q15 := HC.out _ hR 15 _ rfl
                    rw [if_pos (by rfl)]
                    go_simp
                    exact hK.out _ _ (Below.refl _ _) (rfl) (fun _ _ _ => ⟨trivial, trivial⟩)
                  refine FlowAll.cons ?_ ?_
                  · intro xF ww hR hd K hK
                    clear hd
                    simp only [List.take_succ_cons, List.take_zero, fillOf, Act.put, List.setIfInBounds_toArray, List.set_cons_zero, List.set_cons_succ, Nat.reduceAdd, Nat.zero_add] at hK ⊢
                    obtain hbR := id hR
                    rw [if_pos (by rfl)]
                    go_simp
                    exact hK.out _ _ (Below.refl _ _) (rfl) (fun _ _ _ => ⟨trivial, trivial⟩)
                  refine FlowAll.cons ?_ ?_
                  · intro xF ww hR hd K hK
                    clear hd
                    simp only [List.take_succ_cons, List.take_zero, fillOf, Act.put, List.setIfInBounds_toArray, List.set_cons_zero, List.set_cons_succ, Nat.reduceAdd, Nat.zero_add] at hK ⊢
                    obtain hbR := id hR
                    rw [if_pos (by rfl)]
                    go_simp
                    exact hK.out _ _ (Below.refl _ _) (rfl) (fun _ _ _ => ⟨trivial, trivial⟩)
                  refine FlowAll.cons ?_ ?_
                  · intro xF ww hR hd K hK
                    have dd4 : ((xF 4) = .slice (some ⟨gq, 0, none⟩) mx cx) := hd 4 (by kernel_rfl)
                    have dd5 : ((xF 5) = .int .i64 (q : Int)) := hd 5 (by kernel_rfl)
                    clear hd
                    simp only [List.take_succ_cons, List.take_zero, fillOf, Act.put, List.setIfInBounds_toArray, List.set_cons_zero, List.set_cons_succ, Nat.reduceAdd, Nat.zero_add] at hK ⊢
                    try generalize xF 4 = yy4 at *
                    try generalize xF 5 = yy5 at *
                    obtain rfl := dd4
                    obtain rfl := dd5
                    obtain hbR := id hR
                    rw [if_pos (by rfl)]
                    go_simp
                    exact hK.out _ _ (Below.refl _ _) (rfl) (fun _ _ _ => ⟨trivial, trivial⟩)
                  refine FlowAll.cons ?_ ?_
                  · intro xF ww hR hd K hK
                    have dd6 : ((xF 6) = .pointer (some ⟨gq, q, none⟩)) := hd 6 (by kernel_rfl)
                    clear hd
                    simp only [List.take_succ_cons, List.take_zero, fillOf, Act.put, List.setIfInBounds_toArray, List.set_cons_zero, List.set_cons_succ, Nat.reduceAdd, Nat.zero_add] at hK ⊢
                    try generalize xF 6 = yy6 at *
                    obtain rfl := dd6
                    obtain hbR := id hR
                    have q0 := HZ.out _ hR
                    rw [if_pos (by rfl)]
                    go_simp
                    exact hK.out _ _ (Below.refl _ _) (rfl) (fun _ _ _ => ⟨trivial, trivial⟩)
                  refine FlowAll.cons ?_ ?_
                  · intro xF ww hR hd K hK
                    have dd7 : ((xF 7) = .int .i64 zz) := hd 7 (by kernel_rfl)
                    clear hd
                    simp only [List.take_succ_cons, List.take_zero, fillOf, Act.put, List.setIfInBounds_toArray, List.set_cons_zero, List.set_cons_succ, Nat.reduceAdd, Nat.zero_add] at hK ⊢
                    try generalize xF 7 = yy7 at *
                    obtain rfl := dd7
                    obtain hbR := id hR
                    rw [if_pos (by rfl)]
                    go_simp
                    (go_at_call 23; (with_reducible refine (HMQ.out _).mono ?_); rintro e wK ⟨cK, rfl, hrK, hbK⟩)
                    try go_wp2_with fail
                    exact hK.out _ _ (hbK) (⟨cK, rfl, hrK⟩) (fun _ _ _ => ⟨trivial, trivial⟩)
                  refine FlowAll.cons ?_ ?_
                  · intro xF ww hR hd K hK
                    have dd3 : ((xF 3) = .agg #[.int .i64 mm.k, .int .i64 mm.f, .int .i64 mm.to, .int .i64 mm.g, .int .i64 mm.n, .slice aex nex cex, .slice aax nax cax, .slice p1x n1x c1x, .slice p2x n2x c2x, .slice p3x n3x c3x, .slice p4x n4x c4x, .int .i64 mm.ki, .string mm.mn, .string mm.mv, .slice sax snx scx, .int .i64 mm.er]) := hd 3 (by kernel_rfl)
                    have dd8 : (∃ c, (xF 8) = .agg (List.toArray c) ∧ msgRel ww ww.heap.size c mm) := hd 8 (by kernel_rfl)
                    clear hd
                    simp only [List.take_succ_cons, List.take_zero, fillOf, Act.put, List.setIfInBounds_toArray, List.set_cons_zero, List.set_cons_succ, Nat.reduceAdd, Nat.zero_add] at hK ⊢
                    try generalize xF 3 = yy3 at *
                    try generalize xF 8 = yy8 at *
                    obtain rfl := dd3
                    obtain ⟨c8, rfl, hr8⟩ := dd8
                    obtain hbR := id hR
                    rw [if_pos (by rfl)]
                    go_simp
                    (go_at_call 18; (with_reducible refine (HS.out _ c8 hR hr8).mono ?_); rintro e wK ⟨rfl, hbK⟩)
                    try go_wp2_with fail
                    exact hK.out _ _ (hbK) (rfl) (fun _ _ _ => ⟨trivial, trivial⟩)
                  refine FlowAll.cons ?_ ?_
                  · intro xF ww hR hd K hK
                    have dd9 : ((xF 9) = .bool true) := hd 9 (by kernel_rfl)
                    clear hd
                    simp only [List.take_succ_cons, List.take_zero, fillOf, Act.put, List.setIfInBounds_toArray, List.set_cons_zero, List.set_cons_succ, Nat.reduceAdd, Nat.zero_add] at hK ⊢
                    try generalize xF 9 = yy9 at *
                    obtain rfl := dd9
                    obtain hbR := id hR
                    rw [if_pos (by rfl)]
                    go_simp
                    exact hK.out _ _ (Below.refl _ _) (rfl) (fun _ _ _ => ⟨trivial, trivial⟩)
                  exact FlowAll.nil
                intro xF ww hR hF hP
                clear hP
                have dd0 : ((xF 0) = .slice (some ⟨bb, ob, none⟩) mx lx) := hF 0 (by omega) (by decide)
                have dd1 : ((xF 1) = .int .i64 (q : Int)) := hF 1 (by omega) (by decide)
                have dd2 : ((xF 2) = .pointer (some ⟨bb, ob + q * 16, none⟩)) := hF 2 (by omega) (by decide)
                have dd3 : ((xF 3) = .agg #[.int .i64 mm.k, .int .i64 mm.f, .int .i64 mm.to, .int .i64 mm.g, .int .i64 mm.n, .slice aex nex cex, .slice aax nax cax, .slice p1x n1x c1x, .slice p2x n2x c2x, .slice p3x n3x c3x, .slice p4x n4x c4x, .int .i64 mm.ki, .string mm.mn, .string mm.mv, .slice sax snx scx, .int .i64 mm.er]) := hF 3 (by omega) (by decide)
                have dd4 : ((xF 4) = .slice (some ⟨gq, 0, none⟩) mx cx) := hF 4 (by omega) (by decide)
                have dd5 : ((xF 5) = .int .i64 (q : Int)) := hF 5 (by omega) (by decide)
                have dd6 : ((xF 6) = .pointer (some ⟨gq, q, none⟩)) := hF 6 (by omega) (by decide)
                have dd7 : ((xF 7) = .int .i64 zz) := hF 7 (by omega) (by decide)
                have dd8 : (∃ c, (xF 8) = .agg (List.toArray c) ∧ msgRel ww ww.heap.size c mm) := hF 8 (by omega) (by decide)
                have dd9 : ((xF 9) = .bool true) := hF 9 (by omega) (by decide)
                have dd10 : ((xF 10) = .bool false) := hF 10 (by omega) (by decide)
                clear hF
                simp only [List.take_succ_cons, List.take_zero, List.drop_succ_cons, List.drop_zero, fillOf, Act.put, List.setIfInBounds_toArray, List.set_cons_zero, List.set_cons_succ, Nat.reduceAdd, Nat.zero_add]
                try generalize xF 0 = yy0 at *
                try generalize xF 1 = yy1 at *
                try generalize xF 2 = yy2 at *
                try generalize xF 3 = yy3 at *
                try generalize xF 4 = yy4 at *
                try generalize xF 5 = yy5 at *
                try generalize xF 6 = yy6 at *
                try generalize xF 7 = yy7 at *
                try generalize xF 8 = yy8 at *
                try generalize xF 9 = yy9 at *
                try generalize xF 10 = yy10 at *
                clear xF
                obtain rfl := dd0
                obtain rfl := dd1
                obtain rfl := dd2
                obtain rfl := dd3
                obtain rfl := dd4
                obtain rfl := dd5
                obtain rfl := dd6
                obtain rfl := dd7
                obtain ⟨c8, rfl, hr8⟩ := dd8
                obtain rfl := dd9
                obtain rfl := dd10
                have hRE := Lib.hid hR
                clear hR
                go_wp2
                go_roundw
                case rel => exact ⟨q + 1, by go_num, by omega, hbq.trans (hRE.out.mono hbq.size)⟩
                case measure => simp [intOf]; omega
              · go_wp2
                go_roundw
                case rel => exact ⟨k + 1, _, _, _, _, _, Zx, by go_num, rfl, rfl, by omega, KX.out.next hbq⟩
                case measure => simp [intOf]; omega
    as_aux_lemma =>
      go_wp2_with fail
      rw [← HW1.out]
      (with_reducible refine (HM.out _ _ (by omega)).mono ?_)
      rintro e w2 ⟨c2, rfl, h2, b2⟩
      have K2 := Lib.hid (K1.out.next b2)
      have HS2 := Lib.hid (send_f w (Z.map msgN) (msgN (jn : Int)) (.slice la m lc) m _ c2 w2 K2.out.2.2.2.2.2.size K2.out.1.choose_spec h2 (fit_msgN _) (by rw [← HLN.out]; omega))
      clear h2 b2
      go_wp2_with fail
      (with_reducible refine HS2.out.mono ?_)
      rintro e w3 ⟨a3, n3, q3, cs3, rfl, h3, b3⟩
      obtain rfl : n3 = m + 1 := by rw [h3.2.2.2, List.length_append, ← HLN.out]; rfl
      have K3 := Lib.hid (K2.out.next b3)
      have R3 := Lib.hid h3
      have hz3 := K3.out.2.2.2.2.2.size
      have O3 := Lib.hid K3.out.2.1
      have B3 := Lib.hid b3
      clear h3 b3
      go_wp2_with (at_builtin; refine app1g (.tmp 45) (.tmp 47) 47 rfl rfl w.heap.size Try.underlying47 infoInt rfl (by decide) (by decide) O3.out rfl rfl rfl (by intro u hu; simp at hu; subst hu; rfl) (by omega) hz3 ?_)
      intro v' wx hown' hg3
      obtain ⟨hkx, hbx⟩ := app_int O3.out hz3 hg3
      obtain ⟨wax, cx, rfl⟩ := own_form4 hown'
      obtain ⟨Zx, hZx⟩ : ∃ x, x = Z ++ [(jn : Int)] := ⟨_, rfl⟩
      have KX : Hid (KeepS w wx (k + 1) a3 (m + 1) q3 wax cx Zx) := by
        show KeepS _ _ _ _ _ _ _ _ _
        rw [hZx]; exact K2.out.snoc B3.out ⟨by omega, by omega⟩ R3.out hkx hown' hbx
      clear hown' hbx hkx hg3 hZx hz3 O3 R3 K3 HS2 K2 B3
      obtain ⟨mx, hmx0⟩ : ∃ x, x = m + 1 := ⟨_, rfl⟩
      rw [← hmx0] at KX ⊢
      obtain ⟨lx, hlx⟩ : ∃ x, x = q3 := ⟨_, rfl⟩
      rw [← hlx] at KX ⊢
      clear hlx hmx0
      as_aux_lemma =>
        have hmx : mx ≤ k + 1 := KX.out.2.2.2.1
        go_wp2
        go_loopw [143, 157] (fun i _ wq => ∃ q : Nat, i = .int .i64 q ∧ q ≤ mx ∧ Below wx.heap.size wx wq) (fun i _ _ => mx - (intOf i).toNat)
        case atStart => exact ⟨0, rfl, by omega, Below.refl _ _⟩
        case round =>
          obtain ⟨q, rfl, hq, hbq⟩ := hrel
          by_cases hqm : q < mx
          · have hqI : (q : Int) < (mx : Int) := by omega
            have KQ := Lib.hid (KX.out.next hbq)
            obtain ⟨z0, z1, hmz⟩ := KQ.out.num hqm
            obtain ⟨bb, ob, c, rfl, hR, hC⟩ := rows_cells KQ.out.rows KQ.out.len hqm hmz
            obtain ⟨gq, rfl, hZ⟩ := KQ.out.at' hqm
            obtain ⟨zz, hzz⟩ : ∃ x, x = Zx.getD q 0 := ⟨_, rfl⟩
            rw [← hzz] at z0 z1 hZ hR
            obtain ⟨mm, hmm⟩ : ∃ x, x = msgN zz := ⟨_, rfl⟩
            rw [← hmm] at hR
            obtain ⟨aex, nex, cex, aax, nax, cax, p1x, n1x, c1x, p2x, n2x, c2x, p3x, n3x, c3x, p4x, n4x, c4x, sax, snx, scx, rfl, g⟩ := hR
            have hR : msgRel wr wr.heap.size (#[.int .i64 mm.k, .int .i64 mm.f, .int .i64 mm.to, .int .i64 mm.g, .int .i64 mm.n, .slice aex nex cex, .slice aax nax cax, .slice p1x n1x c1x, .slice p2x n2x c2x, .slice p3x n3x c3x, .slice p4x n4x c4x, .int .i64 mm.ki, .string mm.mn, .string mm.mv, .slice sax snx scx, .int .i64 mm.er]).toList mm := ⟨aex, nex, cex, aax, nax, cax, p1x, n1x, c1x, p2x, n2x, c2x, p3x, n3x, c3x, p4x, n4x, c4x, sax, snx, scx, rfl, g⟩
            have HC := Lib.hid hC
            have HZ := Lib.hid hZ
            have HS : Hid (∀ (W : World) (c' : List Value), Below wr.heap.size wr W → msgRel W W.heap.size c' mm → Calls Try.prog 18 #[.agg #[.int .i64 mm.k, .int .i64 mm.f, .int .i64 mm.to, .int .i64 mm.g, .int .i64 mm.n, .slice aex nex cex, .slice aax nax cax, .slice p1x n1x c1x, .slice p2x n2x c2x, .slice p3x n3x c3x, .slice p4x n4x c4x, .int .i64 mm.ki, .string mm.mn, .string mm.mv, .slice sax snx scx, .int .i64 mm.er], .agg c'.toArray] W (Said true W)) := fun W c' hW h' => same_eq mm _ c' W (msgRel_steady _ _ _ _ _ _ hR hW hW.size) h'
            have HMQ : Hid (∀ W : World, Calls Try.prog 23 #[.int .i64 zz] W fun e w' => ∃ c, e = .returned (.agg (List.toArray c)) ∧ msgRel w' w'.heap.size c mm ∧ Below W.heap.size W w') := by
              intro W; rw [hmm]; exact HM.out zz W ⟨z0, z1⟩
            clear g hR hC hZ hzz hmm hmz z0 z1 KQ
            go_wp2
            refine wp_flow 11 (fun _ => 1000) (fun ww => RowKit.Below wr.heap.size wr ww) (fun _ w w' => (fun (w w' : World) => RowKit.Below w.heap.size w w') w w') (fun kF vF wF => match kF with | 0 => (vF = .slice (some ⟨bb, ob, none⟩) mx lx) | 1 => (vF = .int .i64 (q : Int)) | 2 => (vF = .pointer (some ⟨bb, ob + q * 16, none⟩)) | 3 => (vF = .agg #[.int .i64 mm.k, .int .i64 mm.f, .int .i64 mm.to, .int .i64 mm.g, .int .i64 mm.n, .slice aex nex cex, .slice aax nax cax, .slice p1x n1x c1x, .slice p2x n2x c2x, .slice p3x n3x c3x, .slice p4x n4x c4x, .int .i64 mm.ki, .string mm.mn, .string mm.mv, .slice sax snx scx, .int .i64 mm.er]) | 4 => (vF = .slice (some ⟨gq, 0, none⟩) mx cx) | 5 => (vF = .int .i64 (q : Int)) | 6 => (vF = .pointer (some ⟨gq, q, none⟩)) | 7 => (vF = .int .i64 zz) | 8 => (∃ c, vF = .agg (List.toArray c) ∧ msgRel wF wF.heap.size c mm) | 9 => (vF = .bool true) | 10 => (vF = .bool false) | _ => True) (fun _ _ _ _ => True) (by kernel_rfl) (by kernel_rfl) ?_ ?_ ?_ ?_ ?_
            · exact (Below.refl _ _).drew
            · intro iF wF1 wF2 hR hT; exact hR.trans (hT.mono hR.size)
            · intro kF hkF iF hiF hne hdd hanc hdan vF wF1 wF2 h hT
              rcases (by omega : kF = 0 ∨ kF = 1 ∨ kF = 2 ∨ kF = 3 ∨ kF = 4 ∨ kF = 5 ∨ kF = 6 ∨ kF = 7 ∨ kF = 8 ∨ kF = 9 ∨ kF = 10) with rfl | rfl | rfl | rfl | rfl | rfl | rfl | rfl | rfl | rfl | rfl
              · exact h
              · exact h
              · exact h
              · exact h
              · exact h
              · exact h
              · exact h
              · exact h
              · have h : (∃ c, vF = .agg (List.toArray c) ∧ msgRel wF1 wF1.heap.size c mm) := h
                show (∃ c, vF = .agg (List.toArray c) ∧ msgRel wF2 wF2.heap.size c mm)
                have hT : (fun (w w' : World) => RowKit.Below w.heap.size w w') wF1 wF2 := hT
                simp only at hT
                obtain ⟨c, e, hr⟩ := h
                exact ⟨c, e, msgRel_steady _ _ _ _ _ _ hr hT hT.size⟩
              · exact h
              · exact h
            · refine FlowAll.cons ?_ ?_
              · intro xF ww hR hd K hK
                clear hd
                simp only [List.take_succ_cons, List.take_zero, fillOf, Act.put, List.setIfInBounds_toArray, List.set_cons_zero, List.set_cons_succ, Nat.reduceAdd, Nat.zero_add] at hK ⊢
                obtain hbR := id hR
                rw [if_pos (by rfl)]
                go_simp
                exact hK.out _ _ (Below.refl _ _) (rfl) (fun _ _ _ => ⟨trivial, trivial⟩)
              refine FlowAll.cons ?_ ?_
              · intro xF ww hR hd K hK
                clear hd
                simp only [List.take_succ_cons, List.take_zero, fillOf, Act.put, List.setIfInBounds_toArray, List.set_cons_zero, List.set_cons_succ, Nat.reduceAdd, Nat.zero_add] at hK ⊢
                obtain hbR := id hR
                rw [if_pos (by rfl)]
                go_simp
                exact hK.out _ _ (Below.refl _ _) (rfl) (fun _ _ _ => ⟨trivial, trivial⟩)
              refine FlowAll.cons ?_ ?_
              · intro xF ww hR hd K hK
                have dd0 : ((xF 0) = .slice (some ⟨bb, ob, none⟩) mx lx) := hd 0 (by kernel_rfl)
                have dd1 : ((xF 1) = .int .i64 (q : Int)) := hd 1 (by kernel_rfl)
                clear hd
                simp only [List.take_succ_cons, List.take_zero, fillOf, Act.put, List.setIfInBounds_toArray, List.set_cons_zero, List.set_cons_succ, Nat.reduceAdd, Nat.zero_add] at hK ⊢
                try generalize xF 0 = yy0 at *
                try generalize xF 1 = yy1 at *
                obtain rfl := dd0
                obtain rfl := dd1
                obtain hbR := id hR
                rw [if_pos (by rfl)]
                go_simp
                exact hK.out _ _ (Below.refl _ _) (rfl) (fun _ _ _ => ⟨trivial, trivial⟩)
              refine FlowAll.cons ?_ ?_
              · intro xF ww hR hd K hK
                have dd2 : ((xF 2) = .pointer (some ⟨bb, ob + q * 16, none⟩)) := hd 2 (by kernel_rfl)
                clear hd
                simp only [List.take_succ_cons, List.take_zero, fillOf, Act.put, List.setIfInBounds_toArray, List.set_cons_zero, List.set_cons_succ, Nat.reduceAdd, Nat.zero_add] at hK ⊢
                try generalize xF 2 = yy2 at *
                obtain rfl := dd2
                obtain hbR := id hR
                have q0 : ww.cell? ⟨bb, ob + q * 16, none⟩ = _ := HC.out _ hR 0 _ rfl
                have q1 := HC.out _ hR 1 _ rfl
                have q2 := HC.out _ hR 2 _ rfl
                have q3 := HC.out _ hR 3 _ rfl
                have q4 := HC.out _ hR 4 _ rfl
                have q5 := HC.out _ hR 5 _ rfl
                have q6 := HC.out _ hR 6 _ rfl
                have q7 := HC.out _ hR 7 _ rfl
                have q8 := HC.out _ hR 8 _ rfl
                have q9 := HC.out _ hR 9 _ rfl
                have q10 := HC.out _ hR 10 _ rfl
                have q11 := HC.out _ hR 11 _ rfl
                have q12 := HC.out _ hR 12 _ rfl
                have q13 := HC.out _ hR 13 _ rfl
                have q14 := HC.out _ hR 14 _ rfl
                have q15 := HC.out _ hR 15 _ rfl
                rw [if_pos (by rfl)]
                go_simp
                exact hK.out _ _ (Below.refl _ _) (rfl) (fun _ _ _ => ⟨trivial, trivial⟩)
              refine FlowAll.cons ?_ ?_
              · intro xF ww hR hd K hK
                clear hd
                simp only [List.take_succ_cons, List.take_zero, fillOf, Act.put, List.setIfInBounds_toArray, List.set_cons_zero, List.set_cons_succ, Nat.reduceAdd, Nat.zero_add] at hK ⊢
                obtain hbR := id hR
                rw [if_pos (by rfl)]
                go_simp
                exact hK.out _ _ (Below.refl _ _) (rfl) (fun _ _ _ => ⟨trivial, trivial⟩)
              refine FlowAll.cons ?_ ?_
              · intro xF ww hR hd K hK
                clear hd
                simp only [List.take_succ_cons, List.take_zero, fillOf, Act.put, List.setIfInBounds_toArray, List.set_cons_zero, List.set_cons_succ, Nat.reduceAdd, Nat.zero_add] at hK ⊢
                obtain hbR := id hR
                rw [if_pos (by rfl)]
                go_simp
                exact hK.out _ _ (Below.refl _ _) (rfl) (fun _ _ _ => ⟨trivial, trivial⟩)
              refine FlowAll.cons ?_ ?_
              · intro xF ww hR hd K hK
                have dd4 : ((xF 4) = .slice (some ⟨gq, 0, none⟩) mx cx) := hd 4 (by kernel_rfl)
                have dd5 : ((xF 5) = .int .i64 (q : Int)) := hd 5 (by kernel_rfl)
                clear hd
                simp only [List.take_succ_cons, List.take_zero, fillOf, Act.put, List.setIfInBounds_toArray, List.set_cons_zero, List.set_cons_succ, Nat.reduceAdd, Nat.zero_add] at hK ⊢
                try generalize xF 4 = yy4 at *
                try generalize xF 5 = yy5 at *
                obtain rfl := dd4
                obtain rfl := dd5
                obtain hbR := id hR
                rw [if_pos (by rfl)]
                go_simp
                exact hK.out _ _ (Below.refl _ _) (rfl) (fun _ _ _ => ⟨trivial, trivial⟩)
              refine FlowAll.cons ?_ ?_
              · intro xF ww hR hd K hK
                have dd6 : ((xF 6) = .pointer (some ⟨gq, q, none⟩)) := hd 6 (by kernel_rfl)
                clear hd
                simp only [List.take_succ_cons, List.take_zero, fillOf, Act.put, List.setIfInBounds_toArray, List.set_cons_zero, List.set_cons_succ, Nat.reduceAdd, Nat.zero_add] at hK ⊢
                try generalize xF 6 = yy6 at *
                obtain rfl := dd6
                obtain hbR := id hR
                have q0 := HZ.out _ hR
                rw [if_pos (by rfl)]
                go_simp
                exact hK.out _ _ (Below.refl _ _) (rfl) (fun _ _ _ => ⟨trivial, trivial⟩)
              refine FlowAll.cons ?_ ?_
              · intro xF ww hR hd K hK
                have dd7 : ((xF 7) = .int .i64 zz) := hd 7 (by kernel_rfl)
                clear hd
                simp only [List.take_succ_cons, List.take_zero, fillOf, Act.put, List.setIfInBounds_toArray, List.set_cons_zero, List.set_cons_succ, Nat.reduceAdd, Nat.zero_add] at hK ⊢
                try generalize xF 7 = yy7 at *
                obtain rfl := dd7
                obtain hbR := id hR
                rw [if_pos (by rfl)]
                go_simp
                (go_at_call 23; (with_reducible refine (HMQ.out _).mono ?_); rintro e wK ⟨cK, rfl, hrK, hbK⟩)
                try go_wp2_with fail
                exact hK.out _ _ (hbK) (⟨cK, rfl, hrK⟩) (fun _ _ _ => ⟨trivial, trivial⟩)
              refine FlowAll.cons ?_ ?_
              · intro xF ww hR hd K hK
                have dd3 : ((xF 3) = .agg #[.int .i64 mm.k, .int .i64 mm.f, .int .i64 mm.to, .int .i64 mm.g, .int .i64 mm.n, .slice aex nex cex, .slice aax nax cax, .slice p1x n1x c1x, .slice p2x n2x c2x, .slice p3x n3x c3x, .slice p4x n4x c4x, .int .i64 mm.ki, .string mm.mn, .string mm.mv, .slice sax snx scx, .int .i64 mm.er]) := hd 3 (by kernel_rfl)
                have dd8 : (∃ c, (xF 8) = .agg (List.toArray c) ∧ msgRel ww ww.heap.size c mm) := hd 8 (by kernel_rfl)
                clear hd
                simp only [List.take_succ_cons, List.take_zero, fillOf, Act.put, List.setIfInBounds_toArray, List.set_cons_zero, List.set_cons_succ, Nat.reduceAdd, Nat.zero_add] at hK ⊢
                try generalize xF 3 = yy3 at *
                try generalize xF 8 = yy8 at *
                obtain rfl := dd3
                obtain ⟨c8, rfl, hr8⟩ := dd8
                obtain hbR := id hR
                rw [if_pos (by rfl)]
                go_simp
                (go_at_call 18; (with_reducible refine (HS.out _ c8 hR hr8).mono ?_); rintro e wK ⟨rfl, hbK⟩)
                try go_wp2_with fail
                exact hK.out _ _ (hbK) (rfl) (fun _ _ _ => ⟨trivial, trivial⟩)
              refine FlowAll.cons ?_ ?_
              · intro xF ww hR hd K hK
                have dd9 : ((xF 9) = .bool true) := hd 9 (by kernel_rfl)
                clear hd
                simp only [List.take_succ_cons, List.take_zero, fillOf, Act.put, List.setIfInBounds_toArray, List.set_cons_zero, List.set_cons_succ, Nat.reduceAdd, Nat.zero_add] at hK ⊢
                try generalize xF 9 = yy9 at *
                obtain rfl := dd9
                obtain hbR := id hR
                rw [if_pos (by rfl)]
                go_simp
                exact hK.out _ _ (Below.refl _ _) (rfl) (fun _ _ _ => ⟨trivial, trivial⟩)
              exact FlowAll.nil
            intro xF ww hR hF hP
            clear hP
            have dd0 : ((xF 0) = .slice (some ⟨bb, ob, none⟩) mx lx) := hF 0 (by omega) (by decide)
            have dd1 : ((xF 1) = .int .i64 (q : Int)) := hF 1 (by omega) (by decide)
            have dd2 : ((xF 2) = .pointer (some ⟨bb, ob + q * 16, none⟩)) := hF 2 (by omega) (by decide)
            have dd3 : ((xF 3) = .agg #[.int .i64 mm.k, .int .i64 mm.f, .int .i64 mm.to, .int .i64 mm.g, .int .i64 mm.n, .slice aex nex cex, .slice aax nax cax, .slice p1x n1x c1x, .slice p2x n2x c2x, .slice p3x n3x c3x, .slice p4x n4x c4x, .int .i64 mm.ki, .string mm.mn, .string mm.mv, .slice sax snx scx, .int .i64 mm.er]) := hF 3 (by omega) (by decide)
            have dd4 : ((xF 4) = .slice (some ⟨gq, 0, none⟩) mx cx) := hF 4 (by omega) (by decide)
            have dd5 : ((xF 5) = .int .i64 (q : Int)) := hF 5 (by omega) (by decide)
            have dd6 : ((xF 6) = .pointer (some ⟨gq, q, none⟩)) := hF 6 (by omega) (by decide)
            have dd7 : ((xF 7) = .int .i64 zz) := hF 7 (by omega) (by decide)
            have dd8 : (∃ c, (xF 8) = .agg (List.toArray c) ∧ msgRel ww ww.heap.size c mm) := hF 8 (by omega) (by decide)
            have dd9 : ((xF 9) = .bool true) := hF 9 (by omega) (by decide)
            have dd10 : ((xF 10) = .bool false) := hF 10 (by omega) (by decide)
            clear hF
            simp only [List.take_succ_cons, List.take_zero, List.drop_succ_cons, List.drop_zero, fillOf, Act.put, List.setIfInBounds_toArray, List.set_cons_zero, List.set_cons_succ, Nat.reduceAdd, Nat.zero_add]
            try generalize xF 0 = yy0 at *
            try generalize xF 1 = yy1 at *
            try generalize xF 2 = yy2 at *
            try generalize xF 3 = yy3 at *
            try generalize xF 4 = yy4 at *
            try generalize xF 5 = yy5 at *
            try generalize xF 6 = yy6 at *
            try generalize xF 7 = yy7 at *
            try generalize xF 8 = yy8 at *
            try generalize xF 9 = yy9 at *
            try generalize xF 10 = yy10 at *
            clear xF
            obtain rfl := dd0
            obtain rfl := dd1
            obtain rfl := dd2
            obtain rfl := dd3
            obtain rfl := dd4
            obtain rfl := dd5
            obtain rfl := dd6
            obtain rfl := dd7
            obtain ⟨c8, rfl, hr8⟩ := dd8
            obtain rfl := dd9
            obtain rfl := dd10
            have hRE := Lib.hid hR
            clear hR
            go_wp2
            go_roundw
            case rel => exact ⟨q + 1, by go_num, by omega, hbq.trans (hRE.out.mono hbq.size)⟩
            case measure => simp [intOf]; omega
          · go_wp2
            go_roundw
            case rel => exact ⟨k + 1, _, _, _, _, _, Zx, by go_num, rfl, rfl, by omega, KX.out.next hbq⟩
            case measure => simp [intOf]; omega
end Go.Proofs.Ytpgccfgldjeomaa
