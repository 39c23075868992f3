/- codec's law: awake. -/
import Derived.Test.YtghbkieflifegaaCdOne
import Derived.Test.YtghbkieflifegaaCdSame
import Derived.Test.YtghbkieflifegaaCdFar
import Derived.Test.YtghbkieflifegaaCdWrite2
import Derived.Test.YtghbkieflifegaaCdRead2
import Derived.Test.YtghbkieflifegaaCdFmt
import Derived.Test.YtghbkieflifegaaFlow
namespace Go.Proofs.Ytghbkieflifegaa
open Go Go.RowKit Go.ChangeShapes cl
theorem write_m (m : cd.Msg) (c : List Value) (w : World) (h : msgRel w w.heap.size c m) : Calls Try.prog 10 #[.agg c.toArray] w (Answer (cd.msg m) w) := by
  obtain ⟨ae, ne, ce, aa, na, ca, p1, m1, k1, p2, m2, k2, p3, m3, k3, p4, m4, k4, sa, sn, sc, rfl, h1, h2, h3, h4, h5, h6, h7, h8, h9⟩ := h
  exact write_any m ae ne ce aa na ca p1 m1 k1 p2 m2 k2 p3 m3 k3 p4 m4 k4 sa sn sc w h1 h2 h3 h4 h5 h6 h9 h7 h8
theorem app_byte {x y : cd.W} (hx : ∀ b, x = some b → ∀ z ∈ b, z < 256) (hy : ∀ b, y = some b → ∀ z ∈ b, z < 256) : ∀ b, cd.app x y = some b → ∀ z ∈ b, z < 256 := cd.byte_app hx hy
theorem each_byte {α : Type} {f : α → cd.W} (hf : ∀ x b, f x = some b → ∀ z ∈ b, z < 256) : ∀ (l : List α) b, cd.each f l = some b → ∀ z ∈ b, z < 256 := by
  intro l
  induction l with
  | nil => intro b h z hz; cases h; simp at hz
  | cons x l ih => exact app_byte (hf x) ih
theorem lst_byte {α : Type} {f : α → cd.W} (hf : ∀ x b, f x = some b → ∀ z ∈ b, z < 256) (l : List α) : ∀ b, cd.lst f l = some b → ∀ z ∈ b, z < 256 := by
  intro b h
  unfold cd.lst at h
  split at h
  · cases h
  · exact app_byte cd.num_byte (each_byte hf l) b h
theorem nums_byte (l : List Int) : ∀ b, cd.each cd.num l = some b → ∀ z ∈ b, z < 256 := each_byte (fun _ => cd.num_byte) l
theorem msg_byte (m : cd.Msg) : ∀ b, cd.msg m = some b → ∀ z ∈ b, z < 256 := by
  have hd : ∀ (d : cd.D) b, cd.dot d = some b → ∀ z ∈ b, z < 256 := fun d => nums_byte _
  have hl : ∀ (d : cd.Lk) b, cd.lnk d = some b → ∀ z ∈ b, z < 256 := fun d => app_byte (nums_byte _) (hd _)
  have ht : ∀ (s : ByteArray) b, cd.txt s = some b → ∀ z ∈ b, z < 256 := fun s => cd.txt_byte
  have he : ∀ (d : cd.Ent) b, cd.ent d = some b → ∀ z ∈ b, z < 256 := fun d => app_byte (ht _) (app_byte (hd _) (app_byte (nums_byte _) (lst_byte hl _)))
  have hc : ∀ v c b, cd.ctx v c = some b → ∀ z ∈ b, z < 256 := fun v c => app_byte (lst_byte hd _) (lst_byte hd _)
  exact app_byte (nums_byte _) (app_byte (app_byte (lst_byte he _) (app_byte (lst_byte hd _) (hc _ _))) (app_byte (hc _ _) (app_byte (nums_byte _) (app_byte (ht _) (app_byte (ht _) (app_byte (lst_byte ht _) (nums_byte _)))))))
theorem msg_small {m : cd.Msg} {b : List Nat} (h : cd.msg m = some b) : b.length ≤ 400000000 := by
  obtain ⟨b1, r1, h1, g1, rfl⟩ := cd.app_eq h
  obtain ⟨b2, r2, h2, g2, rfl⟩ := cd.app_eq g1
  obtain ⟨b3, r3, h3, g3, rfl⟩ := cd.app_eq g2
  obtain ⟨b4, r4, h4, g4, rfl⟩ := cd.app_eq g3
  obtain ⟨b5, r5, h5, g5, rfl⟩ := cd.app_eq g4
  obtain ⟨b6, r6, h6, g6, rfl⟩ := cd.app_eq g5
  obtain ⟨b7, r7, h7, h8, rfl⟩ := cd.app_eq g6
  have := cd.nums_len h1
  have := cd.del_len h2
  have := cd.ctx_len h3
  have := cd.nums_len h4
  have := cd.txt_len h5
  have := cd.txt_len h6
  have := cd.lst_len (fun _ _ h => cd.txt_len h) h7
  have := cd.nums_len h8
  simp only [List.length_append, List.length_cons, List.length_nil] at *
  omega
/-- what was written is read -/
theorem read_written {m : cd.Msg} {b : List Nat} (h : cd.msg m = some b) (w : World) : Calls Try.prog 12 #[.string (kit.str b)] w (ReadAns (.ok m) w) := by
  have := read_any (kit.str b) w (by rw [kit.str_size]; have := msg_small h; omega)
  rw [kit.bytes_str b (msg_byte m b h), cd.read_back h] at this
  exact this
set_option maxHeartbeats 6400000 in
set_option maxRecDepth 100000 in
theorem awake_any (w : World) : Calls Try.prog 9 #[] w (Said true w) := by
  obtain ⟨b, hb⟩ := one_some
  obtain ⟨z, hz, hz16⟩ := zero_some
  have HB := Lib.hid hb
  have HZ := Lib.hid hz
  have HO : Hid (∀ W : World, Calls Try.prog 15 #[] W fun e w' => ∃ c, e = .returned (.agg (List.toArray c)) ∧ msgRel w' w'.heap.size c oneM ∧ Below W.heap.size W w') := one_any
  have HWR : Hid (∀ (W : World) c, msgRel W W.heap.size c oneM → Calls Try.prog 10 #[.agg (List.toArray c)] W (Answer (cd.msg oneM) W)) := fun W c h => write_m oneM c W h
  have HRD : Hid (∀ W : World, Calls Try.prog 12 #[.string (kit.str b)] W (ReadAns (.ok oneM) W)) := fun W => read_written hb W
  have HWZ : Hid (∀ W : World, Calls Try.prog 10 #[.agg zeroC] W (Answer (cd.msg zeroM) W)) := fun W => write_m zeroM zeroC.toList W (zero_at W _)
  have HSM : Hid (∀ (W : World) c c', msgRel W W.heap.size c oneM → msgRel W W.heap.size c' oneM → Calls Try.prog 14 #[.agg (List.toArray c), .agg (List.toArray c')] W (Said true W)) := fun W c c' h h' => same_eq oneM c c' W h h'
  obtain ⟨Z, hZ⟩ : ∃ Z, Z = kit.str z := ⟨_, rfl⟩
  have hZ16 : Z.size = 16 := by rw [hZ, kit.str_size, hz16]
  clear hb hz hz16
  go_enter Try.func9, Try.ntmps9
  go_wp2_with fail
  (with_reducible refine (HO.out _).mono ?_)
  rintro e w1 ⟨c1, rfl, h1, b1⟩
  have H1 := Lib.hid (HWR.out w1 c1 h1)
  clear h1
  go_wp2_with fail
  (with_reducible refine H1.out.mono ?_)
  rintro e w2 ⟨⟨b', hb'⟩, b2⟩
  have B2 := b1.trans (b2.mono b1.size)
  rcases hb' with ⟨hb1, rfl⟩ | ⟨hb1, rfl⟩
  rotate_left
  · rw [HB.out] at hb1; cases hb1
  obtain rfl : b' = b := by rw [HB.out] at hb1; exact (Option.some.inj hb1).symm
  clear hb1 b2 b1 H1
  go_wp2_with fail
  (with_reducible refine (HRD.out _).mono ?_)
  rintro e w3 ⟨b3, hr⟩
  have B3 := B2.trans (b3.mono B2.size)
  rcases hr with ⟨m, c2, hm, rfl, hmo⟩ | ⟨k, hk, _⟩
  rotate_left
  · cases hk
  cases hm
  have h2 := hmo.at
  clear b3 B2 hmo
  obtain ⟨ae, ne, ce, aa, na, ca, p1, m1, k1, p2, m2, k2, p3, m3, k3, p4, m4, k4, sa, sn, sc, rfl, g⟩ := h2
  have h2 : msgRel w3 w3.heap.size (#[.int .i64 oneM.k, .int .i64 oneM.f, .int .i64 oneM.to, .int .i64 oneM.g, .int .i64 oneM.n, .slice ae ne ce, .slice aa na ca, .slice p1 m1 k1, .slice p2 m2 k2, .slice p3 m3 k3, .slice p4 m4 k4, .int .i64 oneM.ki, .string oneM.mn, .string oneM.mv, .slice sa sn sc, .int .i64 oneM.er]).toList oneM := ⟨ae, ne, ce, aa, na, ca, p1, m1, k1, p2, m2, k2, p3, m3, k3, p4, m4, k4, sa, sn, sc, rfl, g⟩
  clear g
  obtain ⟨v0, ev0⟩ : ∃ x, x = oneM.k := ⟨_, rfl⟩
  obtain ⟨v1, ev1⟩ : ∃ x, x = oneM.f := ⟨_, rfl⟩
  obtain ⟨v2, ev2⟩ : ∃ x, x = oneM.to := ⟨_, rfl⟩
  obtain ⟨v3, ev3⟩ : ∃ x, x = oneM.g := ⟨_, rfl⟩
  obtain ⟨v4, ev4⟩ : ∃ x, x = oneM.n := ⟨_, rfl⟩
  obtain ⟨v11, ev11⟩ : ∃ x, x = oneM.ki := ⟨_, rfl⟩
  obtain ⟨v12, ev12⟩ : ∃ x, x = oneM.mn := ⟨_, rfl⟩
  obtain ⟨v13, ev13⟩ : ∃ x, x = oneM.mv := ⟨_, rfl⟩
  obtain ⟨v15, ev15⟩ : ∃ x, x = oneM.er := ⟨_, rfl⟩
  rw [← ev0, ← ev1, ← ev2, ← ev3, ← ev4, ← ev11, ← ev12, ← ev13, ← ev15] at h2 ⊢
  clear ev0 ev1 ev2 ev3 ev4 ev11 ev12 ev13 ev15
  have H2 := Lib.hid h2
  have b4 : Below w3.heap.size w3 (w3.alloc (.cells #[.int .i64 v0, .int .i64 v1, .int .i64 v2, .int .i64 v3, .int .i64 v4, .slice ae ne ce, .slice aa na ca, .slice p1 m1 k1, .slice p2 m2 k2, .slice p3 m3 k3, .slice p4 m4 k4, .int .i64 v11, .string v12, .string v13, .slice sa sn sc, .int .i64 v15] 33)) := below1
  have H2' := Lib.hid (msgRel_steady _ _ _ _ _ _ h2 b4 b4.size)
  have B4 := B3.trans (b4.mono B3.size)
  have HX4 := Lib.hid (heap_alloc_new w3 (.cells #[.int .i64 v0, .int .i64 v1, .int .i64 v2, .int .i64 v3, .int .i64 v4, .slice ae ne ce, .slice aa na ca, .slice p1 m1 k1, .slice p2 m2 k2, .slice p3 m3 k3, .slice p4 m4 k4, .int .i64 v11, .string v12, .string v13, .slice sa sn sc, .int .i64 v15] 33))
  clear h2 b4 B3
  go_wp2_with fail
  (with_reducible refine (HWZ.out _).mono ?_)
  rintro e w5 ⟨⟨b', hb'⟩, b5⟩
  have B5 := B4.trans (b5.mono B4.size)
  rcases hb' with ⟨hb1, rfl⟩ | ⟨hb1, rfl⟩
  rotate_left
  · rw [HZ.out] at hb1; cases hb1
  obtain rfl : b' = z := by rw [HZ.out] at hb1; exact (Option.some.inj hb1).symm
  rw [← hZ]
  have x5 := (b5.block _ (lt_of_block HX4.out)).trans HX4.out
  have H5 := Lib.hid (msgRel_steady _ _ _ _ _ _ H2'.out b5 b5.size)
  have HXA : Hid (∀ W, Below w5.heap.size w5 W → W.heap[w3.heap.size]? = some (.cells #[.int .i64 v0, .int .i64 v1, .int .i64 v2, .int .i64 v3, .int .i64 v4, .slice ae ne ce, .slice aa na ca, .slice p1 m1 k1, .slice p2 m2 k2, .slice p3 m3 k3, .slice p4 m4 k4, .int .i64 v11, .string v12, .string v13, .slice sa sn sc, .int .i64 v15] 33) ∧ msgRel W W.heap.size (#[.int .i64 v0, .int .i64 v1, .int .i64 v2, .int .i64 v3, .int .i64 v4, .slice ae ne ce, .slice aa na ca, .slice p1 m1 k1, .slice p2 m2 k2, .slice p3 m3 k3, .slice p4 m4 k4, .int .i64 v11, .string v12, .string v13, .slice sa sn sc, .int .i64 v15]).toList oneM) := fun W hW => ⟨(hW.block _ (lt_of_block x5)).trans x5, msgRel_steady _ _ _ _ _ _ H5.out hW hW.size⟩
  clear hb1 b5 B4 x5 hZ
  go_wp2_with fail
  refine wp_flow 20 (fun _ => 1000) (fun ww => RowKit.Below w5.heap.size w5 ww) (fun _ w w' => (fun (w w' : World) => RowKit.Below w.heap.size w w') w w') (fun kF vF wF => match kF with | 0 => (vF = .int .i64 0) | 1 => (vF = .bool true) | 2 => (vF = .bool true) | 3 => (vF = .int .i64 0) | 4 => (vF = .bool true) | 5 => (vF = .bool true) | 6 => (vF = .bool true) | 7 => (vF = .agg #[.int .i64 v0, .int .i64 v1, .int .i64 v2, .int .i64 v3, .int .i64 v4, .slice ae ne ce, .slice aa na ca, .slice p1 m1 k1, .slice p2 m2 k2, .slice p3 m3 k3, .slice p4 m4 k4, .int .i64 v11, .string v12, .string v13, .slice sa sn sc, .int .i64 v15]) | 8 => (∃ c, vF = .agg (List.toArray c) ∧ msgRel wF wF.heap.size c oneM) | 9 => (vF = .bool true) | 10 => (vF = .bool true) | 11 => (vF = .bool true) | 12 => (vF = .string Z) | 13 => (vF = .int .i64 16) | 14 => (vF = .bool true) | 15 => (vF = .bool true) | 16 => (vF = .bool true) | 17 => (vF = .int .i64 0) | 18 => (vF = .bool true) | 19 => (vF = .bool true) | _ => True) (fun _ _ _ _ => True) (by kernel_rfl) (by kernel_rfl) ?_ ?_ ?_ ?_ ?_
  · exact (Below.refl _ _).drew
  · intro iF wF1 wF2 hR hT; exact hR.trans (hT.mono hR.size)
  · intro kF hkF iF hiF hne hdd hanc hdan vF wF1 wF2 h hT
    rcases (by omega : kF = 0 ∨ kF = 1 ∨ kF = 2 ∨ kF = 3 ∨ kF = 4 ∨ kF = 5 ∨ kF = 6 ∨ kF = 7 ∨ kF = 8 ∨ kF = 9 ∨ kF = 10 ∨ kF = 11 ∨ kF = 12 ∨ kF = 13 ∨ kF = 14 ∨ kF = 15 ∨ kF = 16 ∨ kF = 17 ∨ kF = 18 ∨ kF = 19) with rfl | rfl | rfl | rfl | rfl | rfl | rfl | rfl | rfl | rfl | rfl | rfl | rfl | rfl | rfl | rfl | rfl | rfl | rfl | rfl
    · exact h
    · exact h
    · exact h
    · exact h
    · exact h
    · exact h
    · exact h
    · exact h
    · have h : (∃ c, vF = .agg (List.toArray c) ∧ msgRel wF1 wF1.heap.size c oneM) := h
      show (∃ c, vF = .agg (List.toArray c) ∧ msgRel wF2 wF2.heap.size c oneM)
      have hT : (fun (w w' : World) => RowKit.Below w.heap.size w w') wF1 wF2 := hT
      simp only at hT
      obtain ⟨c, e, hr⟩ := h
      exact ⟨c, e, msgRel_steady _ _ _ _ _ _ hr hT hT.size⟩
    · exact h
    · exact h
    · exact h
    · exact h
    · exact h
    · exact h
    · exact h
    · exact h
    · exact h
    · exact h
    · exact h
  · refine FlowAll.cons ?_ ?_
    · intro xF w6 hR hd K hK
      clear hd
      simp only [List.take_succ_cons, List.take_zero, fillOf, Act.put, List.setIfInBounds_toArray, List.set_cons_zero, List.set_cons_succ, Nat.reduceAdd, Nat.zero_add] at hK ⊢
      obtain hbR := id hR
      rw [if_pos (by rfl)]
      go_simp
      exact hK.out _ _ (Below.refl _ _) (rfl) (fun _ _ _ => ⟨trivial, trivial⟩)
    refine FlowAll.cons ?_ ?_
    · intro xF w6 hR hd K hK
      have dd0 : ((xF 0) = .int .i64 0) := hd 0 (by kernel_rfl)
      clear hd
      simp only [List.take_succ_cons, List.take_zero, fillOf, Act.put, List.setIfInBounds_toArray, List.set_cons_zero, List.set_cons_succ, Nat.reduceAdd, Nat.zero_add] at hK ⊢
      try generalize xF 0 = yy0 at *
      obtain rfl := dd0
      obtain hbR := id hR
      rw [if_pos (by rfl)]
      go_simp
      exact hK.out _ _ (Below.refl _ _) (rfl) (fun _ _ _ => ⟨trivial, trivial⟩)
    refine FlowAll.cons ?_ ?_
    · intro xF w6 hR hd K hK
      have dd1 : ((xF 1) = .bool true) := hd 1 (by kernel_rfl)
      clear hd
      simp only [List.take_succ_cons, List.take_zero, fillOf, Act.put, List.setIfInBounds_toArray, List.set_cons_zero, List.set_cons_succ, Nat.reduceAdd, Nat.zero_add] at hK ⊢
      try generalize xF 1 = yy1 at *
      obtain rfl := dd1
      obtain hbR := id hR
      rw [if_pos (by rfl)]
      go_simp
      exact hK.out _ _ (Below.refl _ _) (rfl) (fun _ _ _ => ⟨trivial, trivial⟩)
    refine FlowAll.cons ?_ ?_
    · intro xF w6 hR hd K hK
      have dd2 : ((xF 2) = .bool true) := hd 2 (by kernel_rfl)
      clear hd
      simp only [List.take_succ_cons, List.take_zero, fillOf, Act.put, List.setIfInBounds_toArray, List.set_cons_zero, List.set_cons_succ, Nat.reduceAdd, Nat.zero_add] at hK ⊢
      try generalize xF 2 = yy2 at *
      obtain rfl := dd2
      obtain hbR := id hR
      rw [if_pos (by rfl)]
      go_simp
      exact hK.out _ _ (Below.refl _ _) (rfl) (fun _ _ _ => ⟨trivial, trivial⟩)
    refine FlowAll.cons ?_ ?_
    · intro xF w6 hR hd K hK
      have dd2 : ((xF 2) = .bool true) := hd 2 (by kernel_rfl)
      have dd3 : ((xF 3) = .int .i64 0) := hd 3 (by kernel_rfl)
      clear hd
      simp only [List.take_succ_cons, List.take_zero, fillOf, Act.put, List.setIfInBounds_toArray, List.set_cons_zero, List.set_cons_succ, Nat.reduceAdd, Nat.zero_add] at hK ⊢
      try generalize xF 2 = yy2 at *
      try generalize xF 3 = yy3 at *
      obtain rfl := dd2
      obtain rfl := dd3
      obtain hbR := id hR
      rw [if_pos (by rfl)]
      go_simp
      exact hK.out _ _ (Below.refl _ _) (rfl) (fun _ _ _ => ⟨trivial, trivial⟩)
    refine FlowAll.cons ?_ ?_
    · intro xF w6 hR hd K hK
      have dd2 : ((xF 2) = .bool true) := hd 2 (by kernel_rfl)
      have dd4 : ((xF 4) = .bool true) := hd 4 (by kernel_rfl)
      clear hd
      simp only [List.take_succ_cons, List.take_zero, fillOf, Act.put, List.setIfInBounds_toArray, List.set_cons_zero, List.set_cons_succ, Nat.reduceAdd, Nat.zero_add] at hK ⊢
      try generalize xF 2 = yy2 at *
      try generalize xF 4 = yy4 at *
      obtain rfl := dd2
      obtain rfl := dd4
      obtain hbR := id hR
      rw [if_pos (by rfl)]
      go_simp
      exact hK.out _ _ (Below.refl _ _) (rfl) (fun _ _ _ => ⟨trivial, trivial⟩)
    refine FlowAll.cons ?_ ?_
    · intro xF w6 hR hd K hK
      have dd5 : ((xF 5) = .bool true) := hd 5 (by kernel_rfl)
      clear hd
      simp only [List.take_succ_cons, List.take_zero, fillOf, Act.put, List.setIfInBounds_toArray, List.set_cons_zero, List.set_cons_succ, Nat.reduceAdd, Nat.zero_add] at hK ⊢
      try generalize xF 5 = yy5 at *
      obtain rfl := dd5
      obtain hbR := id hR
      rw [if_pos (by rfl)]
      go_simp
      exact hK.out _ _ (Below.refl _ _) (rfl) (fun _ _ _ => ⟨trivial, trivial⟩)
    refine FlowAll.cons ?_ ?_
    · intro xF w6 hR hd K hK
      have dd6 : ((xF 6) = .bool true) := hd 6 (by kernel_rfl)
      clear hd
      simp only [List.take_succ_cons, List.take_zero, fillOf, Act.put, List.setIfInBounds_toArray, List.set_cons_zero, List.set_cons_succ, Nat.reduceAdd, Nat.zero_add] at hK ⊢
      try generalize xF 6 = yy6 at *
      obtain rfl := dd6
      obtain hbR := id hR
      have hxa := (HXA.out _ hR).1
      have q0 := boxc hxa 0 _ rfl
      have q1 := boxc hxa 1 _ rfl
      have q2 := boxc hxa 2 _ rfl
      have q3 := boxc hxa 3 _ rfl
      have q4 := boxc hxa 4 _ rfl
      have q5 := boxc hxa 5 _ rfl
      have q6 := boxc hxa 6 _ rfl
      have q7 := boxc hxa 7 _ rfl
      have q8 := boxc hxa 8 _ rfl
      have q9 := boxc hxa 9 _ rfl
      have q10 := boxc hxa 10 _ rfl
      have q11 := boxc hxa 11 _ rfl
      have q12 := boxc hxa 12 _ rfl
      have q13 := boxc hxa 13 _ rfl
      have q14 := boxc hxa 14 _ rfl
      have q15 := boxc hxa 15 _ rfl
      clear hxa
      rw [if_pos (by rfl)]
      go_simp
      exact hK.out _ _ (Below.refl _ _) (rfl) (fun _ _ _ => ⟨trivial, trivial⟩)
    refine FlowAll.cons ?_ ?_
    · intro xF w6 hR hd K hK
      have dd6 : ((xF 6) = .bool true) := hd 6 (by kernel_rfl)
      clear hd
      simp only [List.take_succ_cons, List.take_zero, fillOf, Act.put, List.setIfInBounds_toArray, List.set_cons_zero, List.set_cons_succ, Nat.reduceAdd, Nat.zero_add] at hK ⊢
      try generalize xF 6 = yy6 at *
      obtain rfl := dd6
      obtain hbR := id hR
      rw [if_pos (by rfl)]
      go_simp
      (go_at_call 15; (with_reducible refine (HO.out _).mono ?_); rintro e wK ⟨cK, rfl, hrK, hbK⟩)
      try go_wp2_with fail
      exact hK.out _ _ (hbK) (⟨cK, rfl, hrK⟩) (fun _ _ _ => ⟨trivial, trivial⟩)
    refine FlowAll.cons ?_ ?_
    · intro xF w6 hR hd K hK
      have dd6 : ((xF 6) = .bool true) := hd 6 (by kernel_rfl)
      have dd7 : ((xF 7) = .agg #[.int .i64 v0, .int .i64 v1, .int .i64 v2, .int .i64 v3, .int .i64 v4, .slice ae ne ce, .slice aa na ca, .slice p1 m1 k1, .slice p2 m2 k2, .slice p3 m3 k3, .slice p4 m4 k4, .int .i64 v11, .string v12, .string v13, .slice sa sn sc, .int .i64 v15]) := hd 7 (by kernel_rfl)
      have dd8 : (∃ c, (xF 8) = .agg (List.toArray c) ∧ msgRel w6 w6.heap.size c oneM) := hd 8 (by kernel_rfl)
      clear hd
      simp only [List.take_succ_cons, List.take_zero, fillOf, Act.put, List.setIfInBounds_toArray, List.set_cons_zero, List.set_cons_succ, Nat.reduceAdd, Nat.zero_add] at hK ⊢
      try generalize xF 6 = yy6 at *
      try generalize xF 7 = yy7 at *
      try generalize xF 8 = yy8 at *
      obtain rfl := dd6
      obtain rfl := dd7
      obtain ⟨c8, rfl, hr8⟩ := dd8
      obtain hbR := id hR
      rw [if_pos (by rfl)]
      go_simp
      (go_at_call 14; (with_reducible refine (HSM.out _ (#[.int .i64 v0, .int .i64 v1, .int .i64 v2, .int .i64 v3, .int .i64 v4, .slice ae ne ce, .slice aa na ca, .slice p1 m1 k1, .slice p2 m2 k2, .slice p3 m3 k3, .slice p4 m4 k4, .int .i64 v11, .string v12, .string v13, .slice sa sn sc, .int .i64 v15]).toList c8 (HXA.out _ hR).2 hr8).mono ?_); rintro e wK ⟨rfl, hbK⟩)
      try go_wp2_with fail
      exact hK.out _ _ (hbK) (rfl) (fun _ _ _ => ⟨trivial, trivial⟩)
    refine FlowAll.cons ?_ ?_
    · intro xF w6 hR hd K hK
      have dd6 : ((xF 6) = .bool true) := hd 6 (by kernel_rfl)
      have dd9 : ((xF 9) = .bool true) := hd 9 (by kernel_rfl)
      clear hd
      simp only [List.take_succ_cons, List.take_zero, fillOf, Act.put, List.setIfInBounds_toArray, List.set_cons_zero, List.set_cons_succ, Nat.reduceAdd, Nat.zero_add] at hK ⊢
      try generalize xF 6 = yy6 at *
      try generalize xF 9 = yy9 at *
      obtain rfl := dd6
      obtain rfl := dd9
      obtain hbR := id hR
      rw [if_pos (by rfl)]
      go_simp
      exact hK.out _ _ (Below.refl _ _) (rfl) (fun _ _ _ => ⟨trivial, trivial⟩)
    refine FlowAll.cons ?_ ?_
    · intro xF w6 hR hd K hK
      have dd10 : ((xF 10) = .bool true) := hd 10 (by kernel_rfl)
      clear hd
      simp only [List.take_succ_cons, List.take_zero, fillOf, Act.put, List.setIfInBounds_toArray, List.set_cons_zero, List.set_cons_succ, Nat.reduceAdd, Nat.zero_add] at hK ⊢
      try generalize xF 10 = yy10 at *
      obtain rfl := dd10
      obtain hbR := id hR
      rw [if_pos (by rfl)]
      go_simp
      exact hK.out _ _ (Below.refl _ _) (rfl) (fun _ _ _ => ⟨trivial, trivial⟩)
    refine FlowAll.cons ?_ ?_
    · intro xF w6 hR hd K hK
      have dd11 : ((xF 11) = .bool true) := hd 11 (by kernel_rfl)
      clear hd
      simp only [List.take_succ_cons, List.take_zero, fillOf, Act.put, List.setIfInBounds_toArray, List.set_cons_zero, List.set_cons_succ, Nat.reduceAdd, Nat.zero_add] at hK ⊢
      try generalize xF 11 = yy11 at *
      obtain rfl := dd11
      obtain hbR := id hR
      rw [if_pos (by rfl)]
      go_simp
      exact hK.out _ _ (Below.refl _ _) (rfl) (fun _ _ _ => ⟨trivial, trivial⟩)
    refine FlowAll.cons ?_ ?_
    · intro xF w6 hR hd K hK
      have dd11 : ((xF 11) = .bool true) := hd 11 (by kernel_rfl)
      have dd12 : ((xF 12) = .string Z) := hd 12 (by kernel_rfl)
      clear hd
      simp only [List.take_succ_cons, List.take_zero, fillOf, Act.put, List.setIfInBounds_toArray, List.set_cons_zero, List.set_cons_succ, Nat.reduceAdd, Nat.zero_add] at hK ⊢
      try generalize xF 11 = yy11 at *
      try generalize xF 12 = yy12 at *
      obtain rfl := dd11
      obtain rfl := dd12
      obtain hbR := id hR
      have hz16 : (Z.size : Int) = 16 := by rw [hZ16]; rfl
      rw [if_pos (by rfl)]
      go_simp
      exact hK.out _ _ (Below.refl _ _) (rfl) (fun _ _ _ => ⟨trivial, trivial⟩)
    refine FlowAll.cons ?_ ?_
    · intro xF w6 hR hd K hK
      have dd11 : ((xF 11) = .bool true) := hd 11 (by kernel_rfl)
      have dd13 : ((xF 13) = .int .i64 16) := hd 13 (by kernel_rfl)
      clear hd
      simp only [List.take_succ_cons, List.take_zero, fillOf, Act.put, List.setIfInBounds_toArray, List.set_cons_zero, List.set_cons_succ, Nat.reduceAdd, Nat.zero_add] at hK ⊢
      try generalize xF 11 = yy11 at *
      try generalize xF 13 = yy13 at *
      obtain rfl := dd11
      obtain rfl := dd13
      obtain hbR := id hR
      rw [if_pos (by rfl)]
      go_simp
      exact hK.out _ _ (Below.refl _ _) (rfl) (fun _ _ _ => ⟨trivial, trivial⟩)
    refine FlowAll.cons ?_ ?_
    · intro xF w6 hR hd K hK
      have dd11 : ((xF 11) = .bool true) := hd 11 (by kernel_rfl)
      have dd14 : ((xF 14) = .bool true) := hd 14 (by kernel_rfl)
      clear hd
      simp only [List.take_succ_cons, List.take_zero, fillOf, Act.put, List.setIfInBounds_toArray, List.set_cons_zero, List.set_cons_succ, Nat.reduceAdd, Nat.zero_add] at hK ⊢
      try generalize xF 11 = yy11 at *
      try generalize xF 14 = yy14 at *
      obtain rfl := dd11
      obtain rfl := dd14
      obtain hbR := id hR
      rw [if_pos (by rfl)]
      go_simp
      exact hK.out _ _ (Below.refl _ _) (rfl) (fun _ _ _ => ⟨trivial, trivial⟩)
    refine FlowAll.cons ?_ ?_
    · intro xF w6 hR hd K hK
      have dd15 : ((xF 15) = .bool true) := hd 15 (by kernel_rfl)
      clear hd
      simp only [List.take_succ_cons, List.take_zero, fillOf, Act.put, List.setIfInBounds_toArray, List.set_cons_zero, List.set_cons_succ, Nat.reduceAdd, Nat.zero_add] at hK ⊢
      try generalize xF 15 = yy15 at *
      obtain rfl := dd15
      obtain hbR := id hR
      rw [if_pos (by rfl)]
      go_simp
      exact hK.out _ _ (Below.refl _ _) (rfl) (fun _ _ _ => ⟨trivial, trivial⟩)
    refine FlowAll.cons ?_ ?_
    · intro xF w6 hR hd K hK
      have dd16 : ((xF 16) = .bool true) := hd 16 (by kernel_rfl)
      clear hd
      simp only [List.take_succ_cons, List.take_zero, fillOf, Act.put, List.setIfInBounds_toArray, List.set_cons_zero, List.set_cons_succ, Nat.reduceAdd, Nat.zero_add] at hK ⊢
      try generalize xF 16 = yy16 at *
      obtain rfl := dd16
      obtain hbR := id hR
      rw [if_pos (by rfl)]
      go_simp
      exact hK.out _ _ (Below.refl _ _) (rfl) (fun _ _ _ => ⟨trivial, trivial⟩)
    refine FlowAll.cons ?_ ?_
    · intro xF w6 hR hd K hK
      have dd16 : ((xF 16) = .bool true) := hd 16 (by kernel_rfl)
      have dd17 : ((xF 17) = .int .i64 0) := hd 17 (by kernel_rfl)
      clear hd
      simp only [List.take_succ_cons, List.take_zero, fillOf, Act.put, List.setIfInBounds_toArray, List.set_cons_zero, List.set_cons_succ, Nat.reduceAdd, Nat.zero_add] at hK ⊢
      try generalize xF 16 = yy16 at *
      try generalize xF 17 = yy17 at *
      obtain rfl := dd16
      obtain rfl := dd17
      obtain hbR := id hR
      rw [if_pos (by rfl)]
      go_simp
      exact hK.out _ _ (Below.refl _ _) (rfl) (fun _ _ _ => ⟨trivial, trivial⟩)
    refine FlowAll.cons ?_ ?_
    · intro xF w6 hR hd K hK
      have dd16 : ((xF 16) = .bool true) := hd 16 (by kernel_rfl)
      have dd18 : ((xF 18) = .bool true) := hd 18 (by kernel_rfl)
      clear hd
      simp only [List.take_succ_cons, List.take_zero, fillOf, Act.put, List.setIfInBounds_toArray, List.set_cons_zero, List.set_cons_succ, Nat.reduceAdd, Nat.zero_add] at hK ⊢
      try generalize xF 16 = yy16 at *
      try generalize xF 18 = yy18 at *
      obtain rfl := dd16
      obtain rfl := dd18
      obtain hbR := id hR
      rw [if_pos (by rfl)]
      go_simp
      exact hK.out _ _ (Below.refl _ _) (rfl) (fun _ _ _ => ⟨trivial, trivial⟩)
    exact FlowAll.nil
  intro xF w6 hR hF hP
  clear hP
  have dd0 : ((xF 0) = .int .i64 0) := hF 0 (by omega) (by decide)
  have dd1 : ((xF 1) = .bool true) := hF 1 (by omega) (by decide)
  have dd2 : ((xF 2) = .bool true) := hF 2 (by omega) (by decide)
  have dd3 : ((xF 3) = .int .i64 0) := hF 3 (by omega) (by decide)
  have dd4 : ((xF 4) = .bool true) := hF 4 (by omega) (by decide)
  have dd5 : ((xF 5) = .bool true) := hF 5 (by omega) (by decide)
  have dd6 : ((xF 6) = .bool true) := hF 6 (by omega) (by decide)
  have dd7 : ((xF 7) = .agg #[.int .i64 v0, .int .i64 v1, .int .i64 v2, .int .i64 v3, .int .i64 v4, .slice ae ne ce, .slice aa na ca, .slice p1 m1 k1, .slice p2 m2 k2, .slice p3 m3 k3, .slice p4 m4 k4, .int .i64 v11, .string v12, .string v13, .slice sa sn sc, .int .i64 v15]) := hF 7 (by omega) (by decide)
  have dd8 : (∃ c, (xF 8) = .agg (List.toArray c) ∧ msgRel w6 w6.heap.size c oneM) := hF 8 (by omega) (by decide)
  have dd9 : ((xF 9) = .bool true) := hF 9 (by omega) (by decide)
  have dd10 : ((xF 10) = .bool true) := hF 10 (by omega) (by decide)
  have dd11 : ((xF 11) = .bool true) := hF 11 (by omega) (by decide)
  have dd12 : ((xF 12) = .string Z) := hF 12 (by omega) (by decide)
  have dd13 : ((xF 13) = .int .i64 16) := hF 13 (by omega) (by decide)
  have dd14 : ((xF 14) = .bool true) := hF 14 (by omega) (by decide)
  have dd15 : ((xF 15) = .bool true) := hF 15 (by omega) (by decide)
  have dd16 : ((xF 16) = .bool true) := hF 16 (by omega) (by decide)
  have dd17 : ((xF 17) = .int .i64 0) := hF 17 (by omega) (by decide)
  have dd18 : ((xF 18) = .bool true) := hF 18 (by omega) (by decide)
  have dd19 : ((xF 19) = .bool true) := hF 19 (by omega) (by decide)
  clear hF
  simp only [List.take_succ_cons, List.take_zero, List.drop_succ_cons, List.drop_zero, fillOf, Act.put, List.setIfInBounds_toArray, List.set_cons_zero, List.set_cons_succ, Nat.reduceAdd, Nat.zero_add]
  try generalize xF 0 = yy0 at *
  try generalize xF 1 = yy1 at *
  try generalize xF 2 = yy2 at *
  try generalize xF 3 = yy3 at *
  try generalize xF 4 = yy4 at *
  try generalize xF 5 = yy5 at *
  try generalize xF 6 = yy6 at *
  try generalize xF 7 = yy7 at *
  try generalize xF 8 = yy8 at *
  try generalize xF 9 = yy9 at *
  try generalize xF 10 = yy10 at *
  try generalize xF 11 = yy11 at *
  try generalize xF 12 = yy12 at *
  try generalize xF 13 = yy13 at *
  try generalize xF 14 = yy14 at *
  try generalize xF 15 = yy15 at *
  try generalize xF 16 = yy16 at *
  try generalize xF 17 = yy17 at *
  try generalize xF 18 = yy18 at *
  try generalize xF 19 = yy19 at *
  clear xF
  obtain rfl := dd0
  obtain rfl := dd1
  obtain rfl := dd2
  obtain rfl := dd3
  obtain rfl := dd4
  obtain rfl := dd5
  obtain rfl := dd6
  obtain rfl := dd7
  obtain ⟨c8, rfl, hr8⟩ := dd8
  obtain rfl := dd9
  obtain rfl := dd10
  obtain rfl := dd11
  obtain rfl := dd12
  obtain rfl := dd13
  obtain rfl := dd14
  obtain rfl := dd15
  obtain rfl := dd16
  obtain rfl := dd17
  obtain rfl := dd18
  obtain rfl := dd19
  have hRE := Lib.hid hR
  clear hR
  go_wp2
  go_ret
  exact ⟨rfl, B5.trans (hRE.out.mono B5.size)⟩
end Go.Proofs.Ytghbkieflifegaa
