/- net.Take, where there is one. -/
import Derived.Test.YtpgccfgldjeomaaNtTake0
namespace Go.Proofs.Ytpgccfgldjeomaa
open Go.RowKit Go.ChangeShapes cl
theorem own_other {w w' : World} {B k n g q : Nat} {e : TypeId} {xs : List Value} (h : w.ownsRow B e k (.slice (some ⟨g, 0, none⟩) n q) n xs) (hk : ∀ j, B ≤ j → w'.heap[j]? = w.heap[j]?) : w'.ownsRow B e k (.slice (some ⟨g, 0, none⟩) n q) n xs := by
  refine ⟨h.1, ?_⟩
  rcases h.2 with h | ⟨g', cap, cur, hv, hb, hg, r⟩
  · exact Or.inl h
  · exact Or.inr ⟨g', cap, cur, hv, hb, by rw [hk g' hb]; exact hg, r⟩
/-- what Take answers, the elements' cells named -/
def TakeC (cs : List (List Value)) (L : List cd.Msg) (k : Nat) (w : World) (e : Ending) (w' : World) : Prop := Below w.heap.size w w' ∧
   ∃ (g cap : Nat) (c' : List Value), e = .returned (.tuple #[.slice (some ⟨g, 0, none⟩) (L.length - 1) cap, .agg (List.toArray c'), .int .i64 0]) ∧ RowsAt 16 msgRel w' w'.heap.size (.slice (some ⟨g, 0, none⟩) (L.length - 1) cap) (L.take k ++ L.drop (k + 1)) ∧ w'.ownsRow w.heap.size 34 16 (.slice (some ⟨g, 0, none⟩) (L.length - 1) cap) (L.length - 1) ((cs.take k).flatten ++ (cs.drop (k + 1)).flatten) ∧ msgRel w' w'.heap.size c' (L.getD k default)
set_option maxHeartbeats 6400000 in
set_option maxRecDepth 100000 in
theorem take_cs (cs : List (List Value)) (L : List cd.Msg) (v : Value) (k : Nat) (w : World) (h0 : cs.length = L.length) (h1 : ∀ (j : Nat) (c : List Value) (x : cd.Msg), cs[j]? = some c → L[j]? = some x → c.length = 16 ∧ msgRel w w.heap.size c x) (hC : Cells w w.heap.size v L.length 16 cs.flatten) (hk : k < L.length) (hl : L.length ≤ 600) (hf : ∀ x ∈ L, Fit x) :
    Calls Try.prog 11 #[v, .int .i64 (k : Int)] w (TakeC cs L k w) := by
  have hL : RowsAt 16 msgRel w w.heap.size v L := ⟨cs, h0, h1, hC⟩
  obtain ⟨n, hn⟩ : ∃ n, n = L.length := ⟨_, rfl⟩
  obtain ⟨ao, cap, rfl, hnc, hnm⟩ := hL.form' hn
  have hkn : k < n := by omega
  have hn6 : n ≤ 600 := by omega
  obtain ⟨mm, hmm⟩ : ∃ x, x = L.getD k default := ⟨_, rfl⟩
  have hfit : Fit mm := hf mm (by
    rw [hmm, List.getD_eq_getElem?_getD, List.getElem?_eq_getElem hk]
    exact List.getElem_mem _)
  obtain ⟨b0, off, _, rfl, _⟩ := hL.get hn hkn default
  have HLL : Hid (∀ W, Below w.heap.size w W → RowsAt 16 msgRel W W.heap.size (.slice (some ⟨b0, off, none⟩) n cap) L) := fun W hW => hL.next msgRel_steady hW
  clear hL
  have hall : ∀ c ∈ cs, c.length = 16 := RowsAt.len h0 h1
  have h01 : ∀ (j : Nat) (c : List Value) (x : cd.Msg), cs[j]? = some c → L[j]? = some x → c.length = 16 ∧ msgRel w w.heap.size c x := h1
  have hone : ∀ u ∈ cs.flatten, u.oneCell' = true := flat_one h0 h1 (fun c x h => (msg_one c x h).2)
  have hlen : cs.flatten.length = n * 16 := by rw [hn]; exact hC.1
  have hla : (cs.take k).flatten.length = k * 16 := by rw [flat_take cs hall, List.length_take, hlen]; omega
  have hlb : (cs.drop (k + 1)).flatten.length = (n - (k + 1)) * 16 := by rw [flat_drop cs hall, List.length_drop, hlen]; omega
  have HLA := Lib.hid hla
  have HLB := Lib.hid hlb
  have HOA : Hid (∀ u ∈ (cs.take k).flatten, u.oneCell' = true) := fun u hu => by rw [flat_take cs hall] at hu; exact hone u (List.mem_of_mem_take hu)
  have HOB : Hid (∀ u ∈ (cs.drop (k + 1)).flatten, u.oneCell' = true) := fun u hu => by rw [flat_drop cs hall] at hu; exact hone u (List.mem_of_mem_drop hu)
  have HRA : Hid (∀ W, Below w.heap.size w W → ∀ a, some (⟨b0, off, none⟩ : Addr) = some a → ∀ j u, (cs.take k).flatten[j]? = some u → W.cell? (a.add j) = some u) := fun W hW a e j u hj => by
    cases e
    rw [flat_take cs hall, List.getElem?_take] at hj
    split at hj
    · exact (Cells.news' (hC.next hW)).2 _ rfl j u hj
    · cases hj
  have HRB : Hid (∀ W, Below w.heap.size w W → ∀ a, some (⟨b0, off + (k + 1) * 16, none⟩ : Addr) = some a → ∀ j u, (cs.drop (k + 1)).flatten[j]? = some u → W.cell? (a.add j) = some u) := fun W hW a e j u hj => by
    cases e
    rw [flat_drop cs hall, List.getElem?_drop] at hj
    have := (Cells.news' (hC.next hW)).2 _ rfl _ u hj
    rw [Addr.add_lit] at this ⊢
    rw [Nat.add_assoc]; exact this
  have HROW : Hid (∀ W base g q, w.heap.size ≤ base → Below w.heap.size w W → W.ownsRow base 34 16 (.slice (some ⟨g, 0, none⟩) (n - 1) q) (n - 1) ((cs.take k).flatten ++ (cs.drop (k + 1)).flatten) → RowsAt 16 msgRel W W.heap.size (.slice (some ⟨g, 0, none⟩) (n - 1) q) (L.take k ++ L.drop (k + 1)) ∧ W.ownsRow w.heap.size 34 16 (.slice (some ⟨g, 0, none⟩) (n - 1) q) (n - 1) ((cs.take k).flatten ++ (cs.drop (k + 1)).flatten)) := fun W base g q hB hW ho => by
    refine ⟨?_, own_base ho hB⟩
    refine RowsAt.own (e := 34) (base := base) (n := n - 1) (cs := cs.take k ++ cs.drop (k + 1)) (by rw [List.length_append, List.length_take, List.length_drop, ← hn]; omega) (by rw [List.length_append, List.length_append, List.length_take, List.length_take, List.length_drop, List.length_drop, h0]) (cut_rows (P := fun c x => c.length = 16 ∧ msgRel W W.heap.size c x) (fun j c x hc hx => ⟨(h01 j c x hc hx).1, msgRel_steady _ _ _ _ _ _ (h01 j c x hc hx).2 hW hW.size⟩) k) ?_
    rw [List.flatten_append]; exact ho
  obtain ⟨W1, hW1⟩ : ∃ W, W = w.alloc (.cells #[.int .i64 0, .int .i64 0, .int .i64 0, .int .i64 0, .int .i64 0, .slice none 0 0, .slice none 0 0, .slice none 0 0, .slice none 0 0, .slice none 0 0, .slice none 0 0, .int .i64 0, .string ⟨#[]⟩, .string ⟨#[]⟩, .slice none 0 0, .int .i64 0] 34) := ⟨_, rfl⟩
  have hb1 : Below w.heap.size w W1 := by rw [hW1]; exact below1
  have x1 : W1.heap[w.heap.size]? = some (.cells #[.int .i64 0, .int .i64 0, .int .i64 0, .int .i64 0, .int .i64 0, .slice none 0 0, .slice none 0 0, .slice none 0 0, .slice none 0 0, .slice none 0 0, .slice none 0 0, .int .i64 0, .string ⟨#[]⟩, .string ⟨#[]⟩, .slice none 0 0, .int .i64 0] 34) := by rw [hW1]; exact heap_alloc_new w _
  have hz1 : W1.heap.size = w.heap.size + 1 := by rw [hW1]; simp
  have HT := Lib.hid (there_yes (some ⟨b0, off, none⟩) n cap k W1 hkn)
  obtain ⟨i0, hi, hi0, hi1, hi2⟩ := info_parts ninfo_msg
  have HI := Lib.hid (And.intro hi (And.intro hi0 (And.intro hi1 hi2)))
  have HF := Lib.hid hfit
  have HB1 := Lib.hid hb1
  have X1 := Lib.hid x1
  have HN := Lib.hid hn
  have HMM := Lib.hid hmm
  have HKL := Lib.hid hk
  have HZ1 := Lib.hid hz1
  clear hb1 x1 hn h0 h1 h01 hC hi hi0 hi1 hi2 hmm hfit hf hall hone hlen hla hlb hk hl hnm
  go_enter Try.func11, Try.ntmps11
  go_wp2_with fail
  rw [← hW1]
  clear hW1
  (with_reducible refine HT.out.mono ?_)
  rintro e w2 ⟨rfl, rfl⟩
  clear HT
  go_wp2_with (at_make; refine wpList_make_full _ rfl _ _ 22 rfl (w.heap.size + 1) 34 i0 (.agg #[.int .i64 0, .int .i64 0, .int .i64 0, .int .i64 0, .int .i64 0, .slice none 0 0, .slice none 0 0, .slice none 0 0, .slice none 0 0, .slice none 0 0, .slice none 0 0, .int .i64 0, .string ⟨#[]⟩, .string ⟨#[]⟩, .slice none 0 0, .int .i64 0]) 16 Try.underlying22 HI.out.1 HI.out.2.1 HI.out.2.2.1 .i64 .i64 _ _ (n - 1) rfl rfl (by omega) (by omega) (by rw [HI.out.2.2.2]; omega) (by unfold maxLen; omega) (by have := HZ1.out; omega) ?_)
  intro w3 hown3 hgrow3
  have hb3 : Below (w.heap.size + 1) w2 w3 := (Below.refl _ _).grown hgrow3 (by omega) (fun j hj => by cases hj)
  obtain ⟨g, hg⟩ : ∃ g, g = w.heap.size + 1 := ⟨_, rfl⟩
  rw [← hg] at hown3 ⊢
  have HG := Lib.hid hg
  have HO3 := Lib.hid hown3
  have HB3 := Lib.hid hb3
  have hw3 := HB1.out.trans (hb3.mono (by omega))
  have HW3 := Lib.hid hw3
  have HRA3 := Lib.hid (HRA.out w3 hw3)
  have hkm : k ≤ n - 1 := by omega
  have hno : some (⟨b0, off, none⟩ : Addr) = none → k = 0 := fun e => by cases e
  have HNO := Lib.hid hno
  clear hown3 hgrow3 hg hb3 hw3 hno hz1 HRA
  go_wp2_with (with_reducible refine kit.copy_own_k (.tmp 18) (.tmp 21) 22 22 rfl rfl g Try.underlying22 nsize_msg (ys := (cs.take k).flatten) HO3.out rfl rfl HLA.out hkm HNO.out HRA3.out HOA.out ?_)
  intro w5 hown5 hb5 hz5
  rw [HG.out] at hb5
  have HO5 := Lib.hid hown5
  have HW5 := Lib.hid (HW3.out.trans (hb5.mono (by omega)))
  have HB5 := Lib.hid (HB3.out.trans hb5)
  clear hown5 hb5 hz5 HO3 HB3 HW3 HRA3 HNO HOA
  have hk01 : (0 : Int) ≤ (k : Int) + 1 := by omega
  have hk02 : (k : Int) + 1 ≤ (n : Int) := by omega
  have hwr : IntKind.i64.wrap ((k : Int) + 1) = (k : Int) + 1 := IntWalk.i64_in _ (by omega)
  go_wp2_with fail
  refine wp_flow 7 (fun _ => 1000) (fun ww => RowKit.Below w5.heap.size w5 ww) (fun _ w w' => (fun (w w' : World) => RowKit.Below w.heap.size w w') w w') (fun kF vF wF => match kF with | 0 => (vF = .slice (some ⟨g, 0, none⟩) (n - 1) (n - 1)) | 1 => (vF = .int .i64 (k : Int)) | 2 => (∃ dp, vF = .slice dp (n - 1 - k) (n - 1 - k) ∧ (0 < n - 1 - k → dp = some ⟨g, k * 16, none⟩)) | 3 => (vF = .slice (some ⟨b0, off, none⟩) n cap) | 4 => (vF = .int .i64 (k : Int)) | 5 => (vF = .int .i64 ((k : Int) + 1)) | 6 => (∃ sp, vF = .slice sp (n - (k + 1)) (cap - (k + 1)) ∧ (0 < n - (k + 1) → sp = some ⟨b0, off + (k + 1) * 16, none⟩)) | _ => True) (fun _ _ _ _ => True) (by kernel_rfl) (by kernel_rfl) ?_ ?_ ?_ ?_ ?_
  · exact (Below.refl _ _).drew
  · intro iF wF1 wF2 hR hT; exact hR.trans (hT.mono hR.size)
  · intro kF hkF iF hiF hne hdd hanc hdan vF wF1 wF2 h hT
    rcases (by omega : kF = 0 ∨ kF = 1 ∨ kF = 2 ∨ kF = 3 ∨ kF = 4 ∨ kF = 5 ∨ kF = 6) with rfl | rfl | rfl | rfl | rfl | rfl | rfl
    · exact h
    · exact h
    · exact h
    · exact h
    · exact h
    · exact h
    · exact h
  · refine FlowAll.cons ?_ ?_
    · intro xF w6 hR hd K hK
      clear hd
      simp only [List.take_succ_cons, List.take_zero, fillOf, Act.put, List.setIfInBounds_toArray, List.set_cons_zero, List.set_cons_succ, Nat.reduceAdd, Nat.zero_add] at hK ⊢
      obtain hbR := id hR
      rw [if_pos (by rfl)]
      go_simp
      exact hK.out _ _ (Below.refl _ _) (rfl) (fun _ _ _ => ⟨trivial, trivial⟩)
    refine FlowAll.cons ?_ ?_
    · intro xF w6 hR hd K hK
      clear hd
      simp only [List.take_succ_cons, List.take_zero, fillOf, Act.put, List.setIfInBounds_toArray, List.set_cons_zero, List.set_cons_succ, Nat.reduceAdd, Nat.zero_add] at hK ⊢
      obtain hbR := id hR
      rw [if_pos (by rfl)]
      go_simp
      exact hK.out _ _ (Below.refl _ _) (rfl) (fun _ _ _ => ⟨trivial, trivial⟩)
    refine FlowAll.cons ?_ ?_
    · intro xF w6 hR hd K hK
      have dd0 : ((xF 0) = .slice (some ⟨g, 0, none⟩) (n - 1) (n - 1)) := hd 0 (by kernel_rfl)
      have dd1 : ((xF 1) = .int .i64 (k : Int)) := hd 1 (by kernel_rfl)
      clear hd
      simp only [List.take_succ_cons, List.take_zero, fillOf, Act.put, List.setIfInBounds_toArray, List.set_cons_zero, List.set_cons_succ, Nat.reduceAdd, Nat.zero_add] at hK ⊢
      try generalize xF 0 = yy0 at *
      try generalize xF 1 = yy1 at *
      obtain rfl := dd0
      obtain rfl := dd1
      obtain hbR := id hR
      rw [if_pos (by rfl)]
      go_simp
      exact hK.out _ _ (Below.refl _ _) (⟨_, rfl, fun h => by rw [if_neg (by omega)]⟩) (fun _ _ _ => ⟨trivial, trivial⟩)
    refine FlowAll.cons ?_ ?_
    · intro xF w6 hR hd K hK
      clear hd
      simp only [List.take_succ_cons, List.take_zero, fillOf, Act.put, List.setIfInBounds_toArray, List.set_cons_zero, List.set_cons_succ, Nat.reduceAdd, Nat.zero_add] at hK ⊢
      obtain hbR := id hR
      rw [if_pos (by rfl)]
      go_simp
      exact hK.out _ _ (Below.refl _ _) (rfl) (fun _ _ _ => ⟨trivial, trivial⟩)
    refine FlowAll.cons ?_ ?_
    · intro xF w6 hR hd K hK
      clear hd
      simp only [List.take_succ_cons, List.take_zero, fillOf, Act.put, List.setIfInBounds_toArray, List.set_cons_zero, List.set_cons_succ, Nat.reduceAdd, Nat.zero_add] at hK ⊢
      obtain hbR := id hR
      rw [if_pos (by rfl)]
      go_simp
      exact hK.out _ _ (Below.refl _ _) (rfl) (fun _ _ _ => ⟨trivial, trivial⟩)
    refine FlowAll.cons ?_ ?_
    · intro xF w6 hR hd K hK
      have dd4 : ((xF 4) = .int .i64 (k : Int)) := hd 4 (by kernel_rfl)
      clear hd
      simp only [List.take_succ_cons, List.take_zero, fillOf, Act.put, List.setIfInBounds_toArray, List.set_cons_zero, List.set_cons_succ, Nat.reduceAdd, Nat.zero_add] at hK ⊢
      try generalize xF 4 = yy4 at *
      obtain rfl := dd4
      obtain hbR := id hR
      rw [if_pos (by rfl)]
      go_simp
      exact hK.out _ _ (Below.refl _ _) (rfl) (fun _ _ _ => ⟨trivial, trivial⟩)
    refine FlowAll.cons ?_ ?_
    · intro xF w6 hR hd K hK
      have dd3 : ((xF 3) = .slice (some ⟨b0, off, none⟩) n cap) := hd 3 (by kernel_rfl)
      have dd5 : ((xF 5) = .int .i64 ((k : Int) + 1)) := hd 5 (by kernel_rfl)
      clear hd
      simp only [List.take_succ_cons, List.take_zero, fillOf, Act.put, List.setIfInBounds_toArray, List.set_cons_zero, List.set_cons_succ, Nat.reduceAdd, Nat.zero_add] at hK ⊢
      try generalize xF 3 = yy3 at *
      try generalize xF 5 = yy5 at *
      obtain rfl := dd3
      obtain rfl := dd5
      obtain hbR := id hR
      rw [if_pos (by rfl)]
      go_simp
      refine hK.out _ _ ?_ ?_ ?_
      · exact Below.refl _ _
      · refine ⟨_, rfl, fun h => ?_⟩; rw [if_neg (by omega)]
      · exact fun _ _ _ => ⟨trivial, trivial⟩
    exact FlowAll.nil
  intro xF w6 hR hF hP
  clear hP
  have dd0 : ((xF 0) = .slice (some ⟨g, 0, none⟩) (n - 1) (n - 1)) := hF 0 (by omega) (by decide)
  have dd1 : ((xF 1) = .int .i64 (k : Int)) := hF 1 (by omega) (by decide)
  have dd2 : (∃ dp, (xF 2) = .slice dp (n - 1 - k) (n - 1 - k) ∧ (0 < n - 1 - k → dp = some ⟨g, k * 16, none⟩)) := hF 2 (by omega) (by decide)
  have dd3 : ((xF 3) = .slice (some ⟨b0, off, none⟩) n cap) := hF 3 (by omega) (by decide)
  have dd4 : ((xF 4) = .int .i64 (k : Int)) := hF 4 (by omega) (by decide)
  have dd5 : ((xF 5) = .int .i64 ((k : Int) + 1)) := hF 5 (by omega) (by decide)
  have dd6 : (∃ sp, (xF 6) = .slice sp (n - (k + 1)) (cap - (k + 1)) ∧ (0 < n - (k + 1) → sp = some ⟨b0, off + (k + 1) * 16, none⟩)) := hF 6 (by omega) (by decide)
  clear hF
  simp only [List.take_succ_cons, List.take_zero, List.drop_succ_cons, List.drop_zero, fillOf, Act.put, List.setIfInBounds_toArray, List.set_cons_zero, List.set_cons_succ, Nat.reduceAdd, Nat.zero_add]
  try generalize xF 0 = yy0 at *
  try generalize xF 1 = yy1 at *
  try generalize xF 2 = yy2 at *
  try generalize xF 3 = yy3 at *
  try generalize xF 4 = yy4 at *
  try generalize xF 5 = yy5 at *
  try generalize xF 6 = yy6 at *
  clear xF
  obtain rfl := dd0
  obtain rfl := dd1
  obtain ⟨dp, rfl, hdp⟩ := dd2
  obtain rfl := dd3
  obtain rfl := dd4
  obtain rfl := dd5
  obtain ⟨sp, rfl, hsp⟩ := dd6
  have hRE := Lib.hid hR
  clear hR
  have hm1 : n - 1 - k = n - (k + 1) := by omega
  have HDP : Hid (0 < n - (k + 1) → dp = some ⟨g, k * 16, none⟩) := fun h => hdp (by omega)
  have HSP : Hid (sp = none → n - (k + 1) = 0) := fun e => by
    rcases Nat.eq_zero_or_pos (n - (k + 1)) with h | h
    · exact h
    · rw [hsp h] at e; cases e
  have hW6 := HW5.out.trans (hRE.out.mono HW5.out.size)
  have HSR : Hid (∀ a, sp = some a → ∀ j u, (cs.drop (k + 1)).flatten[j]? = some u → w6.cell? (a.add j) = some u) := fun a e j u hj => by
    rcases Nat.eq_zero_or_pos (n - (k + 1)) with h | h
    · have h2 := HLB.out
      rw [h, Nat.zero_mul] at h2
      rw [List.eq_nil_of_length_eq_zero h2] at hj
      simp at hj
    · exact HRB.out w6 hW6 a (by rw [← hsp h]; exact e) j u hj
  have hfit2 : k * 16 + (n - (k + 1)) * 16 ≤ (n - 1) * 16 := by omega
  have hle : n - (k + 1) ≤ n - 1 - k := by omega
  have HO6 := Lib.hid (own_stay HO5.out hRE.out)
  have HW6 := Lib.hid hW6
  have HB6 := Lib.hid (HB5.out.trans (hRE.out.mono (by have := HB5.out.size; have := HZ1.out; omega)))
  obtain ⟨D, hD⟩ : ∃ D, D = (madeCells (#[.int .i64 0, .int .i64 0, .int .i64 0, .int .i64 0, .int .i64 0, .slice none 0 0, .slice none 0 0, .slice none 0 0, .slice none 0 0, .slice none 0 0, .slice none 0 0, .int .i64 0, .string ⟨#[]⟩, .string ⟨#[]⟩, .slice none 0 0, .int .i64 0] : Array Value) ((n - 1) * 16)).toList.drop (k * 16) := ⟨_, rfl⟩
  have hDl : D.length = (n - 1) * 16 - k * 16 := by rw [hD, List.length_drop, Array.length_toList, size_madeCells]
  rw [← hD] at HO6
  clear hdp hsp hW6 HO5 HW5 HB5 hRE HRB hD hm1
  go_wp2_with (with_reducible refine kit.copy_at (.tmp 25) (.tmp 29) 22 22 rfl rfl g Try.underlying22 nsize_msg (ys := (cs.drop (k + 1)).flatten) (k * 16) HO6.out rfl rfl HLB.out hle HDP.out hfit2 HSP.out HSR.out HOB.out ?_)
  intro w7 hown7 hb7 hz7
  rw [HG.out] at hb7
  have hxx : ((cs.take k).flatten ++ D).take (k * 16) ++ ((cs.drop (k + 1)).flatten ++ ((cs.take k).flatten ++ D).drop (k * 16 + (n - (k + 1)) * 16)) = (cs.take k).flatten ++ (cs.drop (k + 1)).flatten := by
    rw [List.take_append, HLA.out, Nat.sub_self, List.take_zero, List.append_nil, List.take_of_length_le (by rw [HLA.out]; omega)]
    rw [show ((cs.take k).flatten ++ D).drop (k * 16 + (n - (k + 1)) * 16) = [] from List.drop_eq_nil_of_le (by rw [List.length_append, HLA.out, hDl]; omega), List.append_nil]
  rw [hxx] at hown7
  have hw7 := HW6.out.trans (hb7.mono (by omega))
  have y1 := ((HB6.out.trans hb7).block w.heap.size (by omega)).trans X1.out
  obtain ⟨_, _, c, e9, hbB, hcl, hR, hcell⟩ := (HLL.out w7 hw7).get HN.out hkn default
  cases e9
  rw [← HMM.out] at hR
  have hRR := id hR
  obtain ⟨ae, ne, ce, aa, na, ca, p1, n1, c1, p2, n2, c2, p3, n3, c3, p4, n4, c4, sa, sn, sc, rfl, hR'⟩ := hR
  have s0 : w7.cell? ⟨b0, off + k * 16, none⟩ = some (.int .i64 mm.k) := hcell 0 _ rfl
  have s1 : w7.cell? ⟨b0, off + k * 16 + 1, none⟩ = some (.int .i64 mm.f) := hcell 1 _ rfl
  have s2 : w7.cell? ⟨b0, off + k * 16 + 2, none⟩ = some (.int .i64 mm.to) := hcell 2 _ rfl
  have s3 : w7.cell? ⟨b0, off + k * 16 + 3, none⟩ = some (.int .i64 mm.g) := hcell 3 _ rfl
  have s4 : w7.cell? ⟨b0, off + k * 16 + 4, none⟩ = some (.int .i64 mm.n) := hcell 4 _ rfl
  have s5 : w7.cell? ⟨b0, off + k * 16 + 5, none⟩ = some (.slice ae ne ce) := hcell 5 _ rfl
  have s6 : w7.cell? ⟨b0, off + k * 16 + 6, none⟩ = some (.slice aa na ca) := hcell 6 _ rfl
  have s7 : w7.cell? ⟨b0, off + k * 16 + 7, none⟩ = some (.slice p1 n1 c1) := hcell 7 _ rfl
  have s8 : w7.cell? ⟨b0, off + k * 16 + 8, none⟩ = some (.slice p2 n2 c2) := hcell 8 _ rfl
  have s9 : w7.cell? ⟨b0, off + k * 16 + 9, none⟩ = some (.slice p3 n3 c3) := hcell 9 _ rfl
  have s10 : w7.cell? ⟨b0, off + k * 16 + 10, none⟩ = some (.slice p4 n4 c4) := hcell 10 _ rfl
  have s11 : w7.cell? ⟨b0, off + k * 16 + 11, none⟩ = some (.int .i64 mm.ki) := hcell 11 _ rfl
  have s12 : w7.cell? ⟨b0, off + k * 16 + 12, none⟩ = some (.string mm.mn) := hcell 12 _ rfl
  have s13 : w7.cell? ⟨b0, off + k * 16 + 13, none⟩ = some (.string mm.mv) := hcell 13 _ rfl
  have s14 : w7.cell? ⟨b0, off + k * 16 + 14, none⟩ = some (.slice sa sn sc) := hcell 14 _ rfl
  have s15 : w7.cell? ⟨b0, off + k * 16 + 15, none⟩ = some (.int .i64 mm.er) := hcell 15 _ rfl
  have HCM := Lib.hid (twmsg_any mm _ w7 hRR HF.out)
  have HO7 := Lib.hid hown7
  have HW7 := Lib.hid hw7
  have Y1 := Lib.hid y1
  clear hxx hown7 hw7 hb7 hz7 y1 hR' hRR hcl hcell hDl HO6 HW6 HB6 HDP HSP HSR
  go_wp2_with fail
  (with_reducible refine HCM.out.mono ?_)
  rintro e w8 ⟨c', rfl, hM, hb8⟩
  have hMM := id hM
  obtain ⟨oe, me, ke, oa, ma, ka, ov, mv, kv, oc, mc, kc, pv, nv, lv, pc, nc, lc, os, ms, ks, rfl, hM'⟩ := hM
  have y1 := (hb8.block _ (lt_of_block Y1.out)).trans Y1.out
  obtain ⟨qb, hq0⟩ : ∃ b, b = w.heap.size := ⟨_, rfl⟩
  have HW : Hid (qb = w.heap.size) := hq0
  rw [← hq0] at y1 ⊢
  have f0 := boxf y1 0
  have q0 := boxc y1 0 _ rfl
  have f1 := boxf y1 1
  have q1 := boxc y1 1 _ rfl
  have f2 := boxf y1 2
  have q2 := boxc y1 2 _ rfl
  have f3 := boxf y1 3
  have q3 := boxc y1 3 _ rfl
  have f4 := boxf y1 4
  have q4 := boxc y1 4 _ rfl
  have f5 := boxf y1 5
  have q5 := boxc y1 5 _ rfl
  have f6 := boxf y1 6
  have q6 := boxc y1 6 _ rfl
  have f7 := boxf y1 7
  have q7 := boxc y1 7 _ rfl
  have f8 := boxf y1 8
  have q8 := boxc y1 8 _ rfl
  have f9 := boxf y1 9
  have q9 := boxc y1 9 _ rfl
  have f10 := boxf y1 10
  have q10 := boxc y1 10 _ rfl
  have f11 := boxf y1 11
  have q11 := boxc y1 11 _ rfl
  have f12 := boxf y1 12
  have q12 := boxc y1 12 _ rfl
  have f13 := boxf y1 13
  have q13 := boxc y1 13 _ rfl
  have f14 := boxf y1 14
  have q14 := boxc y1 14 _ rfl
  have f15 := boxf y1 15
  have q15 := boxc y1 15 _ rfl
  have YY := Lib.hid y1
  have HM8 : Hid (MsgF w7.heap.size w8 [.int .i64 mm.k, .int .i64 mm.f, .int .i64 mm.to, .int .i64 mm.g, .int .i64 mm.n, .slice oe me ke, .slice oa ma ka, .slice ov mv kv, .slice oc mc kc, .slice pv nv lv, .slice pc nc lc, .int .i64 mm.ki, .string mm.mn, .string mm.mv, .slice os ms ks, .int .i64 mm.er] mm) := hMM
  have HO8 := Lib.hid (own_stay HO7.out hb8)
  have HW8 := Lib.hid (HW7.out.trans (hb8.mono HW7.out.size))
  clear hM' hMM hb8 y1 hq0 Y1 HCM HO7
  clear s0 s1 s2 s3 s4 s5 s6 s7 s8 s9 s10 s11 s12 s13 s14 s15
  go_wp2
  obtain ⟨w9, h9⟩ : ∃ W, W = wset w8 qb 0 [.int .i64 mm.k, .int .i64 mm.f, .int .i64 mm.to, .int .i64 mm.g, .int .i64 mm.n, .slice oe me ke, .slice oa ma ka, .slice ov mv kv, .slice oc mc kc, .slice pv nv lv, .slice pc nc lc, .int .i64 mm.ki, .string mm.mn, .string mm.mv, .slice os ms ks, .int .i64 mm.er] := ⟨_, rfl⟩
  have c := wset_row [.int .i64 mm.k, .int .i64 mm.f, .int .i64 mm.to, .int .i64 mm.g, .int .i64 mm.n, .slice oe me ke, .slice oa ma ka, .slice ov mv kv, .slice oc mc kc, .slice pv nv lv, .slice pc nc lc, .int .i64 mm.ki, .string mm.mn, .string mm.mv, .slice os ms ks, .int .i64 mm.er] YY.out rfl
  have kk := wset_kt [.int .i64 mm.k, .int .i64 mm.f, .int .i64 mm.to, .int .i64 mm.g, .int .i64 mm.n, .slice oe me ke, .slice oa ma ka, .slice ov mv kv, .slice oc mc kc, .slice pv nv lv, .slice pc nc lc, .int .i64 mm.ki, .string mm.mn, .string mm.mv, .slice os ms ks, .int .i64 mm.er] w8 qb 0 _ _ YY.out
  have bb := wset_below [.int .i64 mm.k, .int .i64 mm.f, .int .i64 mm.to, .int .i64 mm.g, .int .i64 mm.n, .slice oe me ke, .slice oa ma ka, .slice ov mv kv, .slice oc mc kc, .slice pv nv lv, .slice pc nc lc, .int .i64 mm.ki, .string mm.mn, .string mm.mv, .slice os ms ks, .int .i64 mm.er] w8 w qb 0 w.heap.size (by have := HW.out; omega) HW8.out
  have ho := (wset_below [.int .i64 mm.k, .int .i64 mm.f, .int .i64 mm.to, .int .i64 mm.g, .int .i64 mm.n, .slice oe me ke, .slice oa ma ka, .slice ov mv kv, .slice oc mc kc, .slice pv nv lv, .slice pc nc lc, .int .i64 mm.ki, .string mm.mn, .string mm.mv, .slice os ms ks, .int .i64 mm.er] w8 w8 qb 0 qb (Nat.le_refl _) (Below.refl _ _))
  have hrow : (wset w8 qb 0 [.int .i64 mm.k, .int .i64 mm.f, .int .i64 mm.to, .int .i64 mm.g, .int .i64 mm.n, .slice oe me ke, .slice oa ma ka, .slice ov mv kv, .slice oc mc kc, .slice pv nv lv, .slice pc nc lc, .int .i64 mm.ki, .string mm.mn, .string mm.mv, .slice os ms ks, .int .i64 mm.er]).ownsRow g 34 16 (.slice (some ⟨g, 0, none⟩) (n - 1) (n - 1)) (n - 1) ((cs.take k).flatten ++ (cs.drop (k + 1)).flatten) := by
    refine own_other HO8.out (fun q hq => wset_other [.int .i64 mm.k, .int .i64 mm.f, .int .i64 mm.to, .int .i64 mm.g, .int .i64 mm.n, .slice oe me ke, .slice oa ma ka, .slice ov mv kv, .slice oc mc kc, .slice pv nv lv, .slice pc nc lc, .int .i64 mm.ki, .string mm.mn, .string mm.mv, .slice os ms ks, .int .i64 mm.er] w8 qb 0 q (by have := HW.out; have := HG.out; omega))
  have hm9 := (HM8.out.kt kk (by decide) (by decide) (by decide) (by decide)).at
  have hr9 := HROW.out _ g g (n - 1) (by have := HG.out; omega) bb hrow
  rw [← h9] at c bb hm9 hr9
  simp only [wset, Nat.reduceAdd] at h9
  rw [← h9]
  clear h9
  have c20 := boxc c 0 (.int .i64 mm.k) rfl
  have c21 := boxc c 1 (.int .i64 mm.f) rfl
  have c22 := boxc c 2 (.int .i64 mm.to) rfl
  have c23 := boxc c 3 (.int .i64 mm.g) rfl
  have c24 := boxc c 4 (.int .i64 mm.n) rfl
  have c25 := boxc c 5 (.slice oe me ke) rfl
  have c26 := boxc c 6 (.slice oa ma ka) rfl
  have c27 := boxc c 7 (.slice ov mv kv) rfl
  have c28 := boxc c 8 (.slice oc mc kc) rfl
  have c29 := boxc c 9 (.slice pv nv lv) rfl
  have c30 := boxc c 10 (.slice pc nc lc) rfl
  have c31 := boxc c 11 (.int .i64 mm.ki) rfl
  have c32 := boxc c 12 (.string mm.mn) rfl
  have c33 := boxc c 13 (.string mm.mv) rfl
  have c34 := boxc c 14 (.slice os ms ks) rfl
  have c35 := boxc c 15 (.int .i64 mm.er) rfl
  refine bodyPost_ret (v := .tuple #[.slice (some ⟨g, 0, none⟩) (n - 1) (n - 1), .agg #[.int .i64 mm.k, .int .i64 mm.f, .int .i64 mm.to, .int .i64 mm.g, .int .i64 mm.n, .slice oe me ke, .slice oa ma ka, .slice ov mv kv, .slice oc mc kc, .slice pv nv lv, .slice pc nc lc, .int .i64 mm.ki, .string mm.mn, .string mm.mv, .slice os ms ks, .int .i64 mm.er], .int .i64 0]) (by simp [results, Try.results11, go_sem, c20, c21, c22, c23, c24, c25, c26, c27, c28, c29, c30, c31, c32, c33, c34, c35]) rfl ⟨bb, ?_⟩
  rw [← HN.out, ← HMM.out]
  refine ⟨_, _, [.int .i64 mm.k, .int .i64 mm.f, .int .i64 mm.to, .int .i64 mm.g, .int .i64 mm.n, .slice oe me ke, .slice oa ma ka, .slice ov mv kv, .slice oc mc kc, .slice pv nv lv, .slice pc nc lc, .int .i64 mm.ki, .string mm.mn, .string mm.mv, .slice os ms ks, .int .i64 mm.er], rfl, hr9.1, hr9.2, hm9⟩
theorem take_yes (L : List cd.Msg) (v : Value) (k : Nat) (w : World) (hL : RowsAt 16 msgRel w w.heap.size v L) (hk : k < L.length) (hl : L.length ≤ 600) (hf : ∀ x ∈ L, Fit x) :
    Calls Try.prog 11 #[v, .int .i64 (k : Int)] w (TakeP L k v w) := by
  obtain ⟨cs, h0, h1, hC⟩ := hL
  refine (take_cs cs L v k w h0 h1 hC hk hl hf).mono ?_
  rintro e w' ⟨hb, g, cap, c', he, hr, ho, hm⟩
  exact ⟨hb, Or.inr ⟨k, rfl, hk, _, _, _, c', he, rfl, hr, hm⟩⟩
end Go.Proofs.Ytpgccfgldjeomaa
