/- texts put together: NfRun. -/
import Derived.Test.YtmfgplbfojnkdaaNf05
open List (setIfInBounds_toArray set_cons_zero set_cons_succ take_succ_cons take_zero drop_succ_cons drop_zero)
namespace Go.Proofs.Ytmfgplbfojnkdaa.nf
open rx
def leavF (es : List Ed) (i : Nat) : List Ed := es.filter fun e => decide (e.fr = i)
def leav (es : List Ed) (sz : Nat) : List (List Ed) := (List.range sz).map (leavF es)
def nextR (c : Nat) (es : List Ed) : List Nat := (es.filter fun e => !e.fre && e.cl.has c).map Ed.to
def nextF (L : List (List Ed)) (c : Nat) (now : List Nat) : List Nat := now.flatMap fun s => nextR c (L.getD s [])
def runF (L : List (List Ed)) (fi : Nat) : List Nat → List Nat → Bool
 | [], now => decide (fi ∈ now)
 | c :: cs, now => runF L fi cs (spread L (nextF L c now))
def run (sz st fi : Nat) (es : List Ed) (s : List Nat) : Bool := runF (leav es sz) fi s (spread (leav es sz) [st])
theorem leavF_take {es : List Ed} {j : Nat} (h : j < es.length) (i : Nat) : leavF (es.take (j + 1)) i = if (es.getD j default).fr = i then leavF (es.take j) i ++ [es.getD j default] else leavF (es.take j) i := by
 unfold leavF
 rw [List.take_succ_eq_append_getElem h, List.filter_append, List.getD_eq_getElem?_getD, List.getElem?_eq_getElem h]
 by_cases hh : es[j].fr = i <;> simp [hh]
theorem leav_len (es : List Ed) (sz : Nat) : (leav es sz).length = sz := by simp [leav]
theorem leav_get {es : List Ed} {sz i : Nat} (h : i < sz) : (leav es sz).getD i [] = leavF es i := by simp [leav, List.getD, h]
theorem leav_to {es : List Ed} {sz : Nat} (h : ∀ e ∈ es, e.to < sz) : ∀ l ∈ leav es sz, ∀ e ∈ l, e.to < sz := fun l hl e he => by
 obtain ⟨i, _, rfl⟩ := List.mem_map.1 hl
 exact h e (List.mem_filter.1 he).1
theorem nextR_take {es : List Ed} {c j : Nat} (h : j < es.length) : nextR c (es.take (j + 1)) = if (!(es.getD j default).fre && (es.getD j default).cl.has c) = true then nextR c (es.take j) ++ [(es.getD j default).to] else nextR c (es.take j) := by
 unfold nextR
 rw [List.take_succ_eq_append_getElem h, List.filter_append, List.getD_eq_getElem?_getD, List.getElem?_eq_getElem h]
 by_cases hh : (!es[j].fre && es[j].cl.has c) = true <;> simp [hh]
theorem nextF_take {L : List (List Ed)} {c k : Nat} {now : List Nat} (h : k < now.length) : nextF L c (now.take (k + 1)) = nextF L c (now.take k) ++ nextR c (L.getD (now.getD k 0) []) := by
 have e : now.getD k 0 = now[k] := by simp [List.getD, h]
 unfold nextF
 rw [List.take_succ_eq_append_getElem h, List.flatMap_append, e]; simp
theorem nextR_len (c : Nat) (es : List Ed) : (nextR c es).length ≤ es.length := by unfold nextR; rw [List.length_map]; exact List.length_filter_le _ _
theorem nextR_to {c n : Nat} {es : List Ed} (h : ∀ e ∈ es, e.to < n) : ∀ x ∈ nextR c es, x < n := fun x hx => by
 obtain ⟨e, he, rfl⟩ := List.mem_map.1 hx
 exact h e (List.mem_filter.1 he).1
theorem nextF_to {L : List (List Ed)} {c n : Nat} (h : ∀ l ∈ L, ∀ e ∈ l, e.to < n) (now : List Nat) : ∀ x ∈ nextF L c now, x < n := fun x hx => by
 obtain ⟨s, _, hx⟩ := List.mem_flatMap.1 hx
 refine nextR_to (fun e he => ?_) x hx
 by_cases hs : s < L.length
 ·
  exact h _ (by rw [List.getD_eq_getElem?_getD, List.getElem?_eq_getElem hs]; exact List.getElem_mem _) e he
 ·
  rw [List.getD_eq_getElem?_getD, List.getElem?_eq_none (by omega)] at he; cases he
theorem nextF_len {L : List (List Ed)} {c M : Nat} (h : ∀ s, (L.getD s []).length ≤ M) : ∀ now : List Nat, (nextF L c now).length ≤ now.length * M := by
 intro now
 induction now with
 | nil => simp [nextF]
 | cons s now ih =>
  have e : nextF L c (s :: now) = nextR c (L.getD s []) ++ nextF L c now := rfl
  rw [e, List.length_append, List.length_cons, Nat.succ_mul]
  have := nextR_len c (L.getD s [])
  have := h s
  omega
end Go.Proofs.Ytmfgplbfojnkdaa.nf
namespace Go.Proofs.Ytmfgplbfojnkdaa
open Go Go.RowKit Go.ChangeShapes cl rx
theorem infoSl : (Try.prog.info? 30).map (fun i => (i.zero, i.size, i.bytes)) = some (some (.slice none 0 0), 1, 24) := by kernel_rfl
theorem made_lvr {gl n : Nat} {w : World} (h : w.ownsRow gl 30 1 (.slice (some ⟨gl, 0, none⟩) n n) n (madeCells #[Value.slice none 0 0] (n * 1)).toList) : LvR gl n (fun _ => []) (fun _ => .slice none 0 0) w := by
 refine ⟨?_, fun i _ => World.ownsRow_nil _ _ _ _, fun i j _ _ _ => Or.inl rfl⟩
 rcases h.2 with ⟨e, _⟩ | ⟨g, gc, cur, e, _, hg, _, _, hcs, htk⟩
 ·
  cases e
 ·
  simp only [Value.slice.injEq, Option.some.injEq, Addr.mk.injEq, and_true, true_and] at e
  obtain ⟨rfl, rfl⟩ := e
  rw [made_flat #[Value.slice none 0 0] 1 rfl (by decide) n] at htk
  have hcl : cur.toList.length = n * 1 := by rw [Array.length_toList, hcs]
  rw [List.take_of_length_le (by omega)] at htk
  rw [hg]
  have h2 : cur = ((List.range n).map fun _ => Value.slice none 0 0).toArray := by
   apply Array.ext'
   rw [htk]
   simp [List.flatten_replicate_singleton, List.map_const']
  rw [h2]
theorem contains_nats (now : List Nat) (fi : Nat) (ao : Option Addr) (c q B : Nat) (w : World) (hq : q = now.length) (h : Cells w B (.slice ao q c) q 1 (nats now)) (hq4 : q ≤ 400) : Calls Try.prog 28 #[.slice ao q c, .int .i64 (fi : Int)] w fun e w' => e = .returned (.bool (decide (fi ∈ now))) ∧ w' = w := by
 by_cases h0 : q = 0
 ·
  subst h0
  obtain rfl := List.eq_nil_of_length_eq_zero hq.symm
  refine (Try.slices_Contains_int_empty ao c fi w).mono ?_
  rintro e w' ⟨rfl, rfl⟩
  exact ⟨by simp, rfl⟩
 ·
  obtain ⟨b, off, rfl, _, _⟩ := nats_at h hq (j := 0) (by omega)
  have hz : (now.map fun x : Nat => (x : Int)).length = q := by rw [List.length_map, hq]
  refine (Try.slices_Contains_int b off q c (now.map fun x : Nat => (x : Int)) fi w (by rw [hz]; exact Nat.le_refl _) (by omega) (fun j hj => ?_)).mono ?_
  ·
   rw [hz] at hj
   obtain ⟨b', off', e, _, h1⟩ := nats_at h hq hj
   cases e
   rw [h1]
   have : j < now.length := by rw [← hq]; exact hj
   simp [List.getD, this]
  ·
   rintro e w' ⟨rfl, rfl⟩
   refine ⟨?_, rfl⟩
   rw [List.take_of_length_le (by rw [hz]; exact Nat.le_refl _)]
   congr 2
   rw [Bool.eq_iff_iff]
   simp
   exact ⟨fun ⟨a, ha, e⟩ => (show a = fi by omega) ▸ ha, fun h => ⟨fi, h, rfl⟩⟩
set_option maxHeartbeats 12800000 in
set_option maxRecDepth 100000 in
theorem nf_run (sz st fi : Nat) (es : List nf.Ed) (eo : Option Addr) (m ec : Nat) (S : ByteArray) (w : World) (h : nf.Rgt sz st fi es) (hm : m = es.length) (hc : Cells w w.heap.size (.slice eo m ec) m 7 (ecells es)) (hok : ∀ e ∈ es, e.cl.ok) (hS : S.size ≤ 10000) :
  Calls Try.prog 13 #[.agg #[.int .i64 (sz : Int), .int .i64 (st : Int), .int .i64 (fi : Int), .slice eo m ec], .string S] w fun e w' => e = .returned (.bool (nf.run sz st fi es (kit.bytes S))) ∧ Below w.heap.size w w' := by
 obtain ⟨P, hP⟩ : ∃ P, P = w.heap.size := ⟨_, rfl⟩
 obtain ⟨w1, hw1⟩ : ∃ W, W = w.alloc (.cells #[.int .i64 (sz : Int), .int .i64 (st : Int), .int .i64 (fi : Int), .slice eo m ec] 32) := ⟨_, rfl⟩
 have b1 : Below w.heap.size w w1 := by rw [hw1]; exact below1
 have x1 : w1.heap[P]? = some (.cells #[.int .i64 (sz : Int), .int .i64 (st : Int), .int .i64 (fi : Int), .slice eo m ec] 32 (0, 0)) := by rw [hw1, hP]; exact heap_alloc_new w _
 have HX : Hid (∀ W, Below w1.heap.size w1 W → W.heap[P]? = some (.cells #[.int .i64 (sz : Int), .int .i64 (st : Int), .int .i64 (fi : Int), .slice eo m ec] 32 (0, 0))) := fun W hW => (hW.block _ (lt_of_block x1)).trans x1
 have HC : Hid (∀ W, Below w.heap.size w W → Cells W w.heap.size (.slice eo m ec) m 7 (ecells es)) := fun W hW => hc.below hW
 have HRG := Lib.hid (nf_right sz st fi es eo m ec w1 h hm (hc.next b1))
 have hsz1 : 1 ≤ sz := h.one
 have hsz4 : sz ≤ 400 := h.top
 have hm16 : m ≤ 1600 := by rw [hm]; exact h.len
 obtain ⟨i0, hi, hz0, hz1, hz2⟩ := info_parts infoSl
 have HI := Lib.hid (And.intro hi (And.intro hz0 (And.intro hz1 hz2)))
 have HB1 := Lib.hid b1
 have HW1 := Lib.hid hw1
 have HP := Lib.hid hP
 have HM := Lib.hid hm
 have HH := Lib.hid h
 have HOK := Lib.hid hok
 have c0 := boxc x1 0 _ rfl
 have c1 := boxc x1 1 _ rfl
 have c2 := boxc x1 2 _ rfl
 have c3 := boxc x1 3 _ rfl
 rw [hw1, hP] at c0 c1 c2 c3
 clear h hm hc hok hP hw1 b1 x1 hi hz0 hz1 hz2
 go_enter Try.func13, Try.ntmps13
 go_wp2_with fail
 rw [← HW1.out, ← HP.out]
 (with_reducible refine HRG.out.mono ?_)
 rintro e w2 ⟨rfl, hb2⟩
 have x2 := HX.out _ hb2
 have d0 := boxc x2 0 _ rfl
 have HB2 := Lib.hid hb2
 clear c0 c1 c2 c3 x2 hb2
 go_wp2_with (at_make; refine wpList_make_full _ rfl _ _ 55 rfl w2.heap.size 30 i0 (.slice none 0 0) 1 Try.underlying55 HI.out.1 HI.out.2.1 HI.out.2.2.1 .i64 .i64 _ _ sz rfl rfl rfl rfl (by rw [HI.out.2.2.2]; omega) (by unfold maxLen; omega) (Nat.le_refl _) ?_)
 intro w3 hown3 hgrow3
 have hb3 : Below w2.heap.size w2 w3 := (Below.refl _ _).grown hgrow3 (Nat.le_refl _) (fun j hj => by cases hj)
 have HX3 := HX.out _ (HB2.out.trans (hb3.mono HB2.out.size))
 obtain ⟨gl, hgl⟩ : ∃ g, g = w2.heap.size := ⟨_, rfl⟩
 rw [← hgl] at hown3 ⊢
 have HLV := Lib.hid (made_lvr (by simpa [Value.cells] using hown3))
 have HGL := Lib.hid hgl
 have HBG : Hid (Below gl w2 w3) := by show Below _ _ _; rw [hgl]; exact hb3
 have HBA : Hid (∀ W, Below gl w2 W → Below w.heap.size w W ∧ W.heap[P]? = some (.cells #[.int .i64 (sz : Int), .int .i64 (st : Int), .int .i64 (fi : Int), .slice eo m ec] 32 (0, 0))) := fun W hW => by
  rw [hgl] at hW
  have h2 := HB2.out.trans (hW.mono HB2.out.size)
  exact ⟨HB1.out.trans (h2.mono HB1.out.size), HX.out _ h2⟩
 have d3 := boxc HX3 3 _ rfl
 clear hown3 hgrow3 hb3 hgl d0 HX3
 go_wp2
 go_loopw [24] (fun i wr => ∃ (j : Nat) (vs : Nat → Value), i = .int .i64 j ∧ j ≤ m ∧ Hid (LvR gl sz (nf.leavF (es.take j)) vs wr) ∧ Hid (Below gl w2 wr)) (fun i _ => m - (intOf i).toNat)
 case atStart => exact ⟨0, _, rfl, by omega, HLV.out, HBG.out⟩
 case round =>
  clear d3 HLV HBG
  obtain ⟨j, vs, rfl, hj, HLV, HB⟩ := hrel
  by_cases hjt : j < m
  ·
   have hjI : (j : Int) < (m : Int) := by omega
   obtain ⟨eb, eof, rfl, heb, t0, t1, t2, t3, t4, t5, t6⟩ := ec_get (HC.out _ (HBA.out _ HB.out).1) HM.out hjt
   have hjl : j < es.length := by rw [← HM.out]; exact hjt
   obtain ⟨e, he⟩ : ∃ e, e = es.getD j default := ⟨_, rfl⟩
   have hem : e ∈ es := by rw [he, List.getD_eq_getElem?_getD, List.getElem?_eq_getElem hjl]; exact List.getElem_mem _
   rw [← he] at t0 t1 t2 t3 t4 t5 t6
   have hfr : e.fr < sz := HH.out.fr e hem
   have hfrI : (e.fr : Int) < (sz : Int) := by omega
   have hfr0 : (0 : Int) ≤ (e.fr : Int) := by omega
   obtain ⟨rows, hrows⟩ : ∃ r, r = nf.leavF (es.take j) := ⟨_, rfl⟩
   rw [← hrows] at HLV
   have HRW : Hid (nf.leavF (es.take (j + 1)) = upd rows e.fr (rows e.fr ++ [e])) := by
    show _ = _
    funext i
    rw [nf.leavF_take hjl, ← he, hrows]
    by_cases hi : e.fr = i
    ·
     subst hi; rw [if_pos rfl, upd_same]
    ·
     rw [if_neg hi, upd_other _ _ (fun h => hi h.symm)]
   obtain ⟨k, hk⟩ : ∃ k, k = (rows e.fr).length := ⟨_, rfl⟩
   have hk16 : k ≤ 1600 := by
    rw [hk, hrows]
    exact Nat.le_trans (List.length_filter_le _ _) (Nat.le_trans (List.length_take_le _ _) (by omega))
   obtain ⟨vo, vc, hvs⟩ : ∃ vo vc, vs e.fr = .slice vo k vc := by
    rw [hk]
    rcases (HLV.out.own e.fr hfr).2 with ⟨h1, h2⟩ | ⟨g, c, cur, h1, _⟩
    ·
     exact ⟨none, 0, by rw [h1, h2]⟩
    ·
     exact ⟨_, _, h1⟩
   have HVS := Lib.hid hvs
   obtain ⟨Q, hQ⟩ : ∃ Q, Q = wr.heap.size := ⟨_, rfl⟩
   obtain ⟨w5, hw5⟩ : ∃ W, W = wr.alloc (.cells #[.int .i64 e.fr, .int .i64 e.to, .bool e.fre, .int .u64 e.cl.a, .int .u64 e.cl.b, .int .u64 e.cl.c, .int .u64 e.cl.d] 42) := ⟨_, rfl⟩
   have b5 : Below wr.heap.size wr w5 := by rw [hw5]; exact below1
   have x5 : w5.heap[Q]? = some (.cells #[.int .i64 e.fr, .int .i64 e.to, .bool e.fre, .int .u64 e.cl.a, .int .u64 e.cl.b, .int .u64 e.cl.c, .int .u64 e.cl.d] 42) := by rw [hw5, hQ]; exact heap_alloc_new wr _
   have HLV5 := Lib.hid (HLV.out.next b5)
   have HGZ : Hid (gl + 1 ≤ w5.heap.size) := lt_of_block HLV5.out.box
   have HO5 : Hid (w5.ownsRow (gl + 1) 42 7 (.slice vo k vc) k (ecells (rows e.fr))) := by
    have := HLV5.out.own e.fr hfr
    rw [hvs, ← hk] at this
    exact this
   have hlo : ∀ i, (Value.slice vo k vc).ownBlock = some i → gl + 1 ≤ i ∧ i < Q := fun i hi => by
    have h1 := HLV.out.own e.fr hfr
    rw [hvs] at h1
    have := h1.lt i hi
    rw [hQ]; exact this
   have HQC : Hid (∀ W, w5.grownBy W (Value.ownBlock (.slice vo k vc)) → W.cell? ⟨Q, 0, none⟩ = some (.int .i64 e.fr) ∧ W.cell? ⟨Q, 1, none⟩ = some (.int .i64 e.to) ∧ W.cell? ⟨Q, 2, none⟩ = some (.bool e.fre) ∧ W.cell? ⟨Q, 3, none⟩ = some (.int .u64 e.cl.a) ∧ W.cell? ⟨Q, 4, none⟩ = some (.int .u64 e.cl.b) ∧ W.cell? ⟨Q, 5, none⟩ = some (.int .u64 e.cl.c) ∧ W.cell? ⟨Q, 6, none⟩ = some (.int .u64 e.cl.d)) := fun W hW => by
    have := (hW.block Q (lt_of_block x5) (fun h => by have := (hlo Q h.symm).2; omega)).trans x5
    exact ⟨boxc this 0 _ rfl, boxc this 1 _ rfl, boxc this 2 _ rfl, boxc this 3 _ rfl, boxc this 4 _ rfl, boxc this 5 _ rfl, boxc this 6 _ rfl⟩
   have HGB : Hid (∀ W, w5.grownBy W (Value.ownBlock (.slice vo k vc)) → W.heap[gl]? = some (.cells ((List.range sz).map vs).toArray 30 (0, 0))) := fun W hW =>
    (hW.block gl (lt_of_block HLV5.out.box) (fun h => by have := (hlo gl h.symm).1; omega)).trans HLV5.out.box
   have HGC : Hid (∀ W, w5.grownBy W (Value.ownBlock (.slice vo k vc)) → W.cell? ⟨gl, e.fr, none⟩ = some (.slice vo k vc)) := fun W hW => by
    rw [← HVS.out]; exact boxc (HGB.out W hW) e.fr _ (by simp [hfr])
   have hgs : gl ≤ wr.heap.size := Nat.le_of_lt (lt_of_block HLV.out.box)
   have HB5 := Lib.hid (HB.out.trans (b5.mono hgs))
   have HLO := Lib.hid hlo
   have HK := Lib.hid hk
   have HW5 := Lib.hid hw5
   have HQ := Lib.hid hQ
   clear he hem hrows hk hvs hw5 b5 x5 hlo hQ
   go_wp2_with fail
   rw [← HW5.out, ← HQ.out]
   refine wp_flowG 12 (fun kF => match kF with | 9 => 10 | _ => 1000) (fun ww => w5.grownBy ww (Value.ownBlock (.slice vo k vc))) (fun i w w' => if i = 10 then (fun (w w' : World) => w.grownBy w' (Value.ownBlock (.slice vo k vc))) w w' else (fun (w w' : World) => RowKit.Below w.heap.size w w') w w') (fun sF wF => match sF with | 10 => (wF.ownsRow (gl + 1) 42 7 (.slice vo k vc) k (ecells (rows e.fr))) | _ => True) (fun kF vF wF => match kF with | 0 => (vF = .slice (some ⟨gl, 0, none⟩) sz sz) | 1 => (vF = .pointer (some ⟨Q, 0, none⟩)) | 2 => (vF = .int .i64 e.fr) | 3 => (vF = .slice (some ⟨gl, 0, none⟩) sz sz) | 4 => (vF = .pointer (some ⟨Q, 0, none⟩)) | 5 => (vF = .int .i64 e.fr) | 6 => (vF = .pointer (some ⟨gl, e.fr, none⟩)) | 7 => (vF = .slice vo k vc) | 8 => (vF = .agg #[.int .i64 e.fr, .int .i64 e.to, .bool e.fre, .int .u64 e.cl.a, .int .u64 e.cl.b, .int .u64 e.cl.c, .int .u64 e.cl.d]) | 9 => (∃ g, vF = .slice (some ⟨g, 0, none⟩) 1 1 ∧ wF.heap[g]? = some (.cells #[.int .i64 e.fr, .int .i64 e.to, .bool e.fre, .int .u64 e.cl.a, .int .u64 e.cl.b, .int .u64 e.cl.c, .int .u64 e.cl.d] 42 (0, 0))) | 10 => (∃ ao2 c2, vF = .slice ao2 (k + 1) c2 ∧ wF.ownsRow (gl + 1) 42 7 (.slice ao2 (k + 1) c2) (k + 1) (ecells (rows e.fr) ++ ecell e) ∧ ((Value.slice ao2 (k + 1) c2).ownBlock = (Value.slice vo k vc).ownBlock ∨ ∃ b, (Value.slice ao2 (k + 1) c2).ownBlock = some b ∧ w5.heap.size ≤ b)) | 11 => (vF = .pointer (some ⟨gl, e.fr, none⟩)) | _ => True) (fun _ _ _ _ => True) (by kernel_rfl) (by kernel_rfl) ?_ ?_ ?_ ?_ ?_ ?_ ?_
   ·
    exact grown_below' ((Below.refl _ _).drew)
   ·
    intro sF hsF
    rcases (by omega : sF = 0 ∨ sF = 1 ∨ sF = 2 ∨ sF = 3 ∨ sF = 4 ∨ sF = 5 ∨ sF = 6 ∨ sF = 7 ∨ sF = 8 ∨ sF = 9 ∨ sF = 10 ∨ sF = 11) with rfl | rfl | rfl | rfl | rfl | rfl | rfl | rfl | rfl | rfl | rfl | rfl
    iterate 10 exact trivial
    ·
     exact own_stay HO5.out ((Below.refl _ _).drew)
    ·
     exact trivial
   ·
    intro iF wF1 wF2 hR hT
    have hT : (fun i w w' => if i = 10 then (fun (w w' : World) => w.grownBy w' (Value.ownBlock (.slice vo k vc))) w w' else (fun (w w' : World) => RowKit.Below w.heap.size w w') w w') iF wF1 wF2 := hT
    simp only at hT
    by_cases hi10 : iF = 10
    ·
     rw [if_pos hi10] at hT; exact grown_trans hR hT
    rw [if_neg hi10] at hT
    exact grown_trans hR (grown_below' hT)
   ·
    intro sF hsF iF hiF hne hanc wF1 wF2 hRF hgF hT
    rcases (by omega : sF = 0 ∨ sF = 1 ∨ sF = 2 ∨ sF = 3 ∨ sF = 4 ∨ sF = 5 ∨ sF = 6 ∨ sF = 7 ∨ sF = 8 ∨ sF = 9 ∨ sF = 10 ∨ sF = 11) with rfl | rfl | rfl | rfl | rfl | rfl | rfl | rfl | rfl | rfl | rfl | rfl
    iterate 10 exact trivial
    ·
     have hg : (wF1.ownsRow (gl + 1) 42 7 (.slice vo k vc) k (ecells (rows e.fr))) := hgF
     show (wF2.ownsRow (gl + 1) 42 7 (.slice vo k vc) k (ecells (rows e.fr)))
     have hT : (fun i w w' => if i = 10 then (fun (w w' : World) => w.grownBy w' (Value.ownBlock (.slice vo k vc))) w w' else (fun (w w' : World) => RowKit.Below w.heap.size w w') w w') iF wF1 wF2 := hT
     simp only at hT
     by_cases hi10 : iF = 10
     ·
      exact absurd hi10.symm hne
     rw [if_neg hi10] at hT
     exact own_stay hg hT
    ·
     exact trivial
   ·
    intro kF hkF iF hiF hne hdd hanc hdan vF wF1 wF2 h hT
    rcases (by omega : kF = 0 ∨ kF = 1 ∨ kF = 2 ∨ kF = 3 ∨ kF = 4 ∨ kF = 5 ∨ kF = 6 ∨ kF = 7 ∨ kF = 8 ∨ kF = 9 ∨ kF = 10 ∨ kF = 11) with rfl | rfl | rfl | rfl | rfl | rfl | rfl | rfl | rfl | rfl | rfl | rfl
    iterate 9 exact h
    ·
     have h : (∃ g, vF = .slice (some ⟨g, 0, none⟩) 1 1 ∧ wF1.heap[g]? = some (.cells #[.int .i64 e.fr, .int .i64 e.to, .bool e.fre, .int .u64 e.cl.a, .int .u64 e.cl.b, .int .u64 e.cl.c, .int .u64 e.cl.d] 42 (0, 0))) := h
     show (∃ g, vF = .slice (some ⟨g, 0, none⟩) 1 1 ∧ wF2.heap[g]? = some (.cells #[.int .i64 e.fr, .int .i64 e.to, .bool e.fre, .int .u64 e.cl.a, .int .u64 e.cl.b, .int .u64 e.cl.c, .int .u64 e.cl.d] 42 (0, 0)))
     have hT : (fun i w w' => if i = 10 then (fun (w w' : World) => w.grownBy w' (Value.ownBlock (.slice vo k vc))) w w' else (fun (w w' : World) => RowKit.Below w.heap.size w w') w w') iF wF1 wF2 := hT
     simp only at hT
     by_cases hi10 : iF = 10
     ·
      exact absurd hi10.symm hdd
     rw [if_neg hi10] at hT
     obtain ⟨g, e, h1⟩ := h
     exact ⟨g, e, (hT.block _ (lt_of_block h1)).trans h1⟩
    ·
     have h : (∃ ao2 c2, vF = .slice ao2 (k + 1) c2 ∧ wF1.ownsRow (gl + 1) 42 7 (.slice ao2 (k + 1) c2) (k + 1) (ecells (rows e.fr) ++ ecell e) ∧ ((Value.slice ao2 (k + 1) c2).ownBlock = (Value.slice vo k vc).ownBlock ∨ ∃ b, (Value.slice ao2 (k + 1) c2).ownBlock = some b ∧ w5.heap.size ≤ b)) := h
     show (∃ ao2 c2, vF = .slice ao2 (k + 1) c2 ∧ wF2.ownsRow (gl + 1) 42 7 (.slice ao2 (k + 1) c2) (k + 1) (ecells (rows e.fr) ++ ecell e) ∧ ((Value.slice ao2 (k + 1) c2).ownBlock = (Value.slice vo k vc).ownBlock ∨ ∃ b, (Value.slice ao2 (k + 1) c2).ownBlock = some b ∧ w5.heap.size ≤ b))
     have hT : (fun i w w' => if i = 10 then (fun (w w' : World) => w.grownBy w' (Value.ownBlock (.slice vo k vc))) w w' else (fun (w w' : World) => RowKit.Below w.heap.size w w') w w') iF wF1 wF2 := hT
     simp only at hT
     by_cases hi10 : iF = 10
     ·
      exact absurd hi10.symm hne
     rw [if_neg hi10] at hT
     obtain ⟨ao2, c2, e, ho, hb⟩ := h
     exact ⟨ao2, c2, e, own_stay ho hT, hb⟩
    ·
     exact h
   ·
    generalize hAF : fillOf _ _ _ = AF
    replace hAF := fun x => congrFun hAF x
    simp only [take_succ_cons, take_zero, fillOf, Act.put, setIfInBounds_toArray, set_cons_zero, set_cons_succ, Nat.reduceAdd, Nat.zero_add] at hAF
    refine .cons ?_ (.cons ?_ (.cons ?_ (.cons ?_ (.cons ?_ (.cons ?_ (.cons ?_ (.cons ?_ (.cons ?_ (.cons ?_ (.cons ?_ (.cons ?_ (.nil))))))))))))
    all_goals
     intro xF w7 hR hg hd K hK
     first | simp only [← hAF, Act.put, setIfInBounds_toArray, set_cons_zero, set_cons_succ] at hK ⊢ | simp only [← hAF, Act.put] at hK ⊢
     clear hAF
     try simp only [Nat.zero_add, Nat.reduceAdd] at hK ⊢
    ·
     clear hg hd
     obtain hbR := id hR
     rw [if_pos (by rfl)]
     go_simp
     exact hK.out _ _ (Below.refl _ _) (rfl) (fun _ _ _ => ⟨trivial, trivial⟩)
    ·
     clear hg hd
     obtain hbR := id hR
     rw [if_pos (by rfl)]
     go_simp
     exact hK.out _ _ (Below.refl _ _) (rfl) (fun _ _ _ => ⟨trivial, trivial⟩)
    ·
     clear hg
     have dd1 := hd 1 (by kernel_rfl)
     clear hd
     try generalize xF 1 = yy1 at *
     obtain rfl := dd1
     obtain hbR := id hR
     obtain ⟨q0, q1, q2, q3, q4, q5, q6⟩ := HQC.out _ hR
     rw [if_pos (by rfl)]
     go_simp
     exact hK.out _ _ (Below.refl _ _) (rfl) (fun _ _ _ => ⟨trivial, trivial⟩)
    ·
     clear hg hd
     obtain hbR := id hR
     rw [if_pos (by rfl)]
     go_simp
     exact hK.out _ _ (Below.refl _ _) (rfl) (fun _ _ _ => ⟨trivial, trivial⟩)
    ·
     clear hg hd
     obtain hbR := id hR
     rw [if_pos (by rfl)]
     go_simp
     exact hK.out _ _ (Below.refl _ _) (rfl) (fun _ _ _ => ⟨trivial, trivial⟩)
    ·
     clear hg
     have dd4 := hd 4 (by kernel_rfl)
     clear hd
     try generalize xF 4 = yy4 at *
     obtain rfl := dd4
     obtain hbR := id hR
     obtain ⟨q0, q1, q2, q3, q4, q5, q6⟩ := HQC.out _ hR
     rw [if_pos (by rfl)]
     go_simp
     exact hK.out _ _ (Below.refl _ _) (rfl) (fun _ _ _ => ⟨trivial, trivial⟩)
    ·
     clear hg
     have dd3 := hd 3 (by kernel_rfl)
     have dd5 := hd 5 (by kernel_rfl)
     clear hd
     try generalize xF 3 = yy3 at *
     try generalize xF 5 = yy5 at *
     obtain rfl := dd3
     obtain rfl := dd5
     obtain hbR := id hR
     rw [if_pos (by rfl)]
     go_simp
     exact hK.out _ _ (Below.refl _ _) (rfl) (fun _ _ _ => ⟨trivial, trivial⟩)
    ·
     clear hg
     have dd6 := hd 6 (by kernel_rfl)
     clear hd
     try generalize xF 6 = yy6 at *
     obtain rfl := dd6
     obtain hbR := id hR
     have v0 := HGC.out _ hR
     rw [if_pos (by rfl)]
     go_simp
     exact hK.out _ _ (Below.refl _ _) (rfl) (fun _ _ _ => ⟨trivial, trivial⟩)
    ·
     clear hg hd
     obtain hbR := id hR
     obtain ⟨q0, q1, q2, q3, q4, q5, q6⟩ := HQC.out _ hR
     rw [if_pos (by rfl)]
     go_simp
     exact hK.out _ _ (Below.refl _ _) (rfl) (fun _ _ _ => ⟨trivial, trivial⟩)
    ·
     clear hg
     have dd8 := hd 8 (by kernel_rfl)
     clear hd
     try generalize xF 8 = yy8 at *
     obtain rfl := dd8
     obtain hbR := id hR
     rw [if_pos (by rfl)]
     go_simp
     exact hK.out _ _ (below1) (⟨_, rfl, heap_alloc_new _ _⟩) (fun _ _ _ => ⟨trivial, trivial⟩)
    ·
     have gg10 : (w7.ownsRow (gl + 1) 42 7 (.slice vo k vc) k (ecells (rows e.fr))) := hg 10 (by omega) (by decide)
     clear hg
     have dd7 := hd 7 (by kernel_rfl)
     have dd9 := hd 9 (by kernel_rfl)
     clear hd
     try generalize xF 7 = yy7 at *
     try generalize xF 9 = yy9 at *
     obtain rfl := dd7
     obtain ⟨g9, rfl, hg9⟩ := dd9
     obtain hbR := id hR
     rw [if_pos (by rfl)]
     refine appB (.tmp 35) (.tmp 37) 30 rfl (gl + 1) Try.underlying30 infoEdge rfl (by decide) (by decide) gg10 rfl (news := ecell e) rfl rfl (fun j u hu => by rw [Addr.add_lit, Nat.zero_add]; exact boxc hg9 j u (by simpa [ecell, ← Array.getElem?_toList] using hu)) (by intro u hu; simp [ecell] at hu; rcases hu with rfl | rfl | rfl | rfl | rfl | rfl | rfl <;> rfl) (by omega) (by have := HGZ.out; have := hR.size; omega) ?_
     intro vN wN hownN hgN hbN
     obtain ⟨aoN, cpN, rfl⟩ : ∃ aoN cpN, vN = .slice aoN (k + 1) cpN := by
      rcases hownN.2 with ⟨_, h0⟩ | ⟨g, c, cur, rfl, _⟩
      ·
       cases h0
      ·
       exact ⟨_, _, rfl⟩
     simp only [Act.put, setIfInBounds_toArray, set_cons_zero, set_cons_succ]
     exact hK.out _ _ (hgN) (⟨aoN, cpN, rfl, hownN, hbN.elim Or.inl (fun h => Or.inr ⟨_, h, hR.size⟩)⟩) (fun _ _ _ => ⟨trivial, trivial⟩)
    ·
     clear hg
     have dd0 := hd 0 (by kernel_rfl)
     have dd2 := hd 2 (by kernel_rfl)
     clear hd
     try generalize xF 0 = yy0 at *
     try generalize xF 2 = yy2 at *
     obtain rfl := dd0
     obtain rfl := dd2
     obtain hbR := id hR
     rw [if_pos (by rfl)]
     go_simp
     exact hK.out _ _ (Below.refl _ _) (rfl) (fun _ _ _ => ⟨trivial, trivial⟩)
   intro xF w7 hR hF hP
   clear hP
   have dd0 := hF 0 (by omega) (by decide)
   have dd1 := hF 1 (by omega) (by decide)
   have dd2 := hF 2 (by omega) (by decide)
   have dd3 := hF 3 (by omega) (by decide)
   have dd4 := hF 4 (by omega) (by decide)
   have dd5 := hF 5 (by omega) (by decide)
   have dd6 := hF 6 (by omega) (by decide)
   have dd7 := hF 7 (by omega) (by decide)
   have dd8 := hF 8 (by omega) (by decide)
   have dd10 := hF 10 (by omega) (by decide)
   have dd11 := hF 11 (by omega) (by decide)
   clear hF
   simp only [take_succ_cons, take_zero, drop_succ_cons, drop_zero, fillOf, Act.put, setIfInBounds_toArray, set_cons_zero, set_cons_succ, Nat.reduceAdd, Nat.zero_add]
   try generalize xF 0 = yy0 at *
   try generalize xF 1 = yy1 at *
   try generalize xF 2 = yy2 at *
   try generalize xF 3 = yy3 at *
   try generalize xF 4 = yy4 at *
   try generalize xF 5 = yy5 at *
   try generalize xF 6 = yy6 at *
   try generalize xF 7 = yy7 at *
   try generalize xF 8 = yy8 at *
   try generalize xF 9 = yy9 at *
   try generalize xF 10 = yy10 at *
   try generalize xF 11 = yy11 at *
   clear xF
   obtain rfl := dd0
   obtain rfl := dd1
   obtain rfl := dd2
   obtain rfl := dd3
   obtain rfl := dd4
   obtain rfl := dd5
   obtain rfl := dd6
   obtain rfl := dd7
   obtain rfl := dd8
   obtain ⟨ao2, c2, rfl, ho10, hbk10⟩ := dd10
   obtain rfl := dd11
   have hRE := Lib.hid hR
   clear hR
   have g0 := boxc (HGB.out _ hRE.out) e.fr _ (show _ = some (vs e.fr) by simp [hfr])
   have f0 := boxf (HGB.out _ hRE.out) e.fr
   rw [HVS.out] at g0
   have HL8 : Hid (LvR gl sz (nf.leavF (es.take (j + 1))) (upd vs e.fr (.slice ao2 (k + 1) c2)) (w7.setCell ⟨gl, e.fr, none⟩ (.slice ao2 (k + 1) c2))) := by
    show LvR _ _ _ _ _
    rw [HRW.out]
    refine HLV5.out.put hfr (by rw [HVS.out]; exact hRE.out) (by rw [← HK.out]; exact ho10) (by rw [HVS.out]; exact hbk10)
   have HB8 : Hid (Below gl w2 (w7.setCell ⟨gl, e.fr, none⟩ (.slice ao2 (k + 1) c2))) := (HB5.out.grown hRE.out (by have := HGZ.out; omega) (fun i hi => by have := (HLO.out i hi).1; omega)).trans below_set
   clear ho10 hbk10
   go_wp2
   go_roundw
   case rel => exact ⟨j + 1, _, by go_num, by omega, HL8, HB8⟩
   case measure => simp [intOf]; omega
  ·
   have hjn : m = j := by omega
   subst hjn
   obtain ⟨L, hL⟩ : ∃ L, L = nf.leav es sz := ⟨_, rfl⟩
   obtain ⟨T, hT⟩ : ∃ T, T = nf.run sz st fi es (kit.bytes S) := ⟨_, rfl⟩
   have HT := Lib.hid hT
   have hLlen : L.length = sz := by rw [hL]; exact nf.leav_len es sz
   have HLG : Hid (∀ s, s < sz → L.getD s [] = nf.leavF es s) := fun s hs => by rw [hL]; exact nf.leav_get hs
   have HLT : Hid (∀ l ∈ L, ∀ e ∈ l, e.to < sz) := by show ∀ l ∈ L, _; rw [hL]; exact nf.leav_to HH.out.to
   obtain ⟨w6, hw6⟩ : ∃ W, W = wr.alloc (.cells #[.int .i64 (st : Int)] 3) := ⟨_, rfl⟩
   have b6 : Below wr.heap.size wr w6 := by rw [hw6]; exact below1
   have hgs : gl ≤ wr.heap.size := Nat.le_of_lt (lt_of_block HLV.out.box)
   have HLE : Hid (LvR gl sz (nf.leavF es) vs w6) := by
    have := HLV.out.next b6
    rwa [List.take_of_length_le (by rw [← HM.out]; exact Nat.le_refl _)] at this
   have HLW : Hid (∀ W, Below w6.heap.size w6 W → LvR gl sz (nf.leavF es) vs W) := fun W hW => HLE.out.next hW
   have HLL : Hid (∀ W, Below w6.heap.size w6 W → Lvg W W.heap.size (.slice (some ⟨gl, 0, none⟩) sz sz) L) := fun W hW => by
    rw [hL]; exact (HLW.out W hW).lvg (by unfold maxLen; omega)
   have HB6 : Hid (∀ W, Below w6.heap.size w6 W → Below gl w2 W) := fun W hW => (HB.out.trans (b6.mono hgs)).trans (hW.mono (Nat.le_trans hgs b6.size))
   have HCS : Hid (Cells w6 w6.heap.size (.slice (some ⟨wr.heap.size, 0, none⟩) 1 1) 1 1 (nats [st])) := by
    show Cells _ _ _ _ _ _
    rw [hw6]
    exact cells_lit wr 1 1 (nats [st]) #[.int .i64 (st : Int)] 3 rfl rfl (by unfold maxLen; decide)
   have HS1 := Lib.hid (nf_spread L [st] _ _ w6 (HLL.out w6 (Below.refl _ _)) HCS.out (by omega) (fun x hx => by rw [List.mem_singleton.1 hx, hLlen]; exact HH.out.st) (by rw [hLlen]; exact HLT.out))
   have HT0 : Hid (nf.runF L fi ((kit.bytes S).drop 0) (nf.spread L [st]) = T) := by show _ = _; rw [hT, hL]; rfl
   have HOK0 : Hid (nf.Ok sz (nf.spread L [st])) := nf.ok_spread HLT.out (fun x hx => by rw [List.mem_singleton.1 hx]; exact HH.out.st)
   have dP := (HBA.out _ HB.out).2
   have d1 := boxc dP 1 _ rfl
   have HW6 := Lib.hid hw6
   have HL0 := Lib.hid hLlen
   clear hL hT hw6 b6 hgs dP hLlen hjt
   go_wp2_with fail
   rw [← HW6.out]
   (with_reducible refine HS1.out.mono ?_)
   rintro en w7 ⟨ao7, c7, rfl, hown7, hb7⟩
   have HC7 := Lib.hid (Cells.own hown7)
   have HB7 := Lib.hid hb7
   obtain ⟨R0, hR0⟩ : ∃ R, R = nf.spread L [st] := ⟨_, rfl⟩
   rw [← hR0] at HT0 HOK0 HC7 ⊢
   clear hown7 hb7 hR0 HS1 HCS d1
   go_wp2
   go_loopw [8, 48] (fun nw i wx => ∃ (j q : Nat) (now : List Nat) (ao : Option Addr) (c : Nat), nw = .slice ao q c ∧ i = .int .i64 j ∧ j ≤ S.size ∧ Hid (q = now.length) ∧ Hid (nf.Ok sz now) ∧ Hid (Cells wx wx.heap.size (.slice ao q c) q 1 (nats now)) ∧ Hid (nf.runF L fi ((kit.bytes S).drop j) now = T) ∧ Hid (Below w6.heap.size w6 wx)) (fun _ i _ => S.size - (intOf i).toNat)
   case atStart => exact ⟨0, _, R0, ao7, c7, rfl, rfl, by omega, rfl, HOK0.out, HC7.out, HT0.out, HB7.out⟩
   case round =>
    rename World => wx
    clear HB HC7 HT0 HOK0
    obtain ⟨j, q, now, ao, c, rfl, rfl, hj, HQN, HON, HCN, HTN, HBX⟩ := hrel
    have hq4 : q ≤ 400 := by rw [HQN.out]; exact Nat.le_trans (nf.ok_len HON.out) hsz4
    by_cases hjS : j < S.size
    ·
     have hjI : (j : Int) < (S.size : Int) := by omega
     have hj0 : (0 : Int) ≤ (j : Int) := by omega
     obtain ⟨b, hb⟩ : ∃ b, b = (S[j]'hjS).toNat := ⟨_, rfl⟩
     have hb256 : b < 256 := by rw [hb]; exact UInt8.toNat_lt _
     have HBY : Hid (b = (S[j]'hjS).toNat) := hb
     have HDR : Hid ((kit.bytes S).drop j = b :: (kit.bytes S).drop (j + 1)) := by
      show _ = _
      have hl : j < (kit.bytes S).length := by rw [kit.bytes_len]; exact hjS
      have h2 := byte_at hjS
      rw [List.getElem?_eq_getElem hl] at h2
      rw [List.drop_eq_getElem_cons hl, Option.some.inj h2, hb]
     clear hb
     go_wp2
     go_loopw [10, 53] (fun nx i wy => ∃ (k q2 : Nat) (ao2 : Option Addr) (c2 : Nat), nx = .slice ao2 q2 c2 ∧ i = .int .i64 k ∧ k ≤ q ∧ Hid (q2 = (nf.nextF L b (now.take k)).length) ∧ Hid (wy.ownsRow wx.heap.size 3 1 (.slice ao2 q2 c2) q2 (nats (nf.nextF L b (now.take k)))) ∧ Hid (Below wx.heap.size wx wy)) (fun _ i _ => q - (intOf i).toNat)
     case atStart => exact ⟨0, 0, none, 0, rfl, rfl, by omega, rfl, World.ownsRow_nil _ _ _ _, Below.refl _ _⟩
     case round =>
      rename World => wy
      obtain ⟨k, q2, ao2, c2, rfl, rfl, hk, HQ2, HO2, HBY2⟩ := hrel
      have HBX2 := Lib.hid (HBX.out.trans (HBY2.out.mono HBX.out.size))
      by_cases hkq : k < q
      ·
       have hkI : (k : Int) < (q : Int) := by omega
       obtain ⟨nb, no, rfl, _, n0⟩ := nats_at (HCN.out.next HBY2.out) HQN.out hkq
       have hkl : k < now.length := by rw [← HQN.out]; exact hkq
       obtain ⟨s, hs⟩ : ∃ s, s = now.getD k 0 := ⟨_, rfl⟩
       rw [← hs] at n0
       have hsn : s < sz := by rw [hs]; exact HON.out.2 _ (by rw [List.getD_eq_getElem?_getD, List.getElem?_eq_getElem hkl]; exact List.getElem_mem _)
       have hsI : (s : Int) < (sz : Int) := by omega
       have hs0 : (0 : Int) ≤ (s : Int) := by omega
       have v0 := (HLW.out _ HBX2.out).cell hsn
       obtain ⟨es', hes'⟩ : ∃ l, l = nf.leavF es s := ⟨_, rfl⟩
       obtain ⟨r, hr⟩ : ∃ r, r = es'.length := ⟨_, rfl⟩
       obtain ⟨vo, vc, hvs⟩ : ∃ vo vc, vs s = .slice vo r vc := by
        rw [hr, hes']
        rcases (HLE.out.own s hsn).2 with ⟨h1, h2⟩ | ⟨g, c, cur, h1, _⟩
        ·
         exact ⟨none, 0, by rw [h1, h2]⟩
        ·
         exact ⟨_, _, h1⟩
       rw [hvs] at v0
       have HVC : Hid (∀ W, Below w6.heap.size w6 W → Cells W W.heap.size (.slice vo r vc) r 7 (ecells es')) := fun W hW => by
        have := Cells.own ((HLW.out W hW).own s hsn)
        rw [hvs, ← hes', ← hr] at this
        exact this
       have hr16 : r ≤ 1600 := by rw [hr, hes']; exact Nat.le_trans (List.length_filter_le _ _) (by rw [← HM.out]; exact hm16)
       have HES : Hid (∀ e ∈ es', e ∈ es) := fun e he => by rw [hes'] at he; exact (List.mem_filter.1 he).1
       have HNX : Hid (nf.nextF L b (now.take (k + 1)) = nf.nextF L b (now.take k) ++ nf.nextR b es') := by show _ = _; rw [nf.nextF_take hkl, ← hs, HLG.out s hsn, ← hes']
       have HR := Lib.hid hr
       have hq2 : q2 ≤ 640000 := by
        have h1 := nf.nextF_len (L := L) (c := b) (M := 1600) (fun s' => by
         by_cases h : s' < sz
         ·
          rw [HLG.out s' h]; exact Nat.le_trans (List.length_filter_le _ _) (by rw [← HM.out]; exact hm16)
         ·
          rw [List.getD_eq_getElem?_getD, List.getElem?_eq_none (by rw [HL0.out]; omega)]; exact Nat.zero_le _) (now.take k)
        have h2 : (now.take k).length ≤ 400 := Nat.le_trans (List.length_take_le _ _) (by omega)
        have h3 : (now.take k).length * 1600 ≤ 400 * 1600 := Nat.mul_le_mul_right _ h2
        have := HQ2.out
        omega
       obtain ⟨N0, hN0⟩ : ∃ N, N = nf.nextF L b (now.take k) := ⟨_, rfl⟩
       rw [← hN0] at HQ2 HO2 HNX
       clear hs hkl hes' hvs hr hN0
       go_wp2
       go_loopw [10, 62] (fun nx i wz => ∃ (t q3 : Nat) (ao3 : Option Addr) (c3 : Nat), nx = .slice ao3 q3 c3 ∧ i = .int .i64 t ∧ t ≤ r ∧ q3 ≤ q2 + t ∧ Hid (q3 = (N0 ++ nf.nextR b (es'.take t)).length) ∧ Hid (wz.ownsRow wx.heap.size 3 1 (.slice ao3 q3 c3) q3 (nats (N0 ++ nf.nextR b (es'.take t)))) ∧ Hid (Below wx.heap.size wx wz)) (fun _ i _ => r - (intOf i).toNat)
       case atStart => exact ⟨0, q2, ao2, c2, rfl, rfl, by omega, by omega, by show _ = _; rw [HQ2.out]; simp [nf.nextR], by show World.ownsRow _ _ _ _ _ _ _; simpa [nf.nextR] using HO2.out, HBY2.out⟩
       case round =>
        rename World => wz
        obtain ⟨t, q3, ao3, c3, rfl, rfl, ht, hq3, HQ3, HO3, HBZ⟩ := hrel
        have HBX3 := Lib.hid (HBX.out.trans (HBZ.out.mono HBX.out.size))
        by_cases htr : t < r
        ·
         have htI : (t : Int) < (r : Int) := by omega
         obtain ⟨eb, eof, rfl, heb, t0, t1, t2, t3, t4, t5, t6⟩ := ec_get (HVC.out _ HBX3.out) HR.out htr
         have htl : t < es'.length := by rw [← HR.out]; exact htr
         obtain ⟨e, he⟩ : ∃ e, e = es'.getD t default := ⟨_, rfl⟩
         have hem : e ∈ es' := by rw [he, List.getD_eq_getElem?_getD, List.getElem?_eq_getElem htl]; exact List.getElem_mem _
         have HNR := Lib.hid (nf.nextR_take (c := b) htl)
         rw [← he] at t0 t1 t2 t3 t4 t5 t6 HNR
         have HIN : Hid (∀ W, Calls Try.prog 27 #[.agg #[.int .u64 e.cl.a, .int .u64 e.cl.b, .int .u64 e.cl.c, .int .u64 e.cl.d], .int .u8 (b : Int)] W fun e' w' => e' = .returned (.bool (e.cl.has b)) ∧ Below W.heap.size W w') := fun W => rx_in e.cl b W (HOK.out e (HES.out e hem)) hb256
         obtain ⟨Q, hQ⟩ : ∃ Q, Q = wz.heap.size := ⟨_, rfl⟩
         obtain ⟨w8, hw8⟩ : ∃ W, W = wz.alloc (.cells #[.int .i64 e.fr, .int .i64 e.to, .bool e.fre, .int .u64 e.cl.a, .int .u64 e.cl.b, .int .u64 e.cl.c, .int .u64 e.cl.d] 42) := ⟨_, rfl⟩
         have b8 : Below wz.heap.size wz w8 := by rw [hw8]; exact below1
         have x8 : w8.heap[Q]? = some (.cells #[.int .i64 e.fr, .int .i64 e.to, .bool e.fre, .int .u64 e.cl.a, .int .u64 e.cl.b, .int .u64 e.cl.c, .int .u64 e.cl.d] 42) := by rw [hw8, hQ]; exact heap_alloc_new wz _
         have HX8 : Hid (∀ W, Below w8.heap.size w8 W → W.heap[Q]? = some (.cells #[.int .i64 e.fr, .int .i64 e.to, .bool e.fre, .int .u64 e.cl.a, .int .u64 e.cl.b, .int .u64 e.cl.c, .int .u64 e.cl.d] 42)) := fun W hW => (hW.block _ (lt_of_block x8)).trans x8
         have HO8 := Lib.hid (own_stay HO3.out b8)
         have HB8 := Lib.hid (HBZ.out.trans (b8.mono HBZ.out.size))
         have HW8 := Lib.hid hw8
         have HQ8 := Lib.hid hQ
         clear he hem htl hw8 b8 x8 hQ
         cases hfr : e.fre
         ·
          have HFR := Lib.hid hfr
          obtain ⟨hb1, hhb⟩ : ∃ x, x = e.cl.has b := ⟨_, rfl⟩
          have HHB := Lib.hid hhb
          rw [← hhb] at HIN
          clear hfr hhb
          go_wp2_with fail
          rw [← HW8.out, ← HQ8.out]
          refine wp_flow 11 (fun _ => 1000) (fun ww => RowKit.Below w8.heap.size w8 ww) (fun _ w w' => (fun (w w' : World) => RowKit.Below w.heap.size w w') w w') (fun kF vF wF => match kF with | 0 => (vF = .pointer (some ⟨Q, 2, none⟩)) | 1 => (vF = .bool false) | 2 => (vF = .bool true) | 3 => (vF = .bool true) | 4 => (vF = .pointer (some ⟨Q, 3, none⟩)) | 5 => (vF = .agg #[.int .u64 e.cl.a, .int .u64 e.cl.b, .int .u64 e.cl.c, .int .u64 e.cl.d]) | 6 => (vF = .string S) | 7 => (vF = .int .i64 j) | 8 => (vF = .int .u8 (b : Int)) | 9 => (vF = .bool hb1) | 10 => (vF = .bool hb1) | _ => True) (fun _ _ _ _ => True) (by kernel_rfl) (by kernel_rfl) ?_ ?_ ?_ ?_ ?_
          ·
           exact (Below.refl _ _).drew
          ·
           intro iF wF1 wF2 hR hT; exact hR.trans (hT.mono hR.size)
          ·
           intro kF hkF iF hiF hne hdd hanc hdan vF wF1 wF2 h hT
           rcases (by omega : kF = 0 ∨ kF = 1 ∨ kF = 2 ∨ kF = 3 ∨ kF = 4 ∨ kF = 5 ∨ kF = 6 ∨ kF = 7 ∨ kF = 8 ∨ kF = 9 ∨ kF = 10) with rfl | rfl | rfl | rfl | rfl | rfl | rfl | rfl | rfl | rfl | rfl
           iterate 11 exact h
          ·
           generalize hAF : fillOf _ _ _ = AF
           replace hAF := fun x => congrFun hAF x
           simp only [take_succ_cons, take_zero, fillOf, Act.put, setIfInBounds_toArray, set_cons_zero, set_cons_succ, Nat.reduceAdd, Nat.zero_add] at hAF
           refine .cons ?_ (.cons ?_ (.cons ?_ (.cons ?_ (.cons ?_ (.cons ?_ (.cons ?_ (.cons ?_ (.cons ?_ (.cons ?_ (.cons ?_ (.nil)))))))))))
           all_goals
            intro xF w9 hR hd K hK
            first | simp only [← hAF, Act.put, setIfInBounds_toArray, set_cons_zero, set_cons_succ] at hK ⊢ | simp only [← hAF, Act.put] at hK ⊢
            clear hAF
            try simp only [Nat.zero_add, Nat.reduceAdd] at hK ⊢
           ·
            clear hd
            obtain hbR := id hR
            rw [if_pos (by rfl)]
            go_simp
            exact hK.out _ _ (Below.refl _ _) (rfl) (fun _ _ _ => ⟨trivial, trivial⟩)
           ·
            have dd0 := hd 0 (by kernel_rfl)
            clear hd
            try generalize xF 0 = yy0 at *
            obtain rfl := dd0
            obtain hbR := id hR
            have y2 := boxc (HX8.out _ hR) 2 _ rfl
            rw [HFR.out] at y2
            rw [if_pos (by rfl)]
            go_simp
            exact hK.out _ _ (Below.refl _ _) (rfl) (fun _ _ _ => ⟨trivial, trivial⟩)
           ·
            have dd1 := hd 1 (by kernel_rfl)
            clear hd
            try generalize xF 1 = yy1 at *
            obtain rfl := dd1
            obtain hbR := id hR
            rw [if_pos (by rfl)]
            go_simp
            exact hK.out _ _ (Below.refl _ _) (rfl) (fun _ _ _ => ⟨trivial, trivial⟩)
           ·
            have dd2 := hd 2 (by kernel_rfl)
            clear hd
            try generalize xF 2 = yy2 at *
            obtain rfl := dd2
            obtain hbR := id hR
            rw [if_pos (by rfl)]
            go_simp
            exact hK.out _ _ (Below.refl _ _) (rfl) (fun _ _ _ => ⟨trivial, trivial⟩)
           ·
            have dd3 := hd 3 (by kernel_rfl)
            clear hd
            try generalize xF 3 = yy3 at *
            obtain rfl := dd3
            obtain hbR := id hR
            rw [if_pos (by rfl)]
            go_simp
            exact hK.out _ _ (Below.refl _ _) (rfl) (fun _ _ _ => ⟨trivial, trivial⟩)
           ·
            have dd3 := hd 3 (by kernel_rfl)
            have dd4 := hd 4 (by kernel_rfl)
            clear hd
            try generalize xF 3 = yy3 at *
            try generalize xF 4 = yy4 at *
            obtain rfl := dd3
            obtain rfl := dd4
            obtain hbR := id hR
            have y3 := boxc (HX8.out _ hR) 3 _ rfl
            have y4 := boxc (HX8.out _ hR) 4 _ rfl
            have y5 := boxc (HX8.out _ hR) 5 _ rfl
            have y6 := boxc (HX8.out _ hR) 6 _ rfl
            rw [if_pos (by rfl)]
            go_simp
            exact hK.out _ _ (Below.refl _ _) (rfl) (fun _ _ _ => ⟨trivial, trivial⟩)
           ·
            have dd3 := hd 3 (by kernel_rfl)
            clear hd
            try generalize xF 3 = yy3 at *
            obtain rfl := dd3
            obtain hbR := id hR
            rw [if_pos (by rfl)]
            go_simp
            exact hK.out _ _ (Below.refl _ _) (rfl) (fun _ _ _ => ⟨trivial, trivial⟩)
           ·
            have dd3 := hd 3 (by kernel_rfl)
            clear hd
            try generalize xF 3 = yy3 at *
            obtain rfl := dd3
            obtain hbR := id hR
            rw [if_pos (by rfl)]
            go_simp
            exact hK.out _ _ (Below.refl _ _) (rfl) (fun _ _ _ => ⟨trivial, trivial⟩)
           ·
            have dd3 := hd 3 (by kernel_rfl)
            have dd6 := hd 6 (by kernel_rfl)
            have dd7 := hd 7 (by kernel_rfl)
            clear hd
            try generalize xF 3 = yy3 at *
            try generalize xF 6 = yy6 at *
            try generalize xF 7 = yy7 at *
            obtain rfl := dd3
            obtain rfl := dd6
            obtain rfl := dd7
            obtain hbR := id hR
            rw [if_pos (by rfl)]
            go_simp
            refine hK.out _ _ ?_ ?_ ?_
            ·
             exact Below.refl _ _
            ·
             first | exact rfl | exact congrArg (fun x : Nat => Value.int .u8 (x : Int)) HBY.out.symm
            ·
             exact fun _ _ _ => ⟨trivial, trivial⟩
           ·
            have dd3 := hd 3 (by kernel_rfl)
            have dd5 := hd 5 (by kernel_rfl)
            have dd8 := hd 8 (by kernel_rfl)
            clear hd
            try generalize xF 3 = yy3 at *
            try generalize xF 5 = yy5 at *
            try generalize xF 8 = yy8 at *
            obtain rfl := dd3
            obtain rfl := dd5
            obtain rfl := dd8
            obtain hbR := id hR
            rw [if_pos (by rfl)]
            go_simp
            (go_at_call 27; (with_reducible refine (HIN.out _).mono ?_); rintro e wK ⟨rfl, hbK⟩)
            try go_wp2_with fail
            exact hK.out _ _ (hbK) (rfl) (fun _ _ _ => ⟨trivial, trivial⟩)
           ·
            have dd3 := hd 3 (by kernel_rfl)
            have dd9 := hd 9 (by kernel_rfl)
            clear hd
            try generalize xF 3 = yy3 at *
            try generalize xF 9 = yy9 at *
            obtain rfl := dd3
            obtain rfl := dd9
            obtain hbR := id hR
            rw [if_pos (by rfl)]
            go_simp
            exact hK.out _ _ (Below.refl _ _) (rfl) (fun _ _ _ => ⟨trivial, trivial⟩)
          intro xF w9 hR hF hP
          clear hP
          have dd0 := hF 0 (by omega) (by decide)
          have dd1 := hF 1 (by omega) (by decide)
          have dd2 := hF 2 (by omega) (by decide)
          have dd3 := hF 3 (by omega) (by decide)
          have dd4 := hF 4 (by omega) (by decide)
          have dd5 := hF 5 (by omega) (by decide)
          have dd6 := hF 6 (by omega) (by decide)
          have dd7 := hF 7 (by omega) (by decide)
          have dd8 := hF 8 (by omega) (by decide)
          have dd9 := hF 9 (by omega) (by decide)
          have dd10 := hF 10 (by omega) (by decide)
          clear hF
          simp only [take_succ_cons, take_zero, drop_succ_cons, drop_zero, fillOf, Act.put, setIfInBounds_toArray, set_cons_zero, set_cons_succ, Nat.reduceAdd, Nat.zero_add]
          try generalize xF 0 = yy0 at *
          try generalize xF 1 = yy1 at *
          try generalize xF 2 = yy2 at *
          try generalize xF 3 = yy3 at *
          try generalize xF 4 = yy4 at *
          try generalize xF 5 = yy5 at *
          try generalize xF 6 = yy6 at *
          try generalize xF 7 = yy7 at *
          try generalize xF 8 = yy8 at *
          try generalize xF 9 = yy9 at *
          try generalize xF 10 = yy10 at *
          clear xF
          obtain rfl := dd0
          obtain rfl := dd1
          obtain rfl := dd2
          obtain rfl := dd3
          obtain rfl := dd4
          obtain rfl := dd5
          obtain rfl := dd6
          obtain rfl := dd7
          obtain rfl := dd8
          obtain rfl := dd9
          obtain rfl := dd10
          have hRE := Lib.hid hR
          clear hR
          have HB9 := Lib.hid (HB8.out.trans (hRE.out.mono HB8.out.size))
          have HO9 := Lib.hid (own_stay HO8.out hRE.out)
          have x9 := HX8.out _ hRE.out
          have g1 := boxc x9 1 _ rfl
          cases hb1
          ·
           have HNR2 : Hid (nf.nextR b (es'.take (t + 1)) = nf.nextR b (es'.take t)) := by show _ = _; rw [HNR.out, HFR.out, ← HHB.out]; rfl
           have HQ9 : Hid (q3 = (N0 ++ nf.nextR b (es'.take (t + 1))).length) := by show _ = _; rw [HNR2.out]; exact HQ3.out
           have HO10 : Hid (w9.ownsRow wx.heap.size 3 1 (.slice ao3 q3 c3) q3 (nats (N0 ++ nf.nextR b (es'.take (t + 1))))) := by show World.ownsRow _ _ _ _ _ _ _; rw [HNR2.out]; exact HO9.out
           clear x9 g1
           go_wp2
           go_roundw
           case rel => exact ⟨t + 1, q3, ao3, c3, rfl, by go_num, by omega, by omega, HQ9, HO10, HB9⟩
           case measure => simp [intOf]; omega
          ·
           have HNR2 : Hid (nf.nextR b (es'.take (t + 1)) = nf.nextR b (es'.take t) ++ [e.to]) := by show _ = _; rw [HNR.out, HFR.out, ← HHB.out]; rfl
           have HZ9 : Hid (wx.heap.size ≤ w9.heap.size) := HB9.out.size
           clear x9
           go_wp2_with (at_builtin; refine app1g (.tmp 77) (.tmp 80) 56 rfl rfl wx.heap.size Try.underlying56 infoI rfl (by decide) (by decide) HO9.out rfl rfl rfl (by intro u hu; simp at hu; rw [hu]; rfl) (by omega) HZ9.out ?_)
           intro v' w10 hown hg
           obtain ⟨ao4, c4, rfl⟩ : ∃ ao4 c4, v' = .slice ao4 (q3 + 1) c4 := by
            rcases hown.2 with ⟨_, h0⟩ | ⟨g, c, cur, rfl, _⟩
            ·
             cases h0
            ·
             exact ⟨_, _, rfl⟩
           have HQ9 : Hid (q3 + 1 = (N0 ++ nf.nextR b (es'.take (t + 1))).length) := by
            show _ = _
            rw [HNR2.out, ← List.append_assoc, List.length_append, ← HQ3.out]; rfl
           have HO10 : Hid (w10.ownsRow wx.heap.size 3 1 (.slice ao4 (q3 + 1) c4) (q3 + 1) (nats (N0 ++ nf.nextR b (es'.take (t + 1))))) := by
            show World.ownsRow _ _ _ _ _ _ _
            rw [HNR2.out, ← List.append_assoc, nats_snoc]; exact hown
           have HB10 := Lib.hid ((HB9.out.alloc HZ9.out _).grown hg (by simp; have := HZ9.out; omega) (fun i hi => (HO9.out.lt i hi).1))
           clear hown hg g1
           go_wp2
           go_roundw
           case rel => exact ⟨t + 1, q3 + 1, ao4, c4, rfl, by go_num, by omega, by omega, HQ9, HO10, HB10⟩
           case measure => simp [intOf]; omega
         ·
          have HNR2 : Hid (nf.nextR b (es'.take (t + 1)) = nf.nextR b (es'.take t)) := by show _ = _; rw [HNR.out, hfr]; rfl
          have HQ9 : Hid (q3 = (N0 ++ nf.nextR b (es'.take (t + 1))).length) := by show _ = _; rw [HNR2.out]; exact HQ3.out
          have HO10 : Hid (∀ n, (w8.drewN n).ownsRow wx.heap.size 3 1 (.slice ao3 q3 c3) q3 (nats (N0 ++ nf.nextR b (es'.take (t + 1))))) := fun n => by rw [HNR2.out]; exact own_stay HO8.out (below_drewN (Below.refl _ _) n)
          have HB10 : Hid (∀ n, Below wx.heap.size wx (w8.drewN n)) := fun n => below_drewN HB8.out n
          have g2 := boxc (HX8.out _ (Below.refl _ _)) 2 _ rfl
          rw [hfr] at t2 HW8 g2
          clear hfr
          go_wp2_with fail
          rw [← HW8.out, ← HQ8.out]
          go_quiet (fail)
          go_wp2
          go_roundw
          case rel => exact ⟨t + 1, q3, ao3, c3, rfl, by go_num, by omega, by omega, HQ9, HO10.out _, HB10.out _⟩
          case measure => simp [intOf]; omega
        ·
         have htr2 : r = t := by omega
         subst htr2
         have HNR : Hid (N0 ++ nf.nextR b (es'.take r) = nf.nextF L b (now.take (k + 1))) := by show _ = _; rw [HNX.out, List.take_of_length_le (by rw [← HR.out]; exact Nat.le_refl _)]
         have HQ9 : Hid (q3 = (nf.nextF L b (now.take (k + 1))).length) := by show _ = _; rw [← HNR.out]; exact HQ3.out
         have HO10 : Hid (wz.ownsRow wx.heap.size 3 1 (.slice ao3 q3 c3) q3 (nats (nf.nextF L b (now.take (k + 1))))) := by show World.ownsRow _ _ _ _ _ _ _; rw [← HNR.out]; exact HO3.out
         go_wp2
         go_roundw
         case rel => exact ⟨k + 1, q3, ao3, c3, rfl, by go_num, by omega, HQ9, HO10, HBZ⟩
         case measure => simp [intOf]; omega
      ·
       have hkq2 : q = k := by omega
       subst hkq2
       have hall : now.take q = now := List.take_of_length_le (by rw [← HQN.out]; exact Nat.le_refl _)
       rw [hall] at HQ2 HO2
       obtain ⟨N1, hN1⟩ : ∃ N, N = nf.nextF L b now := ⟨_, rfl⟩
       have HN1 := Lib.hid hN1
       rw [← hN1] at HQ2 HO2
       have HNT : Hid (∀ x ∈ N1, x < sz) := by show ∀ x ∈ N1, _; rw [hN1]; exact nf.nextF_to HLT.out now
       have HCX : Hid (Cells wy wy.heap.size (.slice ao2 q2 c2) N1.length 1 (nats N1)) := by show Cells _ _ _ _ _ _; rw [← HQ2.out]; exact Cells.own HO2.out
       have HS2 := Lib.hid (nf_spread L N1 _ _ wy (HLL.out wy HBX2.out) HCX.out (by rw [HL0.out]; omega) (by rw [HL0.out]; exact HNT.out) (by rw [HL0.out]; exact HLT.out))
       have HTE : Hid (nf.runF L fi ((kit.bytes S).drop (j + 1)) (nf.spread L N1) = T) := by
        show _ = _
        rw [← HTN.out, HDR.out, nf.runF, hN1]
       have HOE : Hid (nf.Ok sz (nf.spread L N1)) := nf.ok_spread HLT.out HNT.out
       clear hall hN1 hkq
       go_wp2_with fail
       (with_reducible refine HS2.out.mono ?_)
       rintro en w11 ⟨ao11, c11, rfl, hown11, hb11⟩
       have HC11 := Lib.hid (Cells.own hown11)
       have HB11 := Lib.hid (HBX2.out.trans (hb11.mono HBX2.out.size))
       clear hown11 hb11
       go_wp2
       go_roundw
       case rel => exact ⟨j + 1, _, _, ao11, c11, rfl, by go_num, by omega, rfl, HOE, HC11, HTE, HB11⟩
       case measure => simp [intOf]; omega
    ·
     have hjS2 : S.size = j := by omega
     have HTE : Hid (T = decide (fi ∈ now)) := by
      show _ = _
      rw [← HTN.out, List.drop_eq_nil_of_le (by rw [kit.bytes_len]; omega)]; rfl
     have HCT := Lib.hid (contains_nats now fi ao c q wx.heap.size wx HQN.out HCN.out hq4)
     have HBE := Lib.hid (HBA.out _ (HB6.out _ HBX.out))
     have d2 := boxc HBE.out.2 2 _ rfl
     have hjI : ¬ (j : Int) < (S.size : Int) := by omega
     have hjJ : (S.size : Int) ≤ (j : Int) := by omega
     clear hjS2
     go_wp2_with fail
     (with_reducible refine HCT.out.mono ?_)
     rintro en w12 ⟨rfl, rfl⟩
     have HEND : Hid ((Ending.returned (.bool (decide (fi ∈ now))) = .returned (.bool (nf.run sz st fi es (kit.bytes S)))) ∧ Below w.heap.size w w12) := ⟨by rw [← HT.out, HTE.out], HBE.out.1⟩
     clear d2
     go_wp2
     go_ret
     first | exact HEND.out | (have := HEND.out; rw [← HT.out] at this; exact this)
end Go.Proofs.Ytmfgplbfojnkdaa
