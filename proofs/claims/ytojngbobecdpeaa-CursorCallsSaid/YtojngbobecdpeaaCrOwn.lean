/- the document's cursors: own, by contract: a tree of the call's own, told with its blocks. -/
import Derived.Test.YtojngbobecdpeaaCrTree
import Derived.Test.YtojngbobecdpeaaCrIn
namespace Go.Proofs.Ytojngbobecdpeaa
open Go Go.RowKit Go.ChangeShapes at_ pm cl
/-- cursors of the call's own -/
def OwnA (d : Nat) (l : List Cur) (w : World) (e : Ending) (w' : World) : Prop :=
  ∃ (ao : Option Addr) (cap : Nat) (bs : List Nat), e = .returned (.slice ao l.length cap) ∧ OTs (OT d) w' (.slice ao l.length cap) l bs ∧ (∀ b ∈ bs, w.heap.size ≤ b) ∧ Below w.heap.size w w'
theorem own_empty {W : World} : (W.alloc (.cells #[] 3)).ownsRow W.heap.size 3 1 (.slice (some ⟨W.heap.size, 0, none⟩) 0 0) 0 [] :=
  ⟨rfl, Or.inr ⟨W.heap.size, 0, #[], rfl, Nat.le_refl _, heap_alloc_new _ _, Nat.le_refl _, Nat.zero_le _, rfl, rfl⟩⟩
theorem i64s_one (l : List Int) : ∀ u ∈ i64s l, u.oneCell' = true := by
  intro u hu
  unfold i64s at hu
  obtain ⟨x, _, rfl⟩ := List.mem_map.1 hu
  rfl
theorem OTs.sm_kids {x : Cur} (h : x.sm) : x.l.length ≤ 100000 ∧ x.ks.length ≤ 100000 ∧ ∀ c ∈ x.ks, c.sm := by
  cases x; exact Cur.sm_iff.1 h
set_option maxHeartbeats 12800000 in
set_option maxRecDepth 100000 in
theorem own_of (d : Nat) (HF : ∀ e, d = e + 1 → ∀ (l : List Cur) (v : Value) (w : World), RowsAt 4 (curR e) w w.heap.size v l → (∀ c ∈ l, c.sm) → l.length ≤ 100000 → Calls Try.prog 39 #[v] w (OwnA e l w))
    (l : List Cur) (v : Value) (w : World) (h : RowsAt 4 (curR d) w w.heap.size v l) (hs : ∀ c ∈ l, c.sm) (hl : l.length ≤ 100000) : Calls Try.prog 39 #[v] w (OwnA d l w) := by
  obtain ⟨m, hm⟩ : ∃ m, m = l.length := ⟨_, rfl⟩
  obtain ⟨ao, cap, rfl, hnc, _⟩ := h.form' hm
  have HL := Lib.hid h
  have HM := Lib.hid hm
  have HS := Lib.hid hs
  have HFF := Lib.hid HF
  rw [← hm] at hl
  clear h hm hs HF
  go_enter Try.func39, Try.ntmps39
  go_wp2
  go_loopw [3, 8, 25] (fun o i _ wr => ∃ (k : Nat) (ro : Option Addr) (rc : Nat), i = .int .i64 k ∧ k ≤ m ∧ o = .slice ro k rc ∧ Hid (∃ bs, OTs (OT d) wr (.slice ro k rc) (l.take k) bs ∧ ∀ b ∈ bs, w.heap.size ≤ b) ∧ Below w.heap.size w wr) (fun _ i _ _ => m - (intOf i).toNat)
  case atStart => exact ⟨0, none, 0, rfl, Nat.zero_le _, rfl, ⟨[], OTs.nil _ _, fun b hb => by simp at hb⟩, Below.refl _ _⟩
  case round =>
    obtain ⟨k, ro, rc, rfl, hk, rfl, HI, hbl⟩ := hrel
    by_cases hlt : k < m
    · have hkI : (k : Int) < (m : Int) := by omega
      have HKL : Hid (k < l.length) := by show _ < _; rw [← HM.out]; exact hlt
      obtain ⟨x, hx⟩ : ∃ x, x = l.getD k default := ⟨_, rfl⟩
      obtain ⟨ba, oa, c, rfl, hbB, hcl, hR, hC⟩ := (HL.out.next (curR_steady d) hbl).get HM.out hlt default
      rw [← hx] at hR
      have hxm : x.sm := by
        refine HS.out x ?_
        rw [hx, List.getD_eq_getElem?_getD, List.getElem?_eq_getElem HKL.out]
        exact List.getElem_mem _
      obtain ⟨e, rfl⟩ : ∃ e, d = e + 1 := by
        cases d with
        | zero => exact hR.elim
        | succ e => exact ⟨e, rfl⟩
      obtain ⟨lo, ln, lc, ko, kn, kc, rfl, hA, hK⟩ := hR
      have q0 : wr.cell? ⟨ba, oa + k * 4, none⟩ = _ := hC 0 _ rfl
      have q1 := hC 1 _ rfl
      have q2 := hC 2 _ rfl
      have q3 := hC 3 _ rfl
      obtain ⟨sl, sk, ss⟩ := OTs.sm_kids hxm
      obtain ⟨q, hq⟩ : ∃ q, q = wr.heap.size := ⟨_, rfl⟩
      obtain ⟨W3, hW3⟩ : ∃ W, W = wr.alloc (.cells #[.int .i64 x.k, .slice lo ln lc, .int .i64 x.a, .slice ko kn kc] 25) := ⟨_, rfl⟩
      have b3 : Below wr.heap.size wr W3 := by rw [hW3]; exact below1
      have x3 : W3.heap[q]? = some (.cells #[.int .i64 x.k, .slice lo ln lc, .int .i64 x.a, .slice ko kn kc] 25) := by rw [hW3, hq]; exact heap_alloc_new _ _
      have s3 : W3.heap.size = q + 1 := by rw [hW3, World.size_alloc, hq]
      have b4 : Below W3.heap.size W3 (W3.alloc (.cells #[] 3)) := below1
      have hA4 := hA.below (b3.trans (b4.mono b3.size))
      obtain ⟨hln, hln0, hcell⟩ := hA4.cells
      have HO4 : Hid ((W3.alloc (.cells #[] 3)).ownsRow (q + 1) 3 1 (.slice (some ⟨q + 1, 0, none⟩) 0 0) 0 []) := by
        show World.ownsRow _ _ _ _ _ _ _
        rw [← s3]; exact own_empty
      have HLN := Lib.hid hln
      have HLE : Hid ((i64s x.l).length = ln * 1) := by show _ = _; rw [i64s_len, hln, Nat.mul_one]
      have HL0 := Lib.hid hln0
      have HCL := Lib.hid hcell
      have H1 := Lib.hid (i64s_one x.l)
      have hlb : (0 + ln) * 8 ≤ 140737488355328 := by rw [hln]; omega
      have HBS : Hid (q + 1 ≤ (W3.alloc (.cells #[] 3)).heap.size) := by show _ ≤ _; rw [World.size_alloc, s3]; omega
      have X4 : Hid ((W3.alloc (.cells #[] 3)).heap[q]? = some (.cells #[.int .i64 x.k, .slice lo ln lc, .int .i64 x.a, .slice ko kn kc] 25)) := (b4.block q (by omega)).trans x3
      have B34 : Hid (Below wr.heap.size wr (W3.alloc (.cells #[] 3))) := b3.trans (b4.mono b3.size)
      have HKW : Hid (∀ W, Below wr.heap.size wr W → RowsAt 4 (curR e) W W.heap.size (.slice ko kn kc) x.ks) := fun W hW => hK.next (curR_steady e) hW
      have HQ := Lib.hid hq
      have HW3 := Lib.hid hW3
      have HS3 := Lib.hid s3
      have HBL := Lib.hid hbl
      have HX := Lib.hid hx
      have HSM := Lib.hid ss
      have hknm : kn ≤ 9223372036854775807 := by
        obtain ⟨_, _, e1, _, hm⟩ := hK.form
        simp only [Value.slice.injEq] at e1
        unfold maxLen at hm
        omega
      have hc1 := boxc X4.out 1 _ rfl
      clear hA hK hC hx hbB hcl hxm ss hq hW3 b3 x3 s3 b4 hA4 hln hln0 hcell hbl
      go_wp2_with (at_builtin; rw [← HW3.out, ← HQ.out]; refine kit.appG (.tmp 12) (.tmp 14) 22 rfl rfl (q + 1) Try.underlying22 infoInt rfl (by decide) (by decide) HO4.out rfl (i64s x.l) rfl HLE.out HL0.out HCL.out H1.out hlb HBS.out ?_)
      intro v5 w5 hO5 hg5
      (try rw [Nat.zero_add, List.nil_append] at hO5)
      obtain ⟨ao5, c5, rfl⟩ := own_slice hO5
      have b5 := grown_below HO4.out HBS.out hg5
      have x5 : w5.heap[q]? = some (.cells #[.int .i64 x.k, .slice lo ln lc, .int .i64 x.a, .slice ko kn kc] 25) := (b5.block q (by omega)).trans X4.out
      have e1 := boxc x5 1 _ rfl
      have f1 := boxf x5 1
      obtain ⟨W6, hW6⟩ : ∃ W, W = w5.setCell ⟨q, 1, none⟩ (.slice ao5 ln c5) := ⟨_, rfl⟩
      have x6 : W6.heap[q]? = some (.cells #[.int .i64 x.k, .slice ao5 ln c5, .int .i64 x.a, .slice ko kn kc] 25) := by
        rw [hW6]; exact heap_setCell_same w5 q 1 _ _ _ x5
      have s5 : q + 1 ≤ w5.heap.size := Nat.le_trans HBS.out b5.size
      have s6 : W6.heap.size = w5.heap.size := by rw [hW6, World.size_setCell]
      have b6 : Below wr.heap.size wr W6 := by
        rw [hW6]
        exact (B34.out.trans (b5.mono (by have := HQ.out; omega))).setCell (p := (⟨q, 1, none⟩ : Addr)) (Nat.le_of_eq HQ.out.symm) _
      have k6 : ∀ j, j ≠ q → W6.heap[j]? = w5.heap[j]? := fun j hj => by rw [hW6]; exact heap_setCell_other _ _ _ _ hj
      have hl5 : w5.ownsRow (q + 1) 3 1 (.slice ao5 ln c5) ln (i64s x.l) := hO5
      have f5 := fre_atT hl5
      have HW6 := Lib.hid hW6
      have X6 := Lib.hid x6
      have K6 := Lib.hid k6
      have S6 := Lib.hid s6
      have F5 := Lib.hid f5
      have B6 := Lib.hid b6
      have S5 := Lib.hid s5
      have e3 := boxc x6 3 _ rfl
      rw [hW6] at e3
      have HOW := Lib.hid (HFF.out e rfl x.ks _ W6 (HKW.out W6 b6) HSM.out sk)
      clear hO5 hg5 b5 x5 hW6 x6 s5 s6 b6 k6 hl5 f5 hc1
      go_wp2_with fail
      rw [← HW6.out]
      (with_reducible refine HOW.out.mono ?_)
      rintro e7 w7 ⟨ao7, c7, bs7, rfl, T7, hb7, b7⟩
      obtain ⟨kl, hkl⟩ : ∃ n, n = x.ks.length := ⟨_, rfl⟩
      rw [← hkl] at T7 ⊢
      have hq6 := lt_of_block X6.out
      have x7 := (b7.block q hq6).trans X6.out
      have e3 := boxc x7 3 _ rfl
      have f3 := boxf x7 3
      obtain ⟨W8, hW8⟩ : ∃ W, W = w7.setCell ⟨q, 3, none⟩ (.slice ao7 kl c7) := ⟨_, rfl⟩
      have x8 : W8.heap[q]? = some (.cells #[.int .i64 x.k, .slice ao5 ln c5, .int .i64 x.a, .slice ao7 kl c7] 25) := by
        rw [hW8]; exact heap_setCell_same w7 q 3 _ _ _ x7
      have s8 : W8.heap.size = w7.heap.size := by rw [hW8, World.size_setCell]
      have k8 : ∀ j, j ≠ q → W8.heap[j]? = w7.heap[j]? := fun j hj => by rw [hW8]; exact heap_setCell_other _ _ _ _ hj
      have b8 : Below wr.heap.size wr W8 := by
        rw [hW8]
        exact (B6.out.trans (b7.mono B6.out.size)).setCell (p := (⟨q, 3, none⟩ : Addr)) (Nat.le_of_eq HQ.out.symm) _
      have T8 : OTs (OT e) W8 (.slice ao7 kl c7) x.ks bs7 := by
        refine T7.keep ⟨by omega, fun j arr fr hj => k8 j (fun e => ?_)⟩ (fun b hb => k8 b (by have := hb7 b hb; omega))
        subst e
        rw [x7] at hj
        simp only [Option.some.injEq, Obj.cells.injEq] at hj
        exact absurd hj.2.1 (by decide)
      obtain ⟨lA, lT⟩ := F5.out W8 (by have := S6.out; have := b7.size; omega) (fun j hj hjl _ => by
        rw [k8 j (by omega), b7.block j (by have := S6.out; omega)]
        exact K6.out j (by omega))
      have OX : OT (e + 1) W8 [.int .i64 x.k, .slice ao5 ln c5, .int .i64 x.a, .slice ao7 kl c7] x bs7 := ⟨ao5, ln, c5, ao7, kl, c7, rfl, lA, lT, T8⟩
      obtain ⟨bs, hT, hB⟩ := HI.out
      have hTt := hT.typed
      obtain ⟨cs, bss, g0, g1, g2, g3, g4, g5⟩ := hT.next b8
      have hlk : k = (l.take k).length := by rw [List.length_take]; have := HKL.out; omega
      have G3 : Hid (W8.ownsRow w.heap.size 25 4 (.slice ro k rc) k cs.flatten) := by
        refine own_up ?_ (fun b hb => hB b (by rw [g4]; simp [hb]))
        have g3' := g3
        rw [← hlk] at g3'
        exact g3'
      have hdis : ∀ b ∈ bs7, b ∉ bs := fun b hb hm => by
        have h1 := hb7 b hb
        obtain ⟨arr, ha⟩ := hTt b hm
        have := lt_of_block ha
        have := B6.out.size
        omega
      have hge : ∀ b ∈ bs7, w.heap.size ≤ b := fun b hb => by
        have h1 := hb7 b hb
        have := B6.out.size
        have := HBL.out.size
        omega
      have SN : Hid (∀ (v9 : Value) (w9 : World), w9.ownsRow w.heap.size 25 4 v9 (k + 1) (cs.flatten ++ [.int .i64 x.k, .slice ao5 ln c5, .int .i64 x.a, .slice ao7 kl c7]) → (W8.alloc (.cells #[.int .i64 x.k, .slice ao5 ln c5, .int .i64 x.a, .slice ao7 kl c7] 25)).grownBy w9 (Value.slice ro k rc).ownBlock → (v9.ownBlock = (Value.slice ro k rc).ownBlock ∨ ∀ b, v9.ownBlock = some b → W8.heap.size + 1 ≤ b) →
          (∃ bs, OTs (OT (e + 1)) w9 v9 (l.take (k + 1)) bs ∧ ∀ b ∈ bs, w.heap.size ≤ b) ∧ Below w.heap.size w w9) := by
        intro v9 w9 hO9 hg9 hv9
        refine ⟨?_, (HBL.out.trans (b8.mono HBL.out.size)).trans (app_below G3.out (Nat.le_trans HBL.out.size b8.size) hg9)⟩
        rw [Cur.take_cur HKL.out, ← HX.out]
        exact OTs.snoc g0 g1 g2 hlk G3.out g4 g5 hB OX rfl hge T8.nodup hdis hO9 hg9 (hv9.imp id (fun h b hb => by rw [World.size_alloc]; exact h b hb))
      have HW8 := Lib.hid hW8
      have S8 := Lib.hid s8
      have HSZ : Hid (w.heap.size ≤ W8.heap.size) := Nat.le_trans HBL.out.size b8.size
      have hkb : (k + 1) * 64 ≤ 140737488355328 := by omega
      have d0 := boxc x8 0 _ rfl
      have d1 := boxc x8 1 _ rfl
      have d2 := boxc x8 2 _ rfl
      have d3 := boxc x8 3 _ rfl
      rw [hW8] at d0 d1 d2 d3
      clear T7 hb7 b7 x7 hW8 x8 s8 k8 b8 T8 lA lT OX hT hB hTt g0 g1 g2 g3 g4 g5 hlk hdis hge hkl hq6
      go_wp2_with (at_builtin; rw [← HW8.out]; refine kit.app1k w7.heap.size S8.out.symm (.tmp 21) (.tmp 23) 23 rfl rfl w.heap.size Try.underlying23 infoCur rfl (by decide) (by decide) G3.out rfl rfl rfl (by simp [Value.oneCell']) hkb HSZ.out ?_)
      intro v9 w9 hO9 hg9 hv9
      obtain ⟨ao9, c9, rfl⟩ := own_slice hO9
      obtain ⟨t1, t2⟩ := SN.out _ w9 hO9 hg9 (by first | exact hv9 | simpa using hv9)
      have T9 := Lib.hid t1
      have B9 := Lib.hid t2
      clear hO9 hg9 hv9 t1 t2 d0 d1 d2 d3 e3 f3
      go_wp2
      go_roundw
      case rel => exact ⟨k + 1, ao9, c9, by go_num, by omega, rfl, T9, B9.out⟩
      case measure => simp [intOf]; omega
    · obtain rfl : k = m := by omega
      have HBL := Lib.hid hbl
      clear hbl
      go_wp2
      go_ret
      obtain ⟨bs, h1, h2⟩ := HI.out
      rw [List.take_of_length_le (by rw [HM.out]; exact Nat.le_refl _)] at h1
      have hkl := HM.out
      subst hkl
      exact ⟨ro, rc, bs, rfl, h1, h2, HBL.out⟩
theorem own_cu : ∀ (d : Nat) (l : List Cur) (v : Value) (w : World), RowsAt 4 (curR d) w w.heap.size v l → (∀ c ∈ l, c.sm) → l.length ≤ 100000 → Calls Try.prog 39 #[v] w (OwnA d l w)
  | 0, l, v, w, h, hs, hl => own_of 0 (fun e he => absurd he (by omega)) l v w h hs hl
  | d + 1, l, v, w, h, hs, hl => own_of (d + 1) (fun e he => by cases he; exact own_cu d) l v w h hs hl
end Go.Proofs.Ytojngbobecdpeaa
