/- the document's cursors: skip, by contract: a tree of the call's own gone on with, in its place. -/
import Derived.Test.YtojngbobecdpeaaCrOwn
import Derived.Test.YtojngbobecdpeaaHeldP
import Derived.Test.YtojngbobecdpeaaCopy
namespace Go.Proofs.Ytojngbobecdpeaa
open Go Go.RowKit Go.ChangeShapes at_ pm cl
/-- gone on with in its place -/
def SkA (d : Nat) (y : Cur) (bs : List Nat) (w : World) (e : Ending) (w' : World) : Prop :=
  ∃ c', e = .returned (.agg (List.toArray c')) ∧ OT d w' c' y bs ∧ KB bs w w'
def atOf (w : World) (q : Nat) : Nat := match w.cell? ⟨q, 2, none⟩ with | some (.int _ z) => z.toNat | _ => 0
theorem flat_set4 {cs : List (List Value)} {k : Nat} {u0 u1 u2 u3 : Value} (h : ∀ c ∈ cs, c.length = 4) (hk : k < cs.length) : ((((cs.flatten.set (k * 4) u0).set (k * 4 + 1) u1).set (k * 4 + 2) u2).set (k * 4 + 3) u3) = (cs.set k [u0, u1, u2, u3]).flatten := by
  induction cs generalizing k with
  | nil => simp at hk
  | cons c r ih =>
    have hc := h c (by simp)
    match c, hc with
    | [a0, a1, a2, a3], _ =>
      cases k with
      | zero => rfl
      | succ k =>
        have := ih (k := k) (fun x hx => h x (by simp [hx])) (by simp at hk; omega)
        rw [List.set_cons_succ, List.flatten_cons, List.flatten_cons, ← this, show (k + 1) * 4 = k * 4 + 1 + 1 + 1 + 1 by omega]
        rfl
def set4 (w : World) (g k : Nat) (u0 u1 u2 u3 : Value) : World := (((w.setCell ⟨g, k * 4, none⟩ u0).setCell ⟨g, k * 4 + 1, none⟩ u1).setCell ⟨g, k * 4 + 2, none⟩ u2).setCell ⟨g, k * 4 + 3, none⟩ u3
theorem set4_other {w : World} {g k q : Nat} {u0 u1 u2 u3 : Value} (h : q ≠ g) : (set4 w g k u0 u1 u2 u3).heap[q]? = w.heap[q]? := by
  unfold set4
  rw [heap_setCell_other _ _ _ _ h, heap_setCell_other _ _ _ _ h, heap_setCell_other _ _ _ _ h, heap_setCell_other _ _ _ _ h]
theorem set4_size {w : World} {g k : Nat} {u0 u1 u2 u3 : Value} : (set4 w g k u0 u1 u2 u3).heap.size = w.heap.size := by
  unfold set4; rw [World.size_setCell, World.size_setCell, World.size_setCell, World.size_setCell]
theorem set4_own {w : World} {base g k n cap : Nat} {e : TypeId} {u0 u1 u2 u3 : Value} {cs : List (List Value)} (h : w.ownsRow base e 4 (.slice (some ⟨g, 0, none⟩) n cap) n cs.flatten) (hall : ∀ c ∈ cs, c.length = 4) (hk : k < cs.length) :
    (set4 w g k u0 u1 u2 u3).ownsRow base e 4 (.slice (some ⟨g, 0, none⟩) n cap) n (cs.set k [u0, u1, u2, u3]).flatten := by
  obtain ⟨o1, _⟩ := kit.own_set (j := k * 4) (u := u0) h
  obtain ⟨o2, _⟩ := kit.own_set (j := k * 4 + 1) (u := u1) o1
  obtain ⟨o3, _⟩ := kit.own_set (j := k * 4 + 2) (u := u2) o2
  obtain ⟨o4, _⟩ := kit.own_set (j := k * 4 + 3) (u := u3) o3
  rw [flat_set4 hall hk] at o4
  exact o4
theorem set4_KB {w : World} {g k : Nat} {u0 u1 u2 u3 : Value} {bs : List Nat} (hg : g ∈ bs) : KB bs w (set4 w g k u0 u1 u2 u3) :=
  ⟨⟨rfl, rfl, rfl⟩, by rw [set4_size]; exact Nat.le_refl _, fun j _ hn => set4_other (fun e => hn (e ▸ hg))⟩
theorem setRow_KB {w : World} {g : Nat} {cs : Array Value} : KB [g] w (w.setRow g cs) :=
  ⟨⟨rfl, rfl, rfl⟩, by rw [setRow_size]; exact Nat.le_refl _, fun j _ hn => setRow_other _ _ _ _ (fun e => hn (by simp [e]))⟩
theorem KB.ki {W W' : World} {bs : List Nat} (h : KB bs W W') (ht : ∀ b ∈ bs, ∃ arr, W.heap[b]? = some (.cells arr 25 (0, 0))) : KI W W' :=
  ⟨h.2.1, fun j arr fr hj => h.2.2 j (lt_of_block hj) (fun hm => by
    obtain ⟨arr', ha'⟩ := ht j hm
    rw [hj] at ha'
    simp only [Option.some.injEq, Obj.cells.injEq] at ha'
    exact absurd ha'.2.1 (by decide))⟩
theorem step_list {f : Cur → Cur} {xs : List Cur} {k : Nat} {y : Cur} (h : k < xs.length) (hy : y = xs.getD k default) : ((xs.map f).take k ++ xs.drop k).set k (f y) = (xs.map f).take (k + 1) ++ xs.drop (k + 1) := by
  have hl : ((xs.map f).take k).length = k := by rw [List.length_take, List.length_map]; omega
  have e : xs[k] = y := by rw [hy, List.getD_eq_getElem?_getD, List.getElem?_eq_getElem h]; rfl
  rw [List.drop_eq_getElem_cons h, e, List.set_append_right _ _ (by omega), hl, Nat.sub_self, List.set_cons_zero, List.take_succ_eq_append_getElem (by rw [List.length_map]; exact h), List.getElem_map, e]
  simp
theorem fwd_list {n : Int} {l : List Int} {p : Nat} : Cur.fwd n (.mk 1 l (p : Int) []) = .mk 1 l (((p + Cur.far n (l.drop p) : Nat)) : Int) [] := by
  rw [Cur.fwd_far, if_pos (by omega), Int.toNat_natCast]; simp
theorem fwd_kids' {n k : Int} {ks : List Cur} : Cur.fwd n (.mk k [] 0 ks) = .mk k [] 0 (ks.map (Cur.fwd n)) := by
  rw [Cur.fwd_far]; simp [Cur.far]
set_option maxHeartbeats 12800000 in
set_option maxRecDepth 100000 in
theorem skip_of (d : Nat) (n : Int) (HH : ∀ (x : Cur) (c : List Value) (w : World) (bs : List Nat), OT d w c x bs → x.Ok → Calls Try.prog 40 #[.agg c.toArray, .int .i64 n] w (SkA d (x.fwd n) bs w))
    (x : Cur) (c : List Value) (w : World) (bs : List Nat) (h : OT (d + 1) w c x bs) (ok : x.Ok) : Calls Try.prog 40 #[.agg c.toArray, .int .i64 n] w (SkA (d + 1) (x.fwd n) bs w) := by
  cases x with
  | mk xk xl xa xs =>
  obtain ⟨lo, ln, lc, ko, kn, kc, rfl, hA, hT, hK⟩ := h
  simp only [Cur.k, Cur.l, Cur.a, Cur.ks] at hA hK ⊢
  obtain ⟨hln, hln0, _⟩ := hA.cells
  have hlnm : ln ≤ 9223372036854775807 := by
    obtain ⟨_, _, _, _, hm, _⟩ := hA
    unfold maxLen at hm
    omega
  have hkn : kn = xs.length := by
    obtain ⟨_, _, e, _, _⟩ := hK.rows.form
    simp only [Value.slice.injEq] at e
    exact e.2.1
  have hknm : kn ≤ 9223372036854775807 := by
    obtain ⟨_, _, e, _, hm⟩ := hK.rows.form
    simp only [Value.slice.injEq] at e
    unfold maxLen at hm
    omega
  obtain ⟨W2, hW2⟩ : ∃ W, W = (w.alloc (.cells #[.int .i64 xk, .slice lo ln lc, .int .i64 xa, .slice ko kn kc] 25)).alloc (.cells #[.int .i64 0, .slice none 0 0, .int .i64 0, .slice none 0 0] 25) := ⟨_, rfl⟩
  have b2 : Below w.heap.size w W2 := by rw [hW2]; exact below1.trans (below1.mono (by simp))
  obtain ⟨q0, hq0⟩ : ∃ q, q = w.heap.size := ⟨_, rfl⟩
  have x2 : W2.heap[q0]? = some (.cells #[.int .i64 xk, .slice lo ln lc, .int .i64 xa, .slice ko kn kc] 25) := by
    rw [hW2]; exact (below1.block q0 (by rw [World.size_alloc, hq0]; omega)).trans (by rw [hq0]; exact heap_alloc_new _ _)
  have x3 : W2.heap[q0 + 1]? = some (.cells #[.int .i64 0, .slice none 0 0, .int .i64 0, .slice none 0 0] 25) := by
    have : q0 + 1 = (w.alloc (.cells #[.int .i64 xk, .slice lo ln lc, .int .i64 xa, .slice ko kn kc] 25)).heap.size := by rw [World.size_alloc, hq0]
    rw [hW2, this]; exact heap_alloc_new _ _
  have hz2 : W2.heap.size = q0 + 2 := by rw [hW2, World.size_alloc, World.size_alloc, hq0]
  have hbq : ∀ b ∈ bs, b < q0 := fun b hb => by
    obtain ⟨arr, ha⟩ := hK.typed b hb
    have := lt_of_block ha
    omega
  have HT2 := Lib.hid (hK.next b2)
  have HL2 := Lib.hid (list_keep hA hT (KI.below b2))
  have X2 := Lib.hid x2
  have X3 := Lib.hid x3
  have B2 := Lib.hid b2
  have HW2 := Lib.hid hW2
  have HQ0 := Lib.hid hq0
  have HZ2 := Lib.hid hz2
  have HBQ := Lib.hid hbq
  have HKN := Lib.hid hkn
  have HLN := Lib.hid hln
  have HH := Lib.hid HH
  have c0 := boxc x2 0 _ rfl
  have c3 := boxc x2 3 _ rfl
  by_cases k1 : xk = 1
  · subst k1
    obtain ⟨rfl, ha0, hal, h4, hrt⟩ := ok.list
    obtain ⟨p, rfl⟩ : ∃ p : Nat, xa = (p : Int) := ⟨xa.toNat, by omega⟩
    rw [fwd_list]
    obtain ⟨f, hf⟩ : ∃ f, f = Cur.far n (xl.drop p) := ⟨_, rfl⟩
    rw [← hf]
    have hfl : f ≤ ln - p := by have := Cur.far_le n (xl.drop p); rw [List.length_drop] at this; omega
    have HFI : Hid (∀ i, i ≤ f → (i < f ↔ p + i < ln ∧ xl.getD (p + i) 0 < n)) := by
      intro i hi
      rw [hf] at hi ⊢
      rw [Cur.far_iff n _ i hi, List.length_drop, getD_drop]
      constructor
      · rintro ⟨h1, h2⟩; exact ⟨by omega, h2⟩
      · rintro ⟨h1, h2⟩; exact ⟨by omega, h2⟩
    have hpl : p ≤ ln := by omega
    have hpf : p + f ≤ ln := by omega
    replace X2 : Hid (W2.heap[q0]? = some (.cells #[.int .i64 1, .slice lo ln lc, .int .i64 ((p + 0 : Nat) : Int), .slice ko kn kc] 25)) := X2
    have HLW : Hid (∀ W, Below w.heap.size w W → At W W.heap.size (.slice lo ln lc) xl) := fun W hW => (list_keep hA hT (KI.below hW)).1
    have HLT : Hid (∀ W, Below w.heap.size w W → TyI W lo ln) := fun W hW => (list_keep hA hT (KI.below hW)).2
    have HKW : Hid (∀ W, Below w.heap.size w W → OTs (OT d) W (.slice ko kn kc) [] bs) := fun W hW => hK.next hW
    clear hf hrt h4 hal ha0 hA hT hK hln hln0 hkn b2 x2 x3 hW2 hq0 hz2 hbq ok HH hfl
    go_enter Try.func40, Try.ntmps40
    go_wp2
    rw [← HW2.out, ← HQ0.out]
    clear c0 c3
    go_loopw [] (fun wr => ∃ i : Nat, i ≤ f ∧ Hid (wr.heap[q0]? = some (.cells #[.int .i64 1, .slice lo ln lc, .int .i64 ((p + i : Nat) : Int), .slice ko kn kc] 25)) ∧ Hid (wr.heap[q0 + 1]? = some (.cells #[.int .i64 0, .slice none 0 0, .int .i64 0, .slice none 0 0] 25)) ∧ Below q0 W2 wr) (fun wr => p + f - atOf wr q0)
    case atStart => exact ⟨0, Nat.zero_le _, X2, X3, Below.refl _ _⟩
    case round =>
      obtain ⟨i, hi, HX, HZ, hbl⟩ := hrel
      have HBL := Lib.hid hbl
      obtain ⟨s, hs⟩ : ∃ s, s = p + i := ⟨_, rfl⟩
      rw [← hs] at HX
      have c1 := boxc HX.out 1 _ rfl
      have c2 := boxc HX.out 2 _ rfl
      have f2 := boxf HX.out 2
      have hsl : s ≤ ln := by omega
      have hiff := HFI.out i hi
      rw [← hs] at hiff
      have HSE := Lib.hid hs
      have HMS : Hid (atOf wr q0 = s) := by
        show _ = _
        unfold atOf
        rw [c2]; simp
      have HXS := HX.out
      have hq0s := lt_of_block HXS
      have BWR : Hid (Below w.heap.size w wr) := B2.out.trans (by have := HQ0.out; rw [← this]; exact hbl)
      by_cases h1 : s < ln
      · have h1i : (s : Int) < (ln : Int) := by omega
        obtain ⟨lb, lf, rfl, hlc⟩ : ∃ b off, lo = some ⟨b, off, none⟩ ∧ wr.cell? ⟨b, off + s, none⟩ = some (.int .i64 (xl.getD s 0)) := by
          obtain ⟨ao, cap, e, _, _, ka⟩ := HLW.out wr BWR.out
          obtain ⟨b, o, rfl, hB, hcell⟩ := ka (by rw [← HLN.out]; omega)
          simp only [Value.slice.injEq] at e
          exact ⟨b, o, e.1, hcell s (by rw [← HLN.out]; exact h1)⟩
        obtain ⟨y, hy⟩ : ∃ y, y = xl.getD s 0 := ⟨_, rfl⟩
        rw [← hy] at hlc hiff
        clear hy HXS hs
        by_cases h2 : y < n
        · have hif : i < f := hiff.2 ⟨h1, h2⟩
          clear hiff
          have X9 : (wr.setCell ⟨q0, 2, none⟩ (.int .i64 ((s : Int) + 1))).heap[q0]? = some (.cells #[.int .i64 1, .slice (some ⟨lb, lf, none⟩) ln lc, .int .i64 ((s : Int) + 1), .slice ko kn kc] 25) := heap_setCell_same wr q0 2 _ _ _ HX.out
          have Z9 : (wr.setCell ⟨q0, 2, none⟩ (.int .i64 ((s : Int) + 1))).heap[q0 + 1]? = some (.cells #[.int .i64 0, .slice none 0 0, .int .i64 0, .slice none 0 0] 25) := (heap_setCell_other _ _ _ _ (by simp)).trans HZ.out
          have B9 : Below q0 W2 (wr.setCell ⟨q0, 2, none⟩ (.int .i64 ((s : Int) + 1))) := HBL.out.setCell (p := (⟨q0, 2, none⟩ : Addr)) (Nat.le_refl _) _
          have X9' := Lib.hid X9
          have Z9' := Lib.hid Z9
          have B9' := Lib.hid B9
          clear X9 Z9 B9 hbl
          go_wp2
          go_roundw
          case rel =>
            refine ⟨i + 1, hif, ?_, Z9', B9'.out⟩
            show _ = _
            rw [show p + (i + 1) = s + 1 by have := HSE.out; omega]
            exact X9'.out
          case measure =>
            have h5 : atOf (wr.setCell ⟨q0, 2, none⟩ (.int .i64 ((s : Int) + 1))) q0 = s + 1 := by
              unfold atOf
              rw [boxc X9'.out 2 _ rfl]
              show ((s : Int) + 1).toNat = s + 1
              omega
            have h6 := HMS.out
            have h7 := HSE.out
            simp only [h5, h6]
            omega
        · have hif : i = f := by
            rcases Nat.lt_or_ge i f with h | h
            · exact absurd (hiff.1 h).2 h2
            · omega
          clear hiff
          subst hif
          have c0 := boxc HX.out 0 _ rfl
          have c3 := boxc HX.out 3 _ rfl
          have ZZ := HZ.out
          go_wp2_with ((with_reducible show wpList _ _ _ (Oper.mk _ (Op.store 25 (.tmp 4) _) _ _ _ _ :: _) _ _); refine wpList_store_row rfl 25 (.tmp 4) _ rfl (q0 + 1) #[.int .i64 1, .slice (some ⟨lb, lf, none⟩) ln lc, .int .i64 (s : Int), .slice ko kn kc] rfl rfl 25 #[.int .i64 0, .slice none 0 0, .int .i64 0, .slice none 0 0] ZZ csize rfl (by simp [Value.oneCell']) ?_)
          have cc := setRow_heap _ (q0 + 1) _ #[.int .i64 1, .slice (some ⟨lb, lf, none⟩) ln lc, .int .i64 (s : Int), .slice ko kn kc] _ _ ZZ
          have bb := below_setRow BWR.out (g := q0 + 1) (by rw [HQ0.out]; omega) #[.int .i64 1, .slice (some ⟨lb, lf, none⟩) ln lc, .int .i64 (s : Int), .slice ko kn kc]
          obtain ⟨w9, h9⟩ : ∃ W, W = World.setRow wr (q0 + 1) #[.int .i64 1, .slice (some ⟨lb, lf, none⟩) ln lc, .int .i64 (s : Int), .slice ko kn kc] := ⟨_, rfl⟩
          rw [← h9] at cc bb ⊢
          clear h9 ZZ
          have k0 := boxc cc 0 _ rfl
          have k1 := boxc cc 1 _ rfl
          have k2 := boxc cc 2 _ rfl
          have k3 := boxc cc 3 _ rfl
          refine bodyPost_ret (v := .agg #[.int .i64 1, .slice (some ⟨lb, lf, none⟩) ln lc, .int .i64 (s : Int), .slice ko kn kc]) (by simp [results, Try.results40, go_sem, k0, k1, k2, k3]) rfl ?_
          refine ⟨[.int .i64 1, .slice (some ⟨lb, lf, none⟩) ln lc, .int .i64 (s : Int), .slice ko kn kc], rfl, ?_, KB.below bb⟩
          exact ⟨(some ⟨lb, lf, none⟩), ln, lc, ko, kn, kc, by rw [HSE.out]; rfl, HLW.out _ bb, HLT.out _ bb, HKW.out _ bb⟩
      · have h1i : ¬ (s : Int) < (ln : Int) := by omega
        have hif : i = f := by
          rcases Nat.lt_or_ge i f with h | h
          · exact absurd (hiff.1 h).1 h1
          · omega
        clear hiff HXS hs
        subst hif
        have c0 := boxc HX.out 0 _ rfl
        have c3 := boxc HX.out 3 _ rfl
        have ZZ := HZ.out
        go_wp2_with ((with_reducible show wpList _ _ _ (Oper.mk _ (Op.store 25 (.tmp 4) _) _ _ _ _ :: _) _ _); refine wpList_store_row rfl 25 (.tmp 4) _ rfl (q0 + 1) #[.int .i64 1, .slice lo ln lc, .int .i64 (s : Int), .slice ko kn kc] rfl rfl 25 #[.int .i64 0, .slice none 0 0, .int .i64 0, .slice none 0 0] ZZ csize rfl (by simp [Value.oneCell']) ?_)
        have cc := setRow_heap _ (q0 + 1) _ #[.int .i64 1, .slice lo ln lc, .int .i64 (s : Int), .slice ko kn kc] _ _ ZZ
        have bb := below_setRow BWR.out (g := q0 + 1) (by rw [HQ0.out]; omega) #[.int .i64 1, .slice lo ln lc, .int .i64 (s : Int), .slice ko kn kc]
        obtain ⟨w9, h9⟩ : ∃ W, W = World.setRow wr (q0 + 1) #[.int .i64 1, .slice lo ln lc, .int .i64 (s : Int), .slice ko kn kc] := ⟨_, rfl⟩
        rw [← h9] at cc bb ⊢
        clear h9 ZZ
        have k0 := boxc cc 0 _ rfl
        have k1 := boxc cc 1 _ rfl
        have k2 := boxc cc 2 _ rfl
        have k3 := boxc cc 3 _ rfl
        refine bodyPost_ret (v := .agg #[.int .i64 1, .slice lo ln lc, .int .i64 (s : Int), .slice ko kn kc]) (by simp [results, Try.results40, go_sem, k0, k1, k2, k3]) rfl ?_
        refine ⟨[.int .i64 1, .slice lo ln lc, .int .i64 (s : Int), .slice ko kn kc], rfl, ?_, KB.below bb⟩
        exact ⟨lo, ln, lc, ko, kn, kc, by rw [HSE.out]; rfl, HLW.out _ bb, HLT.out _ bb, HKW.out _ bb⟩
  · obtain ⟨hk, hk4, rfl, rfl, h20, hoks⟩ := ok.kids k1
    rw [fwd_kids']
    have HOK := Lib.hid hoks
    have k1b : (xk == 1) = false := beq_eq_false_iff_ne.2 k1
    obtain ⟨ksf, hksf⟩ : ∃ l, l = xs.map (Cur.fwd n) := ⟨_, rfl⟩
    rw [← hksf]
    have HKF := Lib.hid hksf
    have HLK : Hid (∀ W, KI w W → At W W.heap.size (.slice lo ln lc) [] ∧ TyI W lo ln) := fun W hW => list_keep hA hT hW
    have HTY := Lib.hid hK.typed
    clear hk hk4 h20 hoks ok hA hT hK hln hln0 hkn b2 x2 x3 hW2 hq0 hz2 hbq hksf
    go_enter Try.func40, Try.ntmps40
    go_wp2
    rw [← HW2.out, ← HQ0.out]
    clear c0 c3
    go_loopw [33, 47] (fun i _ wr => ∃ k : Nat, i = .int .i64 k ∧ k ≤ kn ∧ Hid (OTs (OT d) wr (.slice ko kn kc) (ksf.take k ++ xs.drop k) bs) ∧ KB bs W2 wr) (fun i _ _ => kn - (intOf i).toNat)
    case atStart => exact ⟨0, rfl, Nat.zero_le _, HT2, KB.refl⟩
    case round =>
      obtain ⟨k, rfl, hk, HI, hbl⟩ := hrel
      have HBL := Lib.hid hbl
      have XR := Lib.hid ((hbl.2.2 q0 (by rw [HZ2.out]; omega) (fun hm => by have := HBQ.out q0 hm; omega)).trans X2.out)
      have ZR := Lib.hid ((hbl.2.2 (q0 + 1) (by rw [HZ2.out]; omega) (fun hm => by have := HBQ.out _ hm; omega)).trans X3.out)
      clear hbl
      by_cases hlt : k < kn
      · have hkI : (k : Int) < (kn : Int) := by omega
        obtain ⟨cs, bss, g0, g1, g2, g3, g4, g5⟩ := HI.out
        have hlen : (ksf.take k ++ xs.drop k).length = kn := by
          rw [HKF.out, List.length_append, List.length_take, List.length_drop, List.length_map, ← HKN.out]; omega
        have hlk : k < (ksf.take k ++ xs.drop k).length := by omega
        obtain ⟨g, hgv, rfl⟩ : ∃ g, (Value.slice ko kn kc).ownBlock = some g ∧ ko = some ⟨g, 0, none⟩ := by
          rcases g3.2 with ⟨_, h⟩ | ⟨g, cap, cur, e, _⟩
          · omega
          · simp only [Value.slice.injEq] at e
            rw [e.1]; exact ⟨g, rfl, rfl⟩
        obtain ⟨cy, y, b', hc, hy, hb'⟩ := get3 g0 rfl g1 hlk
        have hyx : y = xs.getD k default := by
          rw [List.getElem?_append_right (by rw [List.length_take]; omega), List.getElem?_drop] at hy
          have e1 : k + (k - (ksf.take k).length) = k := by rw [List.length_take, HKF.out, List.length_map, ← HKN.out]; omega
          rw [e1] at hy
          rw [List.getD_eq_getElem?_getD, hy]; rfl
        have hym : y ∈ xs := by rw [hyx, List.getD_eq_getElem?_getD, List.getElem?_eq_getElem (by rw [← HKN.out]; exact hlt)]; exact List.getElem_mem _
        obtain ⟨h4, hOT⟩ := g2 k cy y b' hc hy hb'
        obtain ⟨lo3, ln3, lc3, ko3, kn3, kc3, rfl⟩ := hOT.form
        have hall : ∀ c ∈ cs, c.length = 4 := by
          intro c hc'
          obtain ⟨j, hj, rfl⟩ := List.mem_iff_getElem.1 hc'
          obtain ⟨c1, y1, b1, e1, e2, e3⟩ := get3 g0 rfl g1 (show j < _ by omega)
          rw [List.getElem?_eq_getElem hj] at e1
          cases e1
          exact (g2 j _ y1 b1 (List.getElem?_eq_getElem hj) e2 e3).1
        have hcell : ∀ i u, [Value.int .i64 y.k, .slice lo3 ln3 lc3, .int .i64 y.a, .slice ko3 kn3 kc3][i]? = some u → wr.cell? ⟨g, k * 4 + i, none⟩ = some u := by
          intro i u hu
          have hi : i < 4 := (List.getElem?_eq_some_iff.1 hu).1
          have h5 := g3.cells (g := g) rfl (k * 4 + i) u (by rw [flat_get cs hall k _ i hc hi]; exact hu)
          rw [Addr.add_lit, Nat.zero_add] at h5
          exact h5
        obtain ⟨ga, hga⟩ := (own_block g3 g hgv).2
        have hgb : g ∈ bs := by rw [g4]; simp [hgv]
        have hgq : g < q0 := HBQ.out g hgb
        have hb'b : ∀ b ∈ b', b ∈ bs := fun b hb => by rw [g4]; exact List.mem_append_right _ (List.mem_flatten.2 ⟨b', List.mem_of_getElem? hb', hb⟩)
        have hgb' : g ∉ b' := fun hm => by
          have h6 := g5
          rw [g4, List.nodup_append] at h6
          exact h6.2.2 g (by simp [hgv]) g (List.mem_flatten.2 ⟨b', List.mem_of_getElem? hb', hm⟩) rfl
        have q0' : wr.cell? ⟨g, k * 4, none⟩ = _ := hcell 0 _ rfl
        have q1 := hcell 1 _ rfl
        have q2 := hcell 2 _ rfl
        have q3 := hcell 3 _ rfl
        have HSR : Hid (wr.drew.cell? ⟨q0, 3, none⟩ = some (.slice (some ⟨g, 0, none⟩) kn kc)) := boxc XR.out 3 _ rfl
        have HOTD : Hid (OT d wr.drew [Value.int .i64 y.k, .slice lo3 ln3 lc3, .int .i64 y.a, .slice ko3 kn3 kc3] y b') := hOT.next (Below.refl _ _).drew
        have HC := Lib.hid (HH.out y _ wr.drew b' HOTD.out (HOK.out y hym))
        have HSK : Hid (∀ W, KB b' wr.drew W → W.cell? ⟨q0, 3, none⟩ = some (.slice (some ⟨g, 0, none⟩) kn kc)) := fun W hW => by
          have := hW.2.2 q0 (lt_of_block XR.out) (fun hm => by have := HBQ.out q0 (hb'b q0 hm); omega)
          exact boxc (this.trans XR.out) 3 _ rfl
        have HPUT : Hid (∀ wK lo6 ln6 lc6 ko6 kn6 kc6, KB b' wr.drew wK → OT d wK [Value.int .i64 (y.fwd n).k, .slice lo6 ln6 lc6, .int .i64 (y.fwd n).a, .slice ko6 kn6 kc6] (y.fwd n) b' →
            (OTs (OT d) (set4 wK g k (.int .i64 (y.fwd n).k) (.slice lo6 ln6 lc6) (.int .i64 (y.fwd n).a) (.slice ko6 kn6 kc6)) (.slice (some ⟨g, 0, none⟩) kn kc) (ksf.take (k + 1) ++ xs.drop (k + 1)) bs ∧ KB bs W2 (set4 wK g k (.int .i64 (y.fwd n).k) (.slice lo6 ln6 lc6) (.int .i64 (y.fwd n).a) (.slice ko6 kn6 kc6)))
            ∧ (set4 wK g k (.int .i64 (y.fwd n).k) (.slice lo6 ln6 lc6) (.int .i64 (y.fwd n).a) (.slice ko6 kn6 kc6)).cell? ⟨q0, 3, none⟩ = some (.slice (some ⟨g, 0, none⟩) kn kc) ∧ wK.heap[g]? = some (.cells ga 25 (0, 0)) ∧ (∀ i, i < 4 → (wK.cell? ⟨g, k * 4 + i, none⟩).isSome = true)) := by
          intro wK lo6 ln6 lc6 ko6 kn6 kc6 hKB0 TK
          have hKB : KB b' wr wK := (KB.below (bs := b') ((Below.refl _ _).drew)).trans hKB0 (fun x hx => Or.inl hx)
          have hgK : wK.heap[g]? = wr.heap[g]? := hKB.2.2 g (lt_of_block hga) hgb'
          have hOK : wK.ownsRow 0 25 4 (.slice (some ⟨g, 0, none⟩) kn kc) kn cs.flatten := by
            have g3' := g3
            rw [hlen] at g3'
            exact row_keep g3' (fun b hb => by
              obtain rfl : g = b := by simpa [Value.ownBlock] using hb
              exact hgK)
          refine ⟨⟨?_, ?_⟩, ?_, hgK.trans hga, fun i hi => ?_⟩
          · have hst := step_list (f := Cur.fwd n) (xs := xs) (k := k) (y := y) (by rw [← HKN.out]; exact hlt) hyx
            rw [← HKF.out] at hst
            rw [← hst]
            refine OTs.put g0 g1 g2 g3 g4 g5 hgv hlk hb' TK rfl hKB (by rw [set4_size]; exact Nat.le_refl _) (fun j hj => set4_other hj) ?_
            have h8 := set4_own (u0 := .int .i64 (y.fwd n).k) (u1 := .slice lo6 ln6 lc6) (u2 := .int .i64 (y.fwd n).a) (u3 := .slice ko6 kn6 kc6) hOK hall (show k < cs.length by omega)
            rw [hlen]; exact h8
          · exact ((HBL.out.trans hKB (fun x hx => Or.inl (hb'b x hx))).trans (set4_KB (bs := [g]) (by simp)) (fun x hx => Or.inl (by rw [List.mem_singleton.1 hx]; exact hgb)))
          · have := hKB.2.2 q0 (lt_of_block XR.out) (fun hm => by have := HBQ.out q0 (hb'b q0 hm); omega)
            exact boxc ((set4_other (by omega)).trans (this.trans XR.out)) 3 _ rfl
          · rw [World.cell?_of_block (w := wr) hgK]
            have hi4 : i < [Value.int .i64 y.k, .slice lo3 ln3 lc3, .int .i64 y.a, .slice ko3 kn3 kc3].length := hi
            rw [hcell i _ (List.getElem?_eq_getElem hi4)]; rfl
        clear hlen hcell hga hgb hgq hb'b hgb' g0 g1 g2 g3 g4 g5 hall h4 hOT hym hyx hlk hc hy hb' hgv
        go_wp2
        refine wp_region_order [(0, false), (1, false), (2, false), (3, false), (4, false), (5, false), (6, false), (8, false), (7, true), (9, true), (10, false), (11, true)] (fun W => W.cell? ⟨q0, 3, none⟩ = some (.slice (some ⟨g, 0, none⟩) kn kc)) (by kernel_rfl) (by kernel_rfl) ?_ (fun hS0 => ?_)
        · exact HSR.out
        try dsimp only at hS0
        refine HP.take ?_ rfl (by rfl) (fun w hSw => ?_) ?_
        rotate_left
        · (try dsimp only at hSw); go_simp; try with_reducible rfl
        try simp only [Act.put, List.setIfInBounds_toArray, List.set_cons_zero, List.set_cons_succ]
        refine HP.take ?_ rfl (by rfl) (fun w hSw => ?_) ?_
        rotate_left
        · (try dsimp only at hSw); go_simp; try with_reducible rfl
        try simp only [Act.put, List.setIfInBounds_toArray, List.set_cons_zero, List.set_cons_succ]
        refine HP.take ?_ rfl (by rfl) (fun w hSw => ?_) ?_
        rotate_left
        · (try dsimp only at hSw); go_simp; try with_reducible rfl
        try simp only [Act.put, List.setIfInBounds_toArray, List.set_cons_zero, List.set_cons_succ]
        refine HP.take ?_ rfl (by rfl) (fun w hSw => ?_) ?_
        rotate_left
        · (try dsimp only at hSw); go_simp; try with_reducible rfl
        try simp only [Act.put, List.setIfInBounds_toArray, List.set_cons_zero, List.set_cons_succ]
        refine HP.take ?_ rfl (by rfl) (fun w hSw => ?_) ?_
        rotate_left
        · (try dsimp only at hSw); go_simp; try with_reducible rfl
        try simp only [Act.put, List.setIfInBounds_toArray, List.set_cons_zero, List.set_cons_succ]
        refine HP.take ?_ rfl (by rfl) (fun w hSw => ?_) ?_
        rotate_left
        · (try dsimp only at hSw); go_simp; try with_reducible rfl
        try simp only [Act.put, List.setIfInBounds_toArray, List.set_cons_zero, List.set_cons_succ]
        refine HP.take ?_ rfl (by rfl) (fun w hSw => ?_) ?_
        rotate_left
        · (try dsimp only at hSw); go_simp; try with_reducible rfl
        try simp only [Act.put, List.setIfInBounds_toArray, List.set_cons_zero, List.set_cons_succ]
        refine HP.take ?_ rfl (by rfl) (fun w hSw => ?_) ?_
        rotate_left
        · (try dsimp only at hSw); go_simp; try with_reducible rfl
        try simp only [Act.put, List.setIfInBounds_toArray, List.set_cons_zero, List.set_cons_succ]
        refine HP.run rfl (by rfl) (fun K hK => ?_)
        go_simp
        refine hK.out _ _ ?_ (fun hS1 => ?_)
        · exact HSR.out
        clear hK K hS0
        try dsimp only at hS1
        try simp only [Act.put, List.setIfInBounds_toArray, List.set_cons_zero, List.set_cons_succ]
        refine HP.run rfl (by rfl) (fun K hK => ?_)
        go_simp
        (go_at_call 40; (with_reducible refine HC.out.mono ?_); rintro eK wK ⟨cK, rfl, TK, hKB⟩; obtain ⟨lo6, ln6, lc6, ko6, kn6, kc6, rfl⟩ := TK.form)
        try go_wp2_with fail
        refine hK.out _ _ ?_ (fun hS2 => ?_)
        · exact HSK.out _ hKB
        clear hK K hS1
        try dsimp only at hS2
        try simp only [Act.put, List.setIfInBounds_toArray, List.set_cons_zero, List.set_cons_succ]
        refine HP.take ?_ rfl (by rfl) (fun w hSw => ?_) ?_
        rotate_left
        · (try dsimp only at hSw); go_simp; try with_reducible rfl
        try simp only [Act.put, List.setIfInBounds_toArray, List.set_cons_zero, List.set_cons_succ]
        refine HP.run rfl (by rfl) (fun K hK => ?_)
        obtain ⟨⟨p1, p2⟩, p3, p4, p5⟩ := HPUT.out wK lo6 ln6 lc6 ko6 kn6 kc6 hKB TK
        have HI9 := Lib.hid p1
        have HB9 := Lib.hid p2
        have HSS := Lib.hid p3
        obtain ⟨r0, hr0⟩ := Option.isSome_iff_exists.1 (p5 0 (by omega))
        obtain ⟨r1, hr1⟩ := Option.isSome_iff_exists.1 (p5 1 (by omega))
        obtain ⟨r2, hr2⟩ := Option.isSome_iff_exists.1 (p5 2 (by omega))
        obtain ⟨r3, hr3⟩ := Option.isSome_iff_exists.1 (p5 3 (by omega))
        have f0 := boxf p4 (k * 4)
        have f1 := boxf p4 (k * 4 + 1)
        have f2 := boxf p4 (k * 4 + 2)
        have f3 := boxf p4 (k * 4 + 3)
        rw [Nat.add_zero] at hr0
        clear p1 p2 p3 p4 p5
        go_simp
        refine hK.out _ _ ?_ (fun hS3 => ?_)
        · exact HSS.out
        clear hK K hS2
        try dsimp only at hS3
        try simp only [Act.put, List.setIfInBounds_toArray, List.set_cons_zero, List.set_cons_succ]
        refine HP.done ?_
        try clear hS3
        go_wp2
        go_roundw
        case rel => exact ⟨k + 1, by go_num, by omega, HI9, HB9.out⟩
        case measure => simp [intOf]; omega
      · obtain rfl : k = kn := by omega
        have HI2 : Hid (OTs (OT d) wr (.slice ko k kc) ksf bs) := by
          have := HI.out
          rwa [List.take_of_length_le (by rw [HKF.out, List.length_map, ← HKN.out]; exact Nat.le_refl _), List.drop_eq_nil_of_le (by rw [← HKN.out]; exact Nat.le_refl _), List.append_nil] at this
        have c0 := boxc XR.out 0 _ rfl
        have c1 := boxc XR.out 1 _ rfl
        have c2 := boxc XR.out 2 _ rfl
        have c3 := boxc XR.out 3 _ rfl
        have ZZ := ZR.out
        go_wp2_with ((with_reducible show wpList _ _ _ (Oper.mk _ (Op.store 25 (.tmp 4) _) _ _ _ _ :: _) _ _); refine wpList_store_row rfl 25 (.tmp 4) _ rfl (q0 + 1) #[.int .i64 xk, .slice lo ln lc, .int .i64 0, .slice ko k kc] rfl rfl 25 #[.int .i64 0, .slice none 0 0, .int .i64 0, .slice none 0 0] ZZ csize rfl (by simp [Value.oneCell']) ?_)
        have cc := setRow_heap _ (q0 + 1) _ #[.int .i64 xk, .slice lo ln lc, .int .i64 0, .slice ko k kc] _ _ ZZ
        have kb : KB bs w (World.setRow wr (q0 + 1) #[.int .i64 xk, .slice lo ln lc, .int .i64 0, .slice ko k kc]) := ((KB.below B2.out).trans HBL.out (fun x hx => Or.inl hx)).trans setRow_KB (fun x hx => Or.inr (by rw [List.mem_singleton.1 hx]; have := HQ0.out; omega))
        have ki : KI wr (World.setRow wr (q0 + 1) #[.int .i64 xk, .slice lo ln lc, .int .i64 0, .slice ko k kc]) := setRow_KB.ki (fun b hb => by rw [List.mem_singleton.1 hb]; exact ⟨_, ZZ⟩)
        have ot := HI2.out.keep ki (fun b hb => setRow_other _ _ _ _ (by have := HBQ.out b hb; omega))
        obtain ⟨w9, h9⟩ : ∃ W, W = World.setRow wr (q0 + 1) #[.int .i64 xk, .slice lo ln lc, .int .i64 0, .slice ko k kc] := ⟨_, rfl⟩
        rw [← h9] at cc kb ki ot ⊢
        clear h9 ZZ
        have k0 := boxc cc 0 _ rfl
        have k1 := boxc cc 1 _ rfl
        have k2 := boxc cc 2 _ rfl
        have k3 := boxc cc 3 _ rfl
        refine bodyPost_ret (v := .agg #[.int .i64 xk, .slice lo ln lc, .int .i64 0, .slice ko k kc]) (by simp [results, Try.results40, go_sem, k0, k1, k2, k3]) rfl ?_
        obtain ⟨l1, l2⟩ := HLK.out w9 (kb.ki HTY.out)
        exact ⟨[.int .i64 xk, .slice lo ln lc, .int .i64 0, .slice ko k kc], rfl, ⟨lo, ln, lc, ko, k, kc, rfl, l1, l2, ot⟩, kb⟩
theorem skip_cu (n : Int) : ∀ (d : Nat) (x : Cur) (c : List Value) (w : World) (bs : List Nat), OT d w c x bs → x.Ok → Calls Try.prog 40 #[.agg c.toArray, .int .i64 n] w (SkA d (x.fwd n) bs w)
  | 0, _, _, _, _, h, _ => h.elim
  | d + 1, x, c, w, bs, h, ok => skip_of d n (fun x c w bs h ok => skip_cu n d x c w bs h ok) x c w bs h ok
end Go.Proofs.Ytojngbobecdpeaa
