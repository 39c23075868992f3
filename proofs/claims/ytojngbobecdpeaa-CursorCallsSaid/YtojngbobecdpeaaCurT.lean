/- cursors laid anew, the lists told apart by their types. -/
import Derived.Test.YtojngbobecdpeaaCurLaw0
namespace Go.Proofs.Ytojngbobecdpeaa
open Go Go.RowKit Go.ChangeShapes at_ pm cl
/-- a list lies in a block of numbers -/
def TyI (w : World) (lo : Option Addr) (ln : Nat) : Prop := 0 < ln → ∀ a, lo = some a → ∃ cs fr, w.heap[a.block]? = some (.cells cs 3 fr)
/-- as curR, the lists told apart by the types of their blocks -/
def curT : Nat → Rel Cur
  | 0 => fun _ _ _ _ => False
  | d + 1 => fun w B c x => ∃ (lo : Option Addr) (ln lc : Nat) (ko : Option Addr) (kn kc : Nat), c = [.int .i64 x.k, .slice lo ln lc, .int .i64 x.a, .slice ko kn kc] ∧ At w B (.slice lo ln lc) x.l ∧ TyI w lo ln ∧ RowsAt 4 (curT d) w B (.slice ko kn kc) x.ks
theorem curT.un : ∀ {d : Nat} {w : World} {B : Nat} {c : List Value} {x : Cur}, curT d w B c x → curR d w B c x
  | 0, _, _, _, _, h => h.elim
  | _ + 1, _, _, _, _, ⟨lo, ln, lc, ko, kn, kc, e, hl, _, hk⟩ => ⟨lo, ln, lc, ko, kn, kc, e, hl, rows_imp hk (fun _ _ h => h.un)⟩
theorem curT_steady : ∀ d, Steady (curT d)
  | 0 => fun _ _ _ _ _ _ h _ _ => h.elim
  | d + 1 => fun w w' B B' _ _ ⟨lo, ln, lc, ko, kn, kc, e, hl, ht, hk⟩ hb hB => by
    refine ⟨lo, ln, lc, ko, kn, kc, e, (hl.below hb).mono hB, fun h0 a ha => ?_, hk.below (curT_steady d) hb hB⟩
    obtain ⟨cs, fr, hc⟩ := ht h0 a ha
    obtain ⟨ao, cap, e2, _, _, h4⟩ := hl
    simp only [Value.slice.injEq] at e2
    obtain ⟨rfl, h5, rfl⟩ := e2
    obtain ⟨b, off, e3, hbB, _⟩ := h4 (by omega)
    rw [ha] at e3
    obtain rfl := Option.some.inj e3
    exact ⟨cs, fr, (hb.block b hbB).trans hc⟩
theorem fre_atT {w : World} {B : Nat} {v : Option Addr} {n c : Nat} {zs : List Int} (h : w.ownsRow B 3 1 (.slice v n c) n (i64s zs)) : Fre B w (fun W => At W W.heap.size (.slice v n c) zs ∧ TyI W v n) := by
  intro W' hs hk
  refine ⟨fre_at h W' hs hk, fun h0 a ha => ?_⟩
  rcases h.2 with ⟨e, _⟩ | ⟨g, cap, cur, e, hbg, hg, _⟩
  · simp only [Value.slice.injEq] at e
    omega
  · simp only [Value.slice.injEq] at e
    rw [e.1] at ha
    obtain rfl := Option.some.inj ha
    exact ⟨cur, _, (hk g hbg (lt_of_block hg) (by simp)).trans hg⟩
/-- an answer that is a cursor of the call's own -/
def CurAT (d : Nat) (x : Cur) (w : World) (e : Ending) (w' : World) : Prop :=
  ∃ c', e = .returned (.agg (List.toArray c')) ∧ Fre w.heap.size w' (fun W => curT d W W.heap.size c' x) ∧ Below w.heap.size w w'
/-- cursors of the call's own -/
def CursAT (d : Nat) (l : List Cur) (w : World) (e : Ending) (w' : World) : Prop :=
  ∃ ao cap, e = .returned (.slice ao l.length cap) ∧ Fre w.heap.size w' (fun W => RowsAt 4 (curT d) W W.heap.size (.slice ao l.length cap) l) ∧ Below w.heap.size w w'
set_option maxHeartbeats 3200000 in
set_option maxRecDepth 100000 in
theorem from_ofT (d : Nat) (n : Int) (HF : ∀ (x : Cur) (c : List Value) (w : World), curR d w w.heap.size c x → x.sm → Calls Try.prog 38 #[.agg c.toArray, .int .i64 n] w (CurAT d (x.fwd n) w))
    (l : List Cur) (v : Value) (w : World) (h : RowsAt 4 (curR d) w w.heap.size v l) (hs : ∀ c ∈ l, c.sm) (hl : l.length ≤ 200000) :
    Calls Try.prog 41 #[v, .int .i64 n] w (CursAT d (l.map (Cur.fwd n)) w) := by
  obtain ⟨m, hm⟩ : ∃ m, m = l.length := ⟨_, rfl⟩
  obtain ⟨ao, cap, rfl, hnc, _⟩ := h.form' hm
  have HL := Lib.hid h
  have HM := Lib.hid hm
  have HS := Lib.hid hs
  have HH := Lib.hid HF
  rw [← hm] at hl
  clear h hm hs HF
  go_enter Try.func41, Try.ntmps41
  go_wp2
  go_loopw [5, 10, 20] (fun r i _ wr => ∃ k : Nat, i = .int .i64 k ∧ k ≤ m ∧ (∃ ro rc, r = .slice ro k rc ∧ Hid (∃ cs : List (List Value), cs.length = k ∧ (∀ (j : Nat) (c : List Value) (x : Cur), cs[j]? = some c → ((l.map (Cur.fwd n)).take k)[j]? = some x → FreA w.heap.size (Value.slice ro k rc).ownBlock wr (fun W => c.length = 4 ∧ curT d W W.heap.size c x)) ∧ wr.ownsRow w.heap.size 25 4 (.slice ro k rc) k cs.flatten)) ∧ Below w.heap.size w wr) (fun _ i _ _ => m - (intOf i).toNat)
  case atStart => exact ⟨0, rfl, by omega, ⟨none, 0, rfl, [], rfl, fun j c x hc => by simp at hc, World.ownsRow_nil _ _ _ _⟩, Below.refl _ _⟩
  case round =>
    obtain ⟨k, rfl, hk, ⟨ro, rc, rfl, HI⟩, hbl⟩ := hrel
    by_cases hlt : k < m
    · have hkI : (k : Int) < (m : Int) := by omega
      obtain ⟨x, hx⟩ : ∃ x, x = l.getD k default := ⟨_, rfl⟩
      obtain ⟨ba, oa, c, rfl, hbB, hcl, hR, hC⟩ := (HL.out.next (curR_steady d) hbl).get HM.out hlt default
      rw [← hx] at hR
      obtain ⟨lo, ln, lc, ko, kn, kc, rfl⟩ := cur_form hR
      have q0 : wr.cell? ⟨ba, oa + k * 4, none⟩ = _ := hC 0 _ rfl
      have q1 := hC 1 _ rfl
      have q2 := hC 2 _ rfl
      have q3 := hC 3 _ rfl
      obtain ⟨W2, hW2⟩ : ∃ W, W = wr.alloc (.cells #[.int .i64 x.k, .slice lo ln lc, .int .i64 x.a, .slice ko kn kc] 25) := ⟨_, rfl⟩
      have b2 : Below wr.heap.size wr W2 := by rw [hW2]; exact below1
      have hxm : x.sm := by
        have hkl : k < l.length := by rw [← HM.out]; exact hlt
        refine HS.out x ?_
        rw [hx, List.getD_eq_getElem?_getD, List.getElem?_eq_getElem hkl]
        exact List.getElem_mem _
      have HC := Lib.hid (HH.out x _ W2 (curR_steady d _ _ _ _ _ _ hR b2 b2.size) hxm)
      have B2 := Lib.hid b2
      have HX := Lib.hid hx
      have HW2 := Lib.hid hW2
      have HBL := Lib.hid hbl
      clear hR hC hx hcl hbB b2 hW2 hxm hbl
      go_wp2_with fail
      rw [← HW2.out]
      (with_reducible refine HC.out.mono ?_)
      rintro e w3 ⟨c', rfl, hF, b3⟩
      obtain ⟨lo', ln', lc', ko', kn', kc', rfl⟩ := cur_form hF.at.un
      obtain ⟨cs, h0, hE, hO⟩ := HI.out
      have b3' : Below wr.heap.size wr w3 := B2.out.trans (b3.mono B2.out.size)
      have HO := Lib.hid (own_stay hO b3')
      have HE : Hid (∀ (j : Nat) (c : List Value) (x : Cur), cs[j]? = some c → ((l.map (Cur.fwd n)).take k)[j]? = some x → FreA w.heap.size (Value.slice ro k rc).ownBlock w3 (fun W => c.length = 4 ∧ curT d W W.heap.size c x)) := fun j c x hc hx => (hE j c x hc hx).next b3'
      have hv : ∀ b, (Value.slice ro k rc).ownBlock = some b → b < W2.heap.size ∨ w3.heap.size ≤ b := by
        intro b hb
        left
        rcases hO.2 with ⟨e, _⟩ | ⟨g, cap, cur, e, hbg, hg, _⟩
        · simp only [Value.slice.injEq] at e
          rw [e.1] at hb
          simp [Value.ownBlock] at hb
        · simp only [Value.slice.injEq] at e
          rw [e.1] at hb
          simp only [Value.ownBlock, Option.some.injEq] at hb
          have := lt_of_block hg
          have := B2.out.size
          omega
      have HN : Hid (FreA w.heap.size (Value.slice ro k rc).ownBlock w3 (fun W => [Value.int .i64 (x.fwd n).k, .slice lo' ln' lc', .int .i64 (x.fwd n).a, .slice ko' kn' kc'].length = 4 ∧ curT d W W.heap.size [.int .i64 (x.fwd n).k, .slice lo' ln' lc', .int .i64 (x.fwd n).a, .slice ko' kn' kc'] (x.fwd n))) :=
        ((FreA.off hF hv).low (Nat.le_trans HBL.out.size B2.out.size)).imp (fun W h => ⟨rfl, h⟩)
      have H0 := Lib.hid h0
      have B3 := Lib.hid (HBL.out.trans (b3'.mono HBL.out.size))
      obtain ⟨zk, hzk⟩ : ∃ z, z = (x.fwd n).k := ⟨_, rfl⟩
      obtain ⟨za, hza⟩ : ∃ z, z = (x.fwd n).a := ⟨_, rfl⟩
      rw [← hzk, ← hza] at HN ⊢
      have HSZ : Hid (w.heap.size ≤ w3.heap.size) := B3.out.size
      clear hF hE hO b3 b3' hv h0 hzk hza
      go_wp2_with (at_builtin; refine kit.app1k w3.heap.size rfl (.tmp 14) (.tmp 18) 23 rfl rfl w.heap.size Try.underlying23 infoCur rfl (by decide) (by decide) HO.out rfl rfl rfl (by simp [Value.oneCell']) (by omega) HSZ.out ?_; intro v4 w4 hO4 hg4 hb4)
      obtain ⟨ro4, rc4, rfl⟩ := own_slice hO4
      have hkl : k < (l.map (Cur.fwd n)).length := by rw [List.length_map, ← HM.out]; exact hlt
      have hel : (l.map (Cur.fwd n))[k] = x.fwd n := by rw [List.getElem_map, HX.out, List.getD_eq_getElem?_getD, List.getElem?_eq_getElem (by rw [← HM.out]; exact hlt)]; rfl
      have HI4 : Hid (∃ cs : List (List Value), cs.length = k + 1 ∧ (∀ (j : Nat) (c : List Value) (x : Cur), cs[j]? = some c → ((l.map (Cur.fwd n)).take (k + 1))[j]? = some x → FreA w.heap.size (Value.slice ro4 (k + 1) rc4).ownBlock w4 (fun W => c.length = 4 ∧ curT d W W.heap.size c x)) ∧ w4.ownsRow w.heap.size 25 4 (.slice ro4 (k + 1) rc4) (k + 1) cs.flatten) := by
        refine ⟨cs ++ [[.int .i64 zk, .slice lo' ln' lc', .int .i64 za, .slice ko' kn' kc']], by rw [List.length_append, H0.out]; rfl, ?_, by rw [List.flatten_append, List.flatten_cons, List.flatten_nil, List.append_nil]; exact hO4⟩
        rw [List.take_succ_eq_append_getElem hkl, hel]
        refine snoc_fre (Q := fun c x => FreA w.heap.size (Value.slice ro4 (k + 1) rc4).ownBlock w4 (fun W => c.length = 4 ∧ curT d W W.heap.size c x)) (by rw [H0.out, List.length_take]; omega) (fun j c x hc hx => ((HE.out j c x hc hx).next below1).grown hg4 hb4) ((HN.out.next below1).grown hg4 hb4)
      have HB4 : Hid (Below w.heap.size w w4) := B3.out.trans (app_below HO.out B3.out.size hg4)
      clear hO4 hg4 hb4 hel hkl
      go_wp2
      go_roundw
      case rel => exact ⟨k + 1, by go_num, by omega, ⟨ro4, rc4, rfl, HI4⟩, HB4.out⟩
      case measure => simp [intOf]; omega
    · obtain rfl : k = m := by omega
      have HBL := Lib.hid hbl
      clear hbl
      go_wp2
      go_ret
      obtain ⟨cs, h0, hE, hO⟩ := HI.out
      have hml : k = (l.map (Cur.fwd n)).length := by rw [List.length_map]; exact HM.out
      refine ⟨ro, rc, by rw [← hml]; rfl, ?_, HBL.out⟩
      rw [← hml]
      exact RowsAt.fre (by rw [h0]; exact hml) hml (fun j c x hc hx => hE j c x hc (by rw [List.take_of_length_le (by omega)]; exact hx)) hO
set_option maxHeartbeats 6400000 in
set_option maxRecDepth 100000 in
theorem forth_ofT (d : Nat) (n : Int) (HF : ∀ (l : List Cur) (v : Value) (w : World), RowsAt 4 (curR d) w w.heap.size v l → (∀ c ∈ l, c.sm) → l.length ≤ 200000 → Calls Try.prog 41 #[v, .int .i64 n] w (CursAT d (l.map (Cur.fwd n)) w))
    (x : Cur) (c : List Value) (w : World) (h : curR (d + 1) w w.heap.size c x) (hs : x.sm) :
    Calls Try.prog 38 #[.agg c.toArray, .int .i64 n] w (CurAT (d + 1) (x.fwd n) w) := by
  cases x with
  | mk xk xl xa xs =>
  rw [Cur.fwd_far]
  obtain ⟨lo, ln, lc, ko, kn, kc, rfl, hA, hR⟩ := h
  rw [Cur.sm_iff] at hs
  simp only [Cur.k, Cur.l, Cur.a, Cur.ks] at hA hR ⊢
  obtain ⟨s1, s2, s3⟩ := hs
  obtain ⟨hln, _, hcell⟩ := hA.cells
  have hkn : kn = xs.length := by
    obtain ⟨_, _, e, _, _⟩ := hR.form
    simp only [Value.slice.injEq] at e
    exact e.2.1
  obtain ⟨W2, hW2⟩ : ∃ W, W = (w.alloc (.cells #[.int .i64 xk, .slice lo ln lc, .int .i64 xa, .slice ko kn kc] 25)).alloc (.cells #[.int .i64 0, .slice none 0 0, .int .i64 0, .slice none 0 0] 25) := ⟨_, rfl⟩
  have b2 : Below w.heap.size w W2 := by rw [hW2]; exact below1.trans (below1.mono (by simp))
  obtain ⟨q0, hq0⟩ : ∃ q, q = w.heap.size := ⟨_, rfl⟩
  have x2 : W2.heap[q0]? = some (.cells #[.int .i64 xk, .slice lo ln lc, .int .i64 xa, .slice ko kn kc] 25) := by
    rw [hW2]; exact (below1.block q0 (by rw [World.size_alloc, hq0]; omega)).trans (by rw [hq0]; exact heap_alloc_new _ _)
  have x4 : W2.heap[q0 + 1]? = some (.cells #[.int .i64 0, .slice none 0 0, .int .i64 0, .slice none 0 0] 25) := by
    have : q0 + 1 = (w.alloc (.cells #[.int .i64 xk, .slice lo ln lc, .int .i64 xa, .slice ko kn kc] 25)).heap.size := by rw [World.size_alloc, hq0]
    rw [hW2, this]; exact heap_alloc_new _ _
  have hz : W2.heap.size = q0 + 2 := by rw [hW2, World.size_alloc, World.size_alloc, hq0]
  have HCL : Hid (∀ W, Below W2.heap.size W2 W → Calls Try.prog 42 #[.slice lo ln lc] W (Owned xl W)) := fun W hW => clone_any xl _ W ((hA.below (b2.trans (hW.mono b2.size))).mono (Nat.le_trans b2.size hW.size)) s1
  have HFR : Hid (∀ W, Below W2.heap.size W2 W → Calls Try.prog 41 #[.slice ko kn kc, .int .i64 n] W (CursAT d (xs.map (Cur.fwd n)) W)) := fun W hW => HF xs _ W (hR.next (curR_steady d) (b2.trans (hW.mono b2.size))) s3 (by omega)
  have HCE : Hid (∀ p : Nat, p < ln → ∃ ba oa, lo = some ⟨ba, oa, none⟩ ∧ ∀ W, Below W2.heap.size W2 W → W.cell? ⟨ba, oa + p, none⟩ = some (.int .i64 (xl.getD p 0))) := by
    intro p hp
    obtain ⟨ao, cap, e, _, _, ka⟩ := hA
    obtain ⟨ba, oa, rfl, hB, hc⟩ := ka (by omega)
    simp only [Value.slice.injEq] at e
    refine ⟨ba, oa, e.1, fun W hW => ((b2.trans (hW.mono b2.size)).cell (p := ⟨ba, oa + p, none⟩) hB).trans (hc p (by omega))⟩
  have X2 := Lib.hid x2
  have X4 := Lib.hid x4
  have B2 := Lib.hid b2
  have HW2 := Lib.hid hW2
  have HQ0 := Lib.hid hq0
  have HZ := Lib.hid hz
  have HLN := Lib.hid hln
  have hl1 : ln ≤ 100000 := by rw [hln]; exact s1
  obtain ⟨af, haf⟩ : ∃ z, z = (if 0 ≤ xa then xa + (Cur.far n (xl.drop xa.toNat) : Int) else xa) := ⟨_, rfl⟩
  rw [← haf]
  have HAF := Lib.hid haf
  obtain ⟨ks', hks'⟩ : ∃ z, z = xs.map (Cur.fwd n) := ⟨_, rfl⟩
  rw [← hks'] at HFR ⊢
  clear hA hR s1 s2 s3 hcell hkn x2 x4 hz b2 hW2 hq0 hln haf hks' HF
  have c2 := boxc X2.out 2 _ rfl
  go_enter Try.func38, Try.ntmps38
  go_wp2
  rw [← HW2.out, ← HQ0.out]
  clear c2
  go_loopw [5] (fun r wr => wr = W2 ∧ ∃ z : Int, r = .int .i64 z ∧ ((0 ≤ xa ∧ ∃ q : Nat, z = xa + q ∧ Hid (q ≤ Cur.far n (xl.drop xa.toNat))) ∨ (xa < 0 ∧ z = xa))) (fun r _ => ln + 1 - (intOf r).toNat)
  case atStart => exact ⟨rfl, xa, rfl, by
    by_cases h : 0 ≤ xa
    · exact Or.inl ⟨h, 0, by omega, Nat.zero_le _⟩
    · exact Or.inr ⟨by omega, rfl⟩⟩
  case round =>
    obtain ⟨rfl, z, rfl, hz⟩ := hrel
    have c1 := boxc X2.out 1 _ rfl
    by_cases hgo : 0 ≤ z ∧ z < (ln : Int) ∧ xl.getD z.toNat 0 < n
    · obtain ⟨h0, h1, h2⟩ := hgo
      obtain ⟨p, rfl⟩ : ∃ p : Nat, z = (p : Int) := ⟨z.toNat, by omega⟩
      rw [Int.toNat_natCast] at h2
      obtain ⟨ba, oa, rfl, hce⟩ := HCE.out p (by omega)
      have ce := hce wr (Below.refl _ _)
      obtain ⟨y, hy⟩ : ∃ y, y = xl.getD p 0 := ⟨_, rfl⟩
      rw [← hy] at ce h2
      have HY := Lib.hid hy
      have hpn : p < ln := by omega
      have HNX : Hid ((0 ≤ xa ∧ ∃ q : Nat, ((p + 1 : Nat) : Int) = xa + q ∧ Hid (q ≤ Cur.far n (xl.drop xa.toNat))) ∨ (xa < 0 ∧ ((p + 1 : Nat) : Int) = xa)) := by
        rcases hz with ⟨ha, q, hq, hf⟩ | ⟨ha, hq⟩
        · refine Or.inl ⟨ha, q + 1, by omega, ?_⟩
          have hi := (Cur.far_iff n (xl.drop xa.toNat) q hf.out).2 ⟨by rw [List.length_drop, ← HLN.out]; omega, by rw [getD_drop, show xa.toNat + q = p by omega, ← HY.out]; exact h2⟩
          exact hi
        · omega
      clear hz hce hy
      go_wp2
      go_roundw
      case rel => exact ⟨by first | rfl | trivial, ((p + 1 : Nat) : Int), by go_num, HNX.out⟩
      case measure => simp [intOf]; omega
    · have HEND : Hid (z = af) := by
        show z = af
        rw [HAF.out]
        rcases hz with ⟨ha, q, hq, hf⟩ | ⟨ha, hq⟩
        · rw [if_pos ha, hq]
          have hi := Cur.far_iff n (xl.drop xa.toNat) q hf.out
          have hle := hf.out
          have : ¬ q < Cur.far n (xl.drop xa.toNat) := by
            intro hlt
            obtain ⟨g1, g2⟩ := hi.1 hlt
            rw [List.length_drop, ← HLN.out] at g1
            rw [getD_drop] at g2
            exact hgo ⟨by omega, by omega, by rw [show z.toNat = xa.toNat + q by omega]; exact g2⟩
          omega
        · rw [if_neg (by omega), hq]
      clear hz
      by_cases hz0 : 0 ≤ z
      · by_cases hzl : z < (ln : Int)
        · obtain ⟨p, rfl⟩ : ∃ p : Nat, z = (p : Int) := ⟨z.toNat, by omega⟩
          rw [Int.toNat_natCast] at hgo
          obtain ⟨ba, oa, rfl, hce⟩ := HCE.out p (by omega)
          have ce := hce wr (Below.refl _ _)
          obtain ⟨y, hy⟩ : ∃ y, y = xl.getD p 0 := ⟨_, rfl⟩
          rw [← hy] at ce hgo
          have h2 : ¬ y < n := fun h => hgo ⟨hz0, hzl, h⟩
          have hpn : p < ln := by omega
          clear hgo hce hy
          go_wp2
          clear c1 ce
          refine wp_flow 11 (fun _ => 1000) (fun ww => RowKit.Below wr.heap.size wr ww) (fun _ w w' => (fun (w w' : World) => RowKit.Below w.heap.size w w') w w') (fun kF vF wF => match kF with | 0 => (vF = .pointer (some ⟨q0, 0, none⟩)) | 1 => (vF = .int .i64 xk) | 2 => (vF = .pointer (some ⟨q0, 1, none⟩)) | 3 => (vF = .slice (some ⟨ba, oa, none⟩) ln lc) | 4 => (∃ lo2 lc2, vF = .slice lo2 ln lc2 ∧ Fre wr.heap.size wF (fun W => At W W.heap.size (.slice lo2 ln lc2) xl ∧ TyI W lo2 ln)) | 5 => (vF = .int .i64 (p : Int)) | 6 => (vF = .pointer (some ⟨q0, 3, none⟩)) | 7 => (vF = .slice ko kn kc) | 8 => (vF = .int .i64 n) | 9 => (∃ ko2 kn2 kc2, vF = .slice ko2 kn2 kc2 ∧ Fre wr.heap.size wF (fun W => RowsAt 4 (curT d) W W.heap.size (.slice ko2 kn2 kc2) ks')) | 10 => (∃ lo2 lc2 ko2 kn2 kc2, vF = .agg #[.int .i64 xk, .slice lo2 ln lc2, .int .i64 (p : Int), .slice ko2 kn2 kc2] ∧ Fre wr.heap.size wF (fun W => At W W.heap.size (.slice lo2 ln lc2) xl ∧ TyI W lo2 ln) ∧ Fre wr.heap.size wF (fun W => RowsAt 4 (curT d) W W.heap.size (.slice ko2 kn2 kc2) ks')) | _ => True) (fun _ _ _ _ => True) (by kernel_rfl) (by kernel_rfl) ?_ ?_ ?_ ?_ ?_
          · exact (Below.refl _ _).drew
          · intro iF wF1 wF2 hR hT; exact hR.trans (hT.mono hR.size)
          · intro kF hkF iF hiF hne hdd hanc hdan vF wF1 wF2 h hT
            rcases (by omega : kF = 0 ∨ kF = 1 ∨ kF = 2 ∨ kF = 3 ∨ kF = 4 ∨ kF = 5 ∨ kF = 6 ∨ kF = 7 ∨ kF = 8 ∨ kF = 9 ∨ kF = 10) with rfl | rfl | rfl | rfl | rfl | rfl | rfl | rfl | rfl | rfl | rfl
            · exact h
            · exact h
            · exact h
            · exact h
            · have h : (∃ lo2 lc2, vF = .slice lo2 ln lc2 ∧ Fre wr.heap.size wF1 (fun W => At W W.heap.size (.slice lo2 ln lc2) xl ∧ TyI W lo2 ln)) := h
              show (∃ lo2 lc2, vF = .slice lo2 ln lc2 ∧ Fre wr.heap.size wF2 (fun W => At W W.heap.size (.slice lo2 ln lc2) xl ∧ TyI W lo2 ln))
              have hT : (fun (w w' : World) => RowKit.Below w.heap.size w w') wF1 wF2 := hT
              simp only at hT
              obtain ⟨a, b, e, hf⟩ := h
              exact ⟨a, b, e, FreA.next hf hT⟩
            · exact h
            · exact h
            · exact h
            · exact h
            · have h : (∃ ko2 kn2 kc2, vF = .slice ko2 kn2 kc2 ∧ Fre wr.heap.size wF1 (fun W => RowsAt 4 (curT d) W W.heap.size (.slice ko2 kn2 kc2) ks')) := h
              show (∃ ko2 kn2 kc2, vF = .slice ko2 kn2 kc2 ∧ Fre wr.heap.size wF2 (fun W => RowsAt 4 (curT d) W W.heap.size (.slice ko2 kn2 kc2) ks'))
              have hT : (fun (w w' : World) => RowKit.Below w.heap.size w w') wF1 wF2 := hT
              simp only at hT
              obtain ⟨a, b, c, e, hf⟩ := h
              exact ⟨a, b, c, e, FreA.next hf hT⟩
            · have h : (∃ lo2 lc2 ko2 kn2 kc2, vF = .agg #[.int .i64 xk, .slice lo2 ln lc2, .int .i64 (p : Int), .slice ko2 kn2 kc2] ∧ Fre wr.heap.size wF1 (fun W => At W W.heap.size (.slice lo2 ln lc2) xl ∧ TyI W lo2 ln) ∧ Fre wr.heap.size wF1 (fun W => RowsAt 4 (curT d) W W.heap.size (.slice ko2 kn2 kc2) ks')) := h
              show (∃ lo2 lc2 ko2 kn2 kc2, vF = .agg #[.int .i64 xk, .slice lo2 ln lc2, .int .i64 (p : Int), .slice ko2 kn2 kc2] ∧ Fre wr.heap.size wF2 (fun W => At W W.heap.size (.slice lo2 ln lc2) xl ∧ TyI W lo2 ln) ∧ Fre wr.heap.size wF2 (fun W => RowsAt 4 (curT d) W W.heap.size (.slice ko2 kn2 kc2) ks'))
              have hT : (fun (w w' : World) => RowKit.Below w.heap.size w w') wF1 wF2 := hT
              simp only at hT
              obtain ⟨a, b, c, f, g, e, hf, hg⟩ := h
              exact ⟨a, b, c, f, g, e, FreA.next hf hT, FreA.next hg hT⟩
          · generalize hAF : fillOf _ _ _ = AF
            replace hAF := fun x => congrFun hAF x
            simp only [List.take_succ_cons, List.take_zero, fillOf, Act.put, List.setIfInBounds_toArray, List.set_cons_zero, List.set_cons_succ, Nat.reduceAdd, Nat.zero_add] at hAF
            refine FlowAll.cons ?_ ?_
            · intro xF wx hR hd K hK
              clear hd
              simp only [← hAF, Act.put, List.setIfInBounds_toArray, List.set_cons_zero, List.set_cons_succ] at hK ⊢
              clear hAF
              try simp only [Nat.zero_add] at hK ⊢
              try simp only [Nat.reduceAdd] at hK ⊢
              obtain hbR := id hR
              rw [if_pos (by rfl)]
              go_simp
              exact hK.out _ _ (Below.refl _ _) (rfl) (fun _ _ _ => ⟨trivial, trivial⟩)
            refine FlowAll.cons ?_ ?_
            · intro xF wx hR hd K hK
              have dd0 : ((xF 0) = .pointer (some ⟨q0, 0, none⟩)) := hd 0 (by kernel_rfl)
              clear hd
              simp only [← hAF, Act.put, List.setIfInBounds_toArray, List.set_cons_zero, List.set_cons_succ] at hK ⊢
              clear hAF
              try simp only [Nat.zero_add] at hK ⊢
              try simp only [Nat.reduceAdd] at hK ⊢
              try generalize xF 0 = yy0 at *
              obtain rfl := dd0
              obtain hbR := id hR
              have hxa := (hbR.block _ (lt_of_block X2.out)).trans X2.out
              have c0 := boxc hxa 0 _ rfl
              clear hxa
              rw [if_pos (by rfl)]
              go_simp
              exact hK.out _ _ (Below.refl _ _) (rfl) (fun _ _ _ => ⟨trivial, trivial⟩)
            refine FlowAll.cons ?_ ?_
            · intro xF wx hR hd K hK
              clear hd
              simp only [← hAF, Act.put, List.setIfInBounds_toArray, List.set_cons_zero, List.set_cons_succ] at hK ⊢
              clear hAF
              try simp only [Nat.zero_add] at hK ⊢
              try simp only [Nat.reduceAdd] at hK ⊢
              obtain hbR := id hR
              rw [if_pos (by rfl)]
              go_simp
              exact hK.out _ _ (Below.refl _ _) (rfl) (fun _ _ _ => ⟨trivial, trivial⟩)
            refine FlowAll.cons ?_ ?_
            · intro xF wx hR hd K hK
              have dd2 : ((xF 2) = .pointer (some ⟨q0, 1, none⟩)) := hd 2 (by kernel_rfl)
              clear hd
              simp only [← hAF, Act.put, List.setIfInBounds_toArray, List.set_cons_zero, List.set_cons_succ] at hK ⊢
              clear hAF
              try simp only [Nat.zero_add] at hK ⊢
              try simp only [Nat.reduceAdd] at hK ⊢
              try generalize xF 2 = yy2 at *
              obtain rfl := dd2
              obtain hbR := id hR
              have hxa := (hbR.block _ (lt_of_block X2.out)).trans X2.out
              have c0 := boxc hxa 1 _ rfl
              clear hxa
              rw [if_pos (by rfl)]
              go_simp
              exact hK.out _ _ (Below.refl _ _) (rfl) (fun _ _ _ => ⟨trivial, trivial⟩)
            refine FlowAll.cons ?_ ?_
            · intro xF wx hR hd K hK
              have dd3 : ((xF 3) = .slice (some ⟨ba, oa, none⟩) ln lc) := hd 3 (by kernel_rfl)
              clear hd
              simp only [← hAF, Act.put, List.setIfInBounds_toArray, List.set_cons_zero, List.set_cons_succ] at hK ⊢
              clear hAF
              try simp only [Nat.zero_add] at hK ⊢
              try simp only [Nat.reduceAdd] at hK ⊢
              try generalize xF 3 = yy3 at *
              obtain rfl := dd3
              obtain hbR := id hR
              rw [if_pos (by rfl)]
              go_simp
              (go_at_call 42; (with_reducible refine (HCL.out _ hbR).mono ?_); rintro e wK ⟨vK, rfl, hoK, hbK⟩; obtain ⟨aK, cK, rfl⟩ := own_slice hoK; have hoK := own_len HLN.out hoK)
              try go_wp2_with fail
              exact hK.out _ _ (hbK) (⟨aK, cK, by rw [HLN.out], (fre_atT hoK).low hbR.size⟩) (fun _ _ _ => ⟨trivial, trivial⟩)
            refine FlowAll.cons ?_ ?_
            · intro xF wx hR hd K hK
              clear hd
              simp only [← hAF, Act.put, List.setIfInBounds_toArray, List.set_cons_zero, List.set_cons_succ] at hK ⊢
              clear hAF
              try simp only [Nat.zero_add] at hK ⊢
              try simp only [Nat.reduceAdd] at hK ⊢
              obtain hbR := id hR
              rw [if_pos (by rfl)]
              go_simp
              exact hK.out _ _ (Below.refl _ _) (rfl) (fun _ _ _ => ⟨trivial, trivial⟩)
            refine FlowAll.cons ?_ ?_
            · intro xF wx hR hd K hK
              clear hd
              simp only [← hAF, Act.put, List.setIfInBounds_toArray, List.set_cons_zero, List.set_cons_succ] at hK ⊢
              clear hAF
              try simp only [Nat.zero_add] at hK ⊢
              try simp only [Nat.reduceAdd] at hK ⊢
              obtain hbR := id hR
              rw [if_pos (by rfl)]
              go_simp
              exact hK.out _ _ (Below.refl _ _) (rfl) (fun _ _ _ => ⟨trivial, trivial⟩)
            refine FlowAll.cons ?_ ?_
            · intro xF wx hR hd K hK
              have dd6 : ((xF 6) = .pointer (some ⟨q0, 3, none⟩)) := hd 6 (by kernel_rfl)
              clear hd
              simp only [← hAF, Act.put, List.setIfInBounds_toArray, List.set_cons_zero, List.set_cons_succ] at hK ⊢
              clear hAF
              try simp only [Nat.zero_add] at hK ⊢
              try simp only [Nat.reduceAdd] at hK ⊢
              try generalize xF 6 = yy6 at *
              obtain rfl := dd6
              obtain hbR := id hR
              have hxa := (hbR.block _ (lt_of_block X2.out)).trans X2.out
              have c0 := boxc hxa 3 _ rfl
              clear hxa
              rw [if_pos (by rfl)]
              go_simp
              exact hK.out _ _ (Below.refl _ _) (rfl) (fun _ _ _ => ⟨trivial, trivial⟩)
            refine FlowAll.cons ?_ ?_
            · intro xF wx hR hd K hK
              clear hd
              simp only [← hAF, Act.put, List.setIfInBounds_toArray, List.set_cons_zero, List.set_cons_succ] at hK ⊢
              clear hAF
              try simp only [Nat.zero_add] at hK ⊢
              try simp only [Nat.reduceAdd] at hK ⊢
              obtain hbR := id hR
              rw [if_pos (by rfl)]
              go_simp
              exact hK.out _ _ (Below.refl _ _) (rfl) (fun _ _ _ => ⟨trivial, trivial⟩)
            refine FlowAll.cons ?_ ?_
            · intro xF wx hR hd K hK
              have dd7 : ((xF 7) = .slice ko kn kc) := hd 7 (by kernel_rfl)
              have dd8 : ((xF 8) = .int .i64 n) := hd 8 (by kernel_rfl)
              clear hd
              simp only [← hAF, Act.put, List.setIfInBounds_toArray, List.set_cons_zero, List.set_cons_succ] at hK ⊢
              clear hAF
              try simp only [Nat.zero_add] at hK ⊢
              try simp only [Nat.reduceAdd] at hK ⊢
              try generalize xF 7 = yy7 at *
              try generalize xF 8 = yy8 at *
              obtain rfl := dd7
              obtain rfl := dd8
              obtain hbR := id hR
              rw [if_pos (by rfl)]
              go_simp
              (go_at_call 41; (with_reducible refine (HFR.out _ hbR).mono ?_); rintro e wK ⟨aK, cK, rfl, hfK, hbK⟩)
              try go_wp2_with fail
              exact hK.out _ _ (hbK) (⟨aK, _, cK, rfl, hfK.low hbR.size⟩) (fun _ _ _ => ⟨trivial, trivial⟩)
            refine FlowAll.cons ?_ ?_
            · intro xF wx hR hd K hK
              have dd1 : ((xF 1) = .int .i64 xk) := hd 1 (by kernel_rfl)
              have dd4 : (∃ lo2 lc2, (xF 4) = .slice lo2 ln lc2 ∧ Fre wr.heap.size wx (fun W => At W W.heap.size (.slice lo2 ln lc2) xl ∧ TyI W lo2 ln)) := hd 4 (by kernel_rfl)
              have dd5 : ((xF 5) = .int .i64 (p : Int)) := hd 5 (by kernel_rfl)
              have dd9 : (∃ ko2 kn2 kc2, (xF 9) = .slice ko2 kn2 kc2 ∧ Fre wr.heap.size wx (fun W => RowsAt 4 (curT d) W W.heap.size (.slice ko2 kn2 kc2) ks')) := hd 9 (by kernel_rfl)
              clear hd
              simp only [← hAF, Act.put, List.setIfInBounds_toArray, List.set_cons_zero, List.set_cons_succ] at hK ⊢
              clear hAF
              try simp only [Nat.zero_add] at hK ⊢
              try simp only [Nat.reduceAdd] at hK ⊢
              try generalize xF 1 = yy1 at *
              try generalize xF 4 = yy4 at *
              try generalize xF 5 = yy5 at *
              try generalize xF 9 = yy9 at *
              obtain rfl := dd1
              obtain ⟨lo2, lc2, rfl, hf2⟩ := dd4
              obtain rfl := dd5
              obtain ⟨ko2, kn2, kc2, rfl, hf3⟩ := dd9
              obtain hbR := id hR
              rw [if_pos (by rfl)]
              go_simp
              exact hK.out _ _ (Below.refl _ _) (⟨_, _, _, _, _, rfl, hf2, hf3⟩) (fun _ _ _ => ⟨trivial, trivial⟩)
            exact FlowAll.nil
          intro xF wx hR hF hP
          clear hP
          have dd0 : ((xF 0) = .pointer (some ⟨q0, 0, none⟩)) := hF 0 (by omega) (by decide)
          have dd1 : ((xF 1) = .int .i64 xk) := hF 1 (by omega) (by decide)
          have dd2 : ((xF 2) = .pointer (some ⟨q0, 1, none⟩)) := hF 2 (by omega) (by decide)
          have dd3 : ((xF 3) = .slice (some ⟨ba, oa, none⟩) ln lc) := hF 3 (by omega) (by decide)
          have dd4 : (∃ lo2 lc2, (xF 4) = .slice lo2 ln lc2 ∧ Fre wr.heap.size wx (fun W => At W W.heap.size (.slice lo2 ln lc2) xl ∧ TyI W lo2 ln)) := hF 4 (by omega) (by decide)
          have dd5 : ((xF 5) = .int .i64 (p : Int)) := hF 5 (by omega) (by decide)
          have dd6 : ((xF 6) = .pointer (some ⟨q0, 3, none⟩)) := hF 6 (by omega) (by decide)
          have dd7 : ((xF 7) = .slice ko kn kc) := hF 7 (by omega) (by decide)
          have dd8 : ((xF 8) = .int .i64 n) := hF 8 (by omega) (by decide)
          have dd9 : (∃ ko2 kn2 kc2, (xF 9) = .slice ko2 kn2 kc2 ∧ Fre wr.heap.size wx (fun W => RowsAt 4 (curT d) W W.heap.size (.slice ko2 kn2 kc2) ks')) := hF 9 (by omega) (by decide)
          have dd10 : (∃ lo2 lc2 ko2 kn2 kc2, (xF 10) = .agg #[.int .i64 xk, .slice lo2 ln lc2, .int .i64 (p : Int), .slice ko2 kn2 kc2] ∧ Fre wr.heap.size wx (fun W => At W W.heap.size (.slice lo2 ln lc2) xl ∧ TyI W lo2 ln) ∧ Fre wr.heap.size wx (fun W => RowsAt 4 (curT d) W W.heap.size (.slice ko2 kn2 kc2) ks')) := hF 10 (by omega) (by decide)
          clear hF
          simp only [List.take_succ_cons, List.take_zero, List.drop_succ_cons, List.drop_zero, fillOf, Act.put, List.setIfInBounds_toArray, List.set_cons_zero, List.set_cons_succ, Nat.reduceAdd, Nat.zero_add]
          try generalize xF 0 = yy0 at *
          try generalize xF 1 = yy1 at *
          try generalize xF 2 = yy2 at *
          try generalize xF 3 = yy3 at *
          try generalize xF 4 = yy4 at *
          try generalize xF 5 = yy5 at *
          try generalize xF 6 = yy6 at *
          try generalize xF 7 = yy7 at *
          try generalize xF 8 = yy8 at *
          try generalize xF 9 = yy9 at *
          try generalize xF 10 = yy10 at *
          clear xF
          obtain rfl := dd0
          obtain rfl := dd1
          obtain rfl := dd2
          obtain rfl := dd3
          obtain ⟨lo2, lc2, rfl, hf2⟩ := dd4
          obtain rfl := dd5
          obtain rfl := dd6
          obtain rfl := dd7
          obtain rfl := dd8
          obtain ⟨ko2, kn2, kc2, rfl, hf3⟩ := dd9
          obtain ⟨lo3, lc3, ko3, kn3, kc3, rfl, hf4, hf5⟩ := dd10
          have hRE := Lib.hid hR
          clear hR
          have xx : wx.heap[q0 + 1]? = some (.cells #[.int .i64 0, .slice none 0 0, .int .i64 0, .slice none 0 0] 25 (0, 0)) := (hRE.out.block _ (lt_of_block X4.out)).trans X4.out
          have F4 := Lib.hid hf4
          have F5 := Lib.hid hf5
          clear hf2 hf3 hf4 hf5
          go_wp2_with ((with_reducible show wpList _ _ _ (Oper.mk _ (Op.store 25 (.tmp 4) _) _ _ _ _ :: _) _ _); refine wpList_store_row rfl 25 (.tmp 4) _ rfl (q0 + 1) #[.int .i64 xk, .slice lo3 ln lc3, .int .i64 (p : Int), .slice ko3 kn3 kc3] rfl rfl 25 #[.int .i64 0, .slice none 0 0, .int .i64 0, .slice none 0 0] xx csize rfl (by simp [Value.oneCell']) ?_)
          have cc := setRow_heap _ (q0 + 1) _ #[.int .i64 xk, .slice lo3 ln lc3, .int .i64 (p : Int), .slice ko3 kn3 kc3] _ _ xx
          have bb := below_setRow (B2.out.trans (hRE.out.mono B2.out.size)) (g := q0 + 1) (by rw [HQ0.out]; omega) #[.int .i64 xk, .slice lo3 ln lc3, .int .i64 (p : Int), .slice ko3 kn3 kc3]
          have hst := fre_setRow F4.out (q := q0 + 1) (cs := #[.int .i64 xk, .slice lo3 ln lc3, .int .i64 (p : Int), .slice ko3 kn3 kc3]) (by rw [HZ.out]; omega)
          have hst5 := fre_setRow F5.out (q := q0 + 1) (cs := #[.int .i64 xk, .slice lo3 ln lc3, .int .i64 (p : Int), .slice ko3 kn3 kc3]) (by rw [HZ.out]; omega)
          obtain ⟨w9, h9⟩ : ∃ W, W = World.setRow wx (q0 + 1) #[.int .i64 xk, .slice lo3 ln lc3, .int .i64 (p : Int), .slice ko3 kn3 kc3] := ⟨_, rfl⟩
          rw [← h9] at cc bb hst hst5 ⊢
          clear h9 xx
          have k0 := boxc cc 0 (.int .i64 xk) rfl
          have k1 := boxc cc 1 (.slice lo3 ln lc3) rfl
          have k2 := boxc cc 2 (.int .i64 (p : Int)) rfl
          have k3 := boxc cc 3 (.slice ko3 kn3 kc3) rfl
          refine bodyPost_ret (v := .agg #[.int .i64 xk, .slice lo3 ln lc3, .int .i64 (p : Int), .slice ko3 kn3 kc3]) (by simp [results, Try.results38, go_sem, k0, k1, k2, k3]) rfl ?_
          refine ⟨[.int .i64 xk, .slice lo3 ln lc3, .int .i64 (p : Int), .slice ko3 kn3 kc3], rfl, ?_, bb⟩
          intro W' hs hk
          have hB2 := B2.out.size
          refine ⟨lo3, ln, lc3, ko3, kn3, kc3, by rw [← HEND.out]; rfl, (hst W' hs (fun j hj => hk j (by omega))).1, (hst W' hs (fun j hj => hk j (by omega))).2, hst5 W' hs (fun j hj => hk j (by omega))⟩
        · clear hgo
          go_wp2
          clear c1
          refine wp_flow 11 (fun _ => 1000) (fun ww => RowKit.Below wr.heap.size wr ww) (fun _ w w' => (fun (w w' : World) => RowKit.Below w.heap.size w w') w w') (fun kF vF wF => match kF with | 0 => (vF = .pointer (some ⟨q0, 0, none⟩)) | 1 => (vF = .int .i64 xk) | 2 => (vF = .pointer (some ⟨q0, 1, none⟩)) | 3 => (vF = .slice lo ln lc) | 4 => (∃ lo2 lc2, vF = .slice lo2 ln lc2 ∧ Fre wr.heap.size wF (fun W => At W W.heap.size (.slice lo2 ln lc2) xl ∧ TyI W lo2 ln)) | 5 => (vF = .int .i64 z) | 6 => (vF = .pointer (some ⟨q0, 3, none⟩)) | 7 => (vF = .slice ko kn kc) | 8 => (vF = .int .i64 n) | 9 => (∃ ko2 kn2 kc2, vF = .slice ko2 kn2 kc2 ∧ Fre wr.heap.size wF (fun W => RowsAt 4 (curT d) W W.heap.size (.slice ko2 kn2 kc2) ks')) | 10 => (∃ lo2 lc2 ko2 kn2 kc2, vF = .agg #[.int .i64 xk, .slice lo2 ln lc2, .int .i64 z, .slice ko2 kn2 kc2] ∧ Fre wr.heap.size wF (fun W => At W W.heap.size (.slice lo2 ln lc2) xl ∧ TyI W lo2 ln) ∧ Fre wr.heap.size wF (fun W => RowsAt 4 (curT d) W W.heap.size (.slice ko2 kn2 kc2) ks')) | _ => True) (fun _ _ _ _ => True) (by kernel_rfl) (by kernel_rfl) ?_ ?_ ?_ ?_ ?_
          · exact (Below.refl _ _).drew
          · intro iF wF1 wF2 hR hT; exact hR.trans (hT.mono hR.size)
          · intro kF hkF iF hiF hne hdd hanc hdan vF wF1 wF2 h hT
            rcases (by omega : kF = 0 ∨ kF = 1 ∨ kF = 2 ∨ kF = 3 ∨ kF = 4 ∨ kF = 5 ∨ kF = 6 ∨ kF = 7 ∨ kF = 8 ∨ kF = 9 ∨ kF = 10) with rfl | rfl | rfl | rfl | rfl | rfl | rfl | rfl | rfl | rfl | rfl
            · exact h
            · exact h
            · exact h
            · exact h
            · have h : (∃ lo2 lc2, vF = .slice lo2 ln lc2 ∧ Fre wr.heap.size wF1 (fun W => At W W.heap.size (.slice lo2 ln lc2) xl ∧ TyI W lo2 ln)) := h
              show (∃ lo2 lc2, vF = .slice lo2 ln lc2 ∧ Fre wr.heap.size wF2 (fun W => At W W.heap.size (.slice lo2 ln lc2) xl ∧ TyI W lo2 ln))
              have hT : (fun (w w' : World) => RowKit.Below w.heap.size w w') wF1 wF2 := hT
              simp only at hT
              obtain ⟨a, b, e, hf⟩ := h
              exact ⟨a, b, e, FreA.next hf hT⟩
            · exact h
            · exact h
            · exact h
            · exact h
            · have h : (∃ ko2 kn2 kc2, vF = .slice ko2 kn2 kc2 ∧ Fre wr.heap.size wF1 (fun W => RowsAt 4 (curT d) W W.heap.size (.slice ko2 kn2 kc2) ks')) := h
              show (∃ ko2 kn2 kc2, vF = .slice ko2 kn2 kc2 ∧ Fre wr.heap.size wF2 (fun W => RowsAt 4 (curT d) W W.heap.size (.slice ko2 kn2 kc2) ks'))
              have hT : (fun (w w' : World) => RowKit.Below w.heap.size w w') wF1 wF2 := hT
              simp only at hT
              obtain ⟨a, b, c, e, hf⟩ := h
              exact ⟨a, b, c, e, FreA.next hf hT⟩
            · have h : (∃ lo2 lc2 ko2 kn2 kc2, vF = .agg #[.int .i64 xk, .slice lo2 ln lc2, .int .i64 z, .slice ko2 kn2 kc2] ∧ Fre wr.heap.size wF1 (fun W => At W W.heap.size (.slice lo2 ln lc2) xl ∧ TyI W lo2 ln) ∧ Fre wr.heap.size wF1 (fun W => RowsAt 4 (curT d) W W.heap.size (.slice ko2 kn2 kc2) ks')) := h
              show (∃ lo2 lc2 ko2 kn2 kc2, vF = .agg #[.int .i64 xk, .slice lo2 ln lc2, .int .i64 z, .slice ko2 kn2 kc2] ∧ Fre wr.heap.size wF2 (fun W => At W W.heap.size (.slice lo2 ln lc2) xl ∧ TyI W lo2 ln) ∧ Fre wr.heap.size wF2 (fun W => RowsAt 4 (curT d) W W.heap.size (.slice ko2 kn2 kc2) ks'))
              have hT : (fun (w w' : World) => RowKit.Below w.heap.size w w') wF1 wF2 := hT
              simp only at hT
              obtain ⟨a, b, c, f, g, e, hf, hg⟩ := h
              exact ⟨a, b, c, f, g, e, FreA.next hf hT, FreA.next hg hT⟩
          · generalize hAF : fillOf _ _ _ = AF
            replace hAF := fun x => congrFun hAF x
            simp only [List.take_succ_cons, List.take_zero, fillOf, Act.put, List.setIfInBounds_toArray, List.set_cons_zero, List.set_cons_succ, Nat.reduceAdd, Nat.zero_add] at hAF
            refine FlowAll.cons ?_ ?_
            · intro xF wx hR hd K hK
              clear hd
              simp only [← hAF, Act.put, List.setIfInBounds_toArray, List.set_cons_zero, List.set_cons_succ] at hK ⊢
              clear hAF
              try simp only [Nat.zero_add] at hK ⊢
              try simp only [Nat.reduceAdd] at hK ⊢
              obtain hbR := id hR
              rw [if_pos (by rfl)]
              go_simp
              exact hK.out _ _ (Below.refl _ _) (rfl) (fun _ _ _ => ⟨trivial, trivial⟩)
            refine FlowAll.cons ?_ ?_
            · intro xF wx hR hd K hK
              have dd0 : ((xF 0) = .pointer (some ⟨q0, 0, none⟩)) := hd 0 (by kernel_rfl)
              clear hd
              simp only [← hAF, Act.put, List.setIfInBounds_toArray, List.set_cons_zero, List.set_cons_succ] at hK ⊢
              clear hAF
              try simp only [Nat.zero_add] at hK ⊢
              try simp only [Nat.reduceAdd] at hK ⊢
              try generalize xF 0 = yy0 at *
              obtain rfl := dd0
              obtain hbR := id hR
              have hxa := (hbR.block _ (lt_of_block X2.out)).trans X2.out
              have c0 := boxc hxa 0 _ rfl
              clear hxa
              rw [if_pos (by rfl)]
              go_simp
              exact hK.out _ _ (Below.refl _ _) (rfl) (fun _ _ _ => ⟨trivial, trivial⟩)
            refine FlowAll.cons ?_ ?_
            · intro xF wx hR hd K hK
              clear hd
              simp only [← hAF, Act.put, List.setIfInBounds_toArray, List.set_cons_zero, List.set_cons_succ] at hK ⊢
              clear hAF
              try simp only [Nat.zero_add] at hK ⊢
              try simp only [Nat.reduceAdd] at hK ⊢
              obtain hbR := id hR
              rw [if_pos (by rfl)]
              go_simp
              exact hK.out _ _ (Below.refl _ _) (rfl) (fun _ _ _ => ⟨trivial, trivial⟩)
            refine FlowAll.cons ?_ ?_
            · intro xF wx hR hd K hK
              have dd2 : ((xF 2) = .pointer (some ⟨q0, 1, none⟩)) := hd 2 (by kernel_rfl)
              clear hd
              simp only [← hAF, Act.put, List.setIfInBounds_toArray, List.set_cons_zero, List.set_cons_succ] at hK ⊢
              clear hAF
              try simp only [Nat.zero_add] at hK ⊢
              try simp only [Nat.reduceAdd] at hK ⊢
              try generalize xF 2 = yy2 at *
              obtain rfl := dd2
              obtain hbR := id hR
              have hxa := (hbR.block _ (lt_of_block X2.out)).trans X2.out
              have c0 := boxc hxa 1 _ rfl
              clear hxa
              rw [if_pos (by rfl)]
              go_simp
              exact hK.out _ _ (Below.refl _ _) (rfl) (fun _ _ _ => ⟨trivial, trivial⟩)
            refine FlowAll.cons ?_ ?_
            · intro xF wx hR hd K hK
              have dd3 : ((xF 3) = .slice lo ln lc) := hd 3 (by kernel_rfl)
              clear hd
              simp only [← hAF, Act.put, List.setIfInBounds_toArray, List.set_cons_zero, List.set_cons_succ] at hK ⊢
              clear hAF
              try simp only [Nat.zero_add] at hK ⊢
              try simp only [Nat.reduceAdd] at hK ⊢
              try generalize xF 3 = yy3 at *
              obtain rfl := dd3
              obtain hbR := id hR
              rw [if_pos (by rfl)]
              go_simp
              (go_at_call 42; (with_reducible refine (HCL.out _ hbR).mono ?_); rintro e wK ⟨vK, rfl, hoK, hbK⟩; obtain ⟨aK, cK, rfl⟩ := own_slice hoK; have hoK := own_len HLN.out hoK)
              try go_wp2_with fail
              exact hK.out _ _ (hbK) (⟨aK, cK, by rw [HLN.out], (fre_atT hoK).low hbR.size⟩) (fun _ _ _ => ⟨trivial, trivial⟩)
            refine FlowAll.cons ?_ ?_
            · intro xF wx hR hd K hK
              clear hd
              simp only [← hAF, Act.put, List.setIfInBounds_toArray, List.set_cons_zero, List.set_cons_succ] at hK ⊢
              clear hAF
              try simp only [Nat.zero_add] at hK ⊢
              try simp only [Nat.reduceAdd] at hK ⊢
              obtain hbR := id hR
              rw [if_pos (by rfl)]
              go_simp
              exact hK.out _ _ (Below.refl _ _) (rfl) (fun _ _ _ => ⟨trivial, trivial⟩)
            refine FlowAll.cons ?_ ?_
            · intro xF wx hR hd K hK
              clear hd
              simp only [← hAF, Act.put, List.setIfInBounds_toArray, List.set_cons_zero, List.set_cons_succ] at hK ⊢
              clear hAF
              try simp only [Nat.zero_add] at hK ⊢
              try simp only [Nat.reduceAdd] at hK ⊢
              obtain hbR := id hR
              rw [if_pos (by rfl)]
              go_simp
              exact hK.out _ _ (Below.refl _ _) (rfl) (fun _ _ _ => ⟨trivial, trivial⟩)
            refine FlowAll.cons ?_ ?_
            · intro xF wx hR hd K hK
              have dd6 : ((xF 6) = .pointer (some ⟨q0, 3, none⟩)) := hd 6 (by kernel_rfl)
              clear hd
              simp only [← hAF, Act.put, List.setIfInBounds_toArray, List.set_cons_zero, List.set_cons_succ] at hK ⊢
              clear hAF
              try simp only [Nat.zero_add] at hK ⊢
              try simp only [Nat.reduceAdd] at hK ⊢
              try generalize xF 6 = yy6 at *
              obtain rfl := dd6
              obtain hbR := id hR
              have hxa := (hbR.block _ (lt_of_block X2.out)).trans X2.out
              have c0 := boxc hxa 3 _ rfl
              clear hxa
              rw [if_pos (by rfl)]
              go_simp
              exact hK.out _ _ (Below.refl _ _) (rfl) (fun _ _ _ => ⟨trivial, trivial⟩)
            refine FlowAll.cons ?_ ?_
            · intro xF wx hR hd K hK
              clear hd
              simp only [← hAF, Act.put, List.setIfInBounds_toArray, List.set_cons_zero, List.set_cons_succ] at hK ⊢
              clear hAF
              try simp only [Nat.zero_add] at hK ⊢
              try simp only [Nat.reduceAdd] at hK ⊢
              obtain hbR := id hR
              rw [if_pos (by rfl)]
              go_simp
              exact hK.out _ _ (Below.refl _ _) (rfl) (fun _ _ _ => ⟨trivial, trivial⟩)
            refine FlowAll.cons ?_ ?_
            · intro xF wx hR hd K hK
              have dd7 : ((xF 7) = .slice ko kn kc) := hd 7 (by kernel_rfl)
              have dd8 : ((xF 8) = .int .i64 n) := hd 8 (by kernel_rfl)
              clear hd
              simp only [← hAF, Act.put, List.setIfInBounds_toArray, List.set_cons_zero, List.set_cons_succ] at hK ⊢
              clear hAF
              try simp only [Nat.zero_add] at hK ⊢
              try simp only [Nat.reduceAdd] at hK ⊢
              try generalize xF 7 = yy7 at *
              try generalize xF 8 = yy8 at *
              obtain rfl := dd7
              obtain rfl := dd8
              obtain hbR := id hR
              rw [if_pos (by rfl)]
              go_simp
              (go_at_call 41; (with_reducible refine (HFR.out _ hbR).mono ?_); rintro e wK ⟨aK, cK, rfl, hfK, hbK⟩)
              try go_wp2_with fail
              exact hK.out _ _ (hbK) (⟨aK, _, cK, rfl, hfK.low hbR.size⟩) (fun _ _ _ => ⟨trivial, trivial⟩)
            refine FlowAll.cons ?_ ?_
            · intro xF wx hR hd K hK
              have dd1 : ((xF 1) = .int .i64 xk) := hd 1 (by kernel_rfl)
              have dd4 : (∃ lo2 lc2, (xF 4) = .slice lo2 ln lc2 ∧ Fre wr.heap.size wx (fun W => At W W.heap.size (.slice lo2 ln lc2) xl ∧ TyI W lo2 ln)) := hd 4 (by kernel_rfl)
              have dd5 : ((xF 5) = .int .i64 z) := hd 5 (by kernel_rfl)
              have dd9 : (∃ ko2 kn2 kc2, (xF 9) = .slice ko2 kn2 kc2 ∧ Fre wr.heap.size wx (fun W => RowsAt 4 (curT d) W W.heap.size (.slice ko2 kn2 kc2) ks')) := hd 9 (by kernel_rfl)
              clear hd
              simp only [← hAF, Act.put, List.setIfInBounds_toArray, List.set_cons_zero, List.set_cons_succ] at hK ⊢
              clear hAF
              try simp only [Nat.zero_add] at hK ⊢
              try simp only [Nat.reduceAdd] at hK ⊢
              try generalize xF 1 = yy1 at *
              try generalize xF 4 = yy4 at *
              try generalize xF 5 = yy5 at *
              try generalize xF 9 = yy9 at *
              obtain rfl := dd1
              obtain ⟨lo2, lc2, rfl, hf2⟩ := dd4
              obtain rfl := dd5
              obtain ⟨ko2, kn2, kc2, rfl, hf3⟩ := dd9
              obtain hbR := id hR
              rw [if_pos (by rfl)]
              go_simp
              exact hK.out _ _ (Below.refl _ _) (⟨_, _, _, _, _, rfl, hf2, hf3⟩) (fun _ _ _ => ⟨trivial, trivial⟩)
            exact FlowAll.nil
          intro xF wx hR hF hP
          clear hP
          have dd0 : ((xF 0) = .pointer (some ⟨q0, 0, none⟩)) := hF 0 (by omega) (by decide)
          have dd1 : ((xF 1) = .int .i64 xk) := hF 1 (by omega) (by decide)
          have dd2 : ((xF 2) = .pointer (some ⟨q0, 1, none⟩)) := hF 2 (by omega) (by decide)
          have dd3 : ((xF 3) = .slice lo ln lc) := hF 3 (by omega) (by decide)
          have dd4 : (∃ lo2 lc2, (xF 4) = .slice lo2 ln lc2 ∧ Fre wr.heap.size wx (fun W => At W W.heap.size (.slice lo2 ln lc2) xl ∧ TyI W lo2 ln)) := hF 4 (by omega) (by decide)
          have dd5 : ((xF 5) = .int .i64 z) := hF 5 (by omega) (by decide)
          have dd6 : ((xF 6) = .pointer (some ⟨q0, 3, none⟩)) := hF 6 (by omega) (by decide)
          have dd7 : ((xF 7) = .slice ko kn kc) := hF 7 (by omega) (by decide)
          have dd8 : ((xF 8) = .int .i64 n) := hF 8 (by omega) (by decide)
          have dd9 : (∃ ko2 kn2 kc2, (xF 9) = .slice ko2 kn2 kc2 ∧ Fre wr.heap.size wx (fun W => RowsAt 4 (curT d) W W.heap.size (.slice ko2 kn2 kc2) ks')) := hF 9 (by omega) (by decide)
          have dd10 : (∃ lo2 lc2 ko2 kn2 kc2, (xF 10) = .agg #[.int .i64 xk, .slice lo2 ln lc2, .int .i64 z, .slice ko2 kn2 kc2] ∧ Fre wr.heap.size wx (fun W => At W W.heap.size (.slice lo2 ln lc2) xl ∧ TyI W lo2 ln) ∧ Fre wr.heap.size wx (fun W => RowsAt 4 (curT d) W W.heap.size (.slice ko2 kn2 kc2) ks')) := hF 10 (by omega) (by decide)
          clear hF
          simp only [List.take_succ_cons, List.take_zero, List.drop_succ_cons, List.drop_zero, fillOf, Act.put, List.setIfInBounds_toArray, List.set_cons_zero, List.set_cons_succ, Nat.reduceAdd, Nat.zero_add]
          try generalize xF 0 = yy0 at *
          try generalize xF 1 = yy1 at *
          try generalize xF 2 = yy2 at *
          try generalize xF 3 = yy3 at *
          try generalize xF 4 = yy4 at *
          try generalize xF 5 = yy5 at *
          try generalize xF 6 = yy6 at *
          try generalize xF 7 = yy7 at *
          try generalize xF 8 = yy8 at *
          try generalize xF 9 = yy9 at *
          try generalize xF 10 = yy10 at *
          clear xF
          obtain rfl := dd0
          obtain rfl := dd1
          obtain rfl := dd2
          obtain rfl := dd3
          obtain ⟨lo2, lc2, rfl, hf2⟩ := dd4
          obtain rfl := dd5
          obtain rfl := dd6
          obtain rfl := dd7
          obtain rfl := dd8
          obtain ⟨ko2, kn2, kc2, rfl, hf3⟩ := dd9
          obtain ⟨lo3, lc3, ko3, kn3, kc3, rfl, hf4, hf5⟩ := dd10
          have hRE := Lib.hid hR
          clear hR
          have xx : wx.heap[q0 + 1]? = some (.cells #[.int .i64 0, .slice none 0 0, .int .i64 0, .slice none 0 0] 25 (0, 0)) := (hRE.out.block _ (lt_of_block X4.out)).trans X4.out
          have F4 := Lib.hid hf4
          have F5 := Lib.hid hf5
          clear hf2 hf3 hf4 hf5
          go_wp2_with ((with_reducible show wpList _ _ _ (Oper.mk _ (Op.store 25 (.tmp 4) _) _ _ _ _ :: _) _ _); refine wpList_store_row rfl 25 (.tmp 4) _ rfl (q0 + 1) #[.int .i64 xk, .slice lo3 ln lc3, .int .i64 z, .slice ko3 kn3 kc3] rfl rfl 25 #[.int .i64 0, .slice none 0 0, .int .i64 0, .slice none 0 0] xx csize rfl (by simp [Value.oneCell']) ?_)
          have cc := setRow_heap _ (q0 + 1) _ #[.int .i64 xk, .slice lo3 ln lc3, .int .i64 z, .slice ko3 kn3 kc3] _ _ xx
          have bb := below_setRow (B2.out.trans (hRE.out.mono B2.out.size)) (g := q0 + 1) (by rw [HQ0.out]; omega) #[.int .i64 xk, .slice lo3 ln lc3, .int .i64 z, .slice ko3 kn3 kc3]
          have hst := fre_setRow F4.out (q := q0 + 1) (cs := #[.int .i64 xk, .slice lo3 ln lc3, .int .i64 z, .slice ko3 kn3 kc3]) (by rw [HZ.out]; omega)
          have hst5 := fre_setRow F5.out (q := q0 + 1) (cs := #[.int .i64 xk, .slice lo3 ln lc3, .int .i64 z, .slice ko3 kn3 kc3]) (by rw [HZ.out]; omega)
          obtain ⟨w9, h9⟩ : ∃ W, W = World.setRow wx (q0 + 1) #[.int .i64 xk, .slice lo3 ln lc3, .int .i64 z, .slice ko3 kn3 kc3] := ⟨_, rfl⟩
          rw [← h9] at cc bb hst hst5 ⊢
          clear h9 xx
          have k0 := boxc cc 0 (.int .i64 xk) rfl
          have k1 := boxc cc 1 (.slice lo3 ln lc3) rfl
          have k2 := boxc cc 2 (.int .i64 z) rfl
          have k3 := boxc cc 3 (.slice ko3 kn3 kc3) rfl
          refine bodyPost_ret (v := .agg #[.int .i64 xk, .slice lo3 ln lc3, .int .i64 z, .slice ko3 kn3 kc3]) (by simp [results, Try.results38, go_sem, k0, k1, k2, k3]) rfl ?_
          refine ⟨[.int .i64 xk, .slice lo3 ln lc3, .int .i64 z, .slice ko3 kn3 kc3], rfl, ?_, bb⟩
          intro W' hs hk
          have hB2 := B2.out.size
          refine ⟨lo3, ln, lc3, ko3, kn3, kc3, by rw [← HEND.out]; rfl, (hst W' hs (fun j hj => hk j (by omega))).1, (hst W' hs (fun j hj => hk j (by omega))).2, hst5 W' hs (fun j hj => hk j (by omega))⟩
      · clear hgo
        go_wp2
        clear c1
        refine wp_flow 11 (fun _ => 1000) (fun ww => RowKit.Below wr.heap.size wr ww) (fun _ w w' => (fun (w w' : World) => RowKit.Below w.heap.size w w') w w') (fun kF vF wF => match kF with | 0 => (vF = .pointer (some ⟨q0, 0, none⟩)) | 1 => (vF = .int .i64 xk) | 2 => (vF = .pointer (some ⟨q0, 1, none⟩)) | 3 => (vF = .slice lo ln lc) | 4 => (∃ lo2 lc2, vF = .slice lo2 ln lc2 ∧ Fre wr.heap.size wF (fun W => At W W.heap.size (.slice lo2 ln lc2) xl ∧ TyI W lo2 ln)) | 5 => (vF = .int .i64 z) | 6 => (vF = .pointer (some ⟨q0, 3, none⟩)) | 7 => (vF = .slice ko kn kc) | 8 => (vF = .int .i64 n) | 9 => (∃ ko2 kn2 kc2, vF = .slice ko2 kn2 kc2 ∧ Fre wr.heap.size wF (fun W => RowsAt 4 (curT d) W W.heap.size (.slice ko2 kn2 kc2) ks')) | 10 => (∃ lo2 lc2 ko2 kn2 kc2, vF = .agg #[.int .i64 xk, .slice lo2 ln lc2, .int .i64 z, .slice ko2 kn2 kc2] ∧ Fre wr.heap.size wF (fun W => At W W.heap.size (.slice lo2 ln lc2) xl ∧ TyI W lo2 ln) ∧ Fre wr.heap.size wF (fun W => RowsAt 4 (curT d) W W.heap.size (.slice ko2 kn2 kc2) ks')) | _ => True) (fun _ _ _ _ => True) (by kernel_rfl) (by kernel_rfl) ?_ ?_ ?_ ?_ ?_
        · exact (Below.refl _ _).drew
        · intro iF wF1 wF2 hR hT; exact hR.trans (hT.mono hR.size)
        · intro kF hkF iF hiF hne hdd hanc hdan vF wF1 wF2 h hT
          rcases (by omega : kF = 0 ∨ kF = 1 ∨ kF = 2 ∨ kF = 3 ∨ kF = 4 ∨ kF = 5 ∨ kF = 6 ∨ kF = 7 ∨ kF = 8 ∨ kF = 9 ∨ kF = 10) with rfl | rfl | rfl | rfl | rfl | rfl | rfl | rfl | rfl | rfl | rfl
          · exact h
          · exact h
          · exact h
          · exact h
          · have h : (∃ lo2 lc2, vF = .slice lo2 ln lc2 ∧ Fre wr.heap.size wF1 (fun W => At W W.heap.size (.slice lo2 ln lc2) xl ∧ TyI W lo2 ln)) := h
            show (∃ lo2 lc2, vF = .slice lo2 ln lc2 ∧ Fre wr.heap.size wF2 (fun W => At W W.heap.size (.slice lo2 ln lc2) xl ∧ TyI W lo2 ln))
            have hT : (fun (w w' : World) => RowKit.Below w.heap.size w w') wF1 wF2 := hT
            simp only at hT
            obtain ⟨a, b, e, hf⟩ := h
            exact ⟨a, b, e, FreA.next hf hT⟩
          · exact h
          · exact h
          · exact h
          · exact h
          · have h : (∃ ko2 kn2 kc2, vF = .slice ko2 kn2 kc2 ∧ Fre wr.heap.size wF1 (fun W => RowsAt 4 (curT d) W W.heap.size (.slice ko2 kn2 kc2) ks')) := h
            show (∃ ko2 kn2 kc2, vF = .slice ko2 kn2 kc2 ∧ Fre wr.heap.size wF2 (fun W => RowsAt 4 (curT d) W W.heap.size (.slice ko2 kn2 kc2) ks'))
            have hT : (fun (w w' : World) => RowKit.Below w.heap.size w w') wF1 wF2 := hT
            simp only at hT
            obtain ⟨a, b, c, e, hf⟩ := h
            exact ⟨a, b, c, e, FreA.next hf hT⟩
          · have h : (∃ lo2 lc2 ko2 kn2 kc2, vF = .agg #[.int .i64 xk, .slice lo2 ln lc2, .int .i64 z, .slice ko2 kn2 kc2] ∧ Fre wr.heap.size wF1 (fun W => At W W.heap.size (.slice lo2 ln lc2) xl ∧ TyI W lo2 ln) ∧ Fre wr.heap.size wF1 (fun W => RowsAt 4 (curT d) W W.heap.size (.slice ko2 kn2 kc2) ks')) := h
            show (∃ lo2 lc2 ko2 kn2 kc2, vF = .agg #[.int .i64 xk, .slice lo2 ln lc2, .int .i64 z, .slice ko2 kn2 kc2] ∧ Fre wr.heap.size wF2 (fun W => At W W.heap.size (.slice lo2 ln lc2) xl ∧ TyI W lo2 ln) ∧ Fre wr.heap.size wF2 (fun W => RowsAt 4 (curT d) W W.heap.size (.slice ko2 kn2 kc2) ks'))
            have hT : (fun (w w' : World) => RowKit.Below w.heap.size w w') wF1 wF2 := hT
            simp only at hT
            obtain ⟨a, b, c, f, g, e, hf, hg⟩ := h
            exact ⟨a, b, c, f, g, e, FreA.next hf hT, FreA.next hg hT⟩
        · generalize hAF : fillOf _ _ _ = AF
          replace hAF := fun x => congrFun hAF x
          simp only [List.take_succ_cons, List.take_zero, fillOf, Act.put, List.setIfInBounds_toArray, List.set_cons_zero, List.set_cons_succ, Nat.reduceAdd, Nat.zero_add] at hAF
          refine FlowAll.cons ?_ ?_
          · intro xF wx hR hd K hK
            clear hd
            simp only [← hAF, Act.put, List.setIfInBounds_toArray, List.set_cons_zero, List.set_cons_succ] at hK ⊢
            clear hAF
            try simp only [Nat.zero_add] at hK ⊢
            try simp only [Nat.reduceAdd] at hK ⊢
            obtain hbR := id hR
            rw [if_pos (by rfl)]
            go_simp
            exact hK.out _ _ (Below.refl _ _) (rfl) (fun _ _ _ => ⟨trivial, trivial⟩)
          refine FlowAll.cons ?_ ?_
          · intro xF wx hR hd K hK
            have dd0 : ((xF 0) = .pointer (some ⟨q0, 0, none⟩)) := hd 0 (by kernel_rfl)
            clear hd
            simp only [← hAF, Act.put, List.setIfInBounds_toArray, List.set_cons_zero, List.set_cons_succ] at hK ⊢
            clear hAF
            try simp only [Nat.zero_add] at hK ⊢
            try simp only [Nat.reduceAdd] at hK ⊢
            try generalize xF 0 = yy0 at *
            obtain rfl := dd0
            obtain hbR := id hR
            have hxa := (hbR.block _ (lt_of_block X2.out)).trans X2.out
            have c0 := boxc hxa 0 _ rfl
            clear hxa
            rw [if_pos (by rfl)]
            go_simp
            exact hK.out _ _ (Below.refl _ _) (rfl) (fun _ _ _ => ⟨trivial, trivial⟩)
          refine FlowAll.cons ?_ ?_
          · intro xF wx hR hd K hK
            clear hd
            simp only [← hAF, Act.put, List.setIfInBounds_toArray, List.set_cons_zero, List.set_cons_succ] at hK ⊢
            clear hAF
            try simp only [Nat.zero_add] at hK ⊢
            try simp only [Nat.reduceAdd] at hK ⊢
            obtain hbR := id hR
            rw [if_pos (by rfl)]
            go_simp
            exact hK.out _ _ (Below.refl _ _) (rfl) (fun _ _ _ => ⟨trivial, trivial⟩)
          refine FlowAll.cons ?_ ?_
          · intro xF wx hR hd K hK
            have dd2 : ((xF 2) = .pointer (some ⟨q0, 1, none⟩)) := hd 2 (by kernel_rfl)
            clear hd
            simp only [← hAF, Act.put, List.setIfInBounds_toArray, List.set_cons_zero, List.set_cons_succ] at hK ⊢
            clear hAF
            try simp only [Nat.zero_add] at hK ⊢
            try simp only [Nat.reduceAdd] at hK ⊢
            try generalize xF 2 = yy2 at *
            obtain rfl := dd2
            obtain hbR := id hR
            have hxa := (hbR.block _ (lt_of_block X2.out)).trans X2.out
            have c0 := boxc hxa 1 _ rfl
            clear hxa
            rw [if_pos (by rfl)]
            go_simp
            exact hK.out _ _ (Below.refl _ _) (rfl) (fun _ _ _ => ⟨trivial, trivial⟩)
          refine FlowAll.cons ?_ ?_
          · intro xF wx hR hd K hK
            have dd3 : ((xF 3) = .slice lo ln lc) := hd 3 (by kernel_rfl)
            clear hd
            simp only [← hAF, Act.put, List.setIfInBounds_toArray, List.set_cons_zero, List.set_cons_succ] at hK ⊢
            clear hAF
            try simp only [Nat.zero_add] at hK ⊢
            try simp only [Nat.reduceAdd] at hK ⊢
            try generalize xF 3 = yy3 at *
            obtain rfl := dd3
            obtain hbR := id hR
            rw [if_pos (by rfl)]
            go_simp
            (go_at_call 42; (with_reducible refine (HCL.out _ hbR).mono ?_); rintro e wK ⟨vK, rfl, hoK, hbK⟩; obtain ⟨aK, cK, rfl⟩ := own_slice hoK; have hoK := own_len HLN.out hoK)
            try go_wp2_with fail
            exact hK.out _ _ (hbK) (⟨aK, cK, by rw [HLN.out], (fre_atT hoK).low hbR.size⟩) (fun _ _ _ => ⟨trivial, trivial⟩)
          refine FlowAll.cons ?_ ?_
          · intro xF wx hR hd K hK
            clear hd
            simp only [← hAF, Act.put, List.setIfInBounds_toArray, List.set_cons_zero, List.set_cons_succ] at hK ⊢
            clear hAF
            try simp only [Nat.zero_add] at hK ⊢
            try simp only [Nat.reduceAdd] at hK ⊢
            obtain hbR := id hR
            rw [if_pos (by rfl)]
            go_simp
            exact hK.out _ _ (Below.refl _ _) (rfl) (fun _ _ _ => ⟨trivial, trivial⟩)
          refine FlowAll.cons ?_ ?_
          · intro xF wx hR hd K hK
            clear hd
            simp only [← hAF, Act.put, List.setIfInBounds_toArray, List.set_cons_zero, List.set_cons_succ] at hK ⊢
            clear hAF
            try simp only [Nat.zero_add] at hK ⊢
            try simp only [Nat.reduceAdd] at hK ⊢
            obtain hbR := id hR
            rw [if_pos (by rfl)]
            go_simp
            exact hK.out _ _ (Below.refl _ _) (rfl) (fun _ _ _ => ⟨trivial, trivial⟩)
          refine FlowAll.cons ?_ ?_
          · intro xF wx hR hd K hK
            have dd6 : ((xF 6) = .pointer (some ⟨q0, 3, none⟩)) := hd 6 (by kernel_rfl)
            clear hd
            simp only [← hAF, Act.put, List.setIfInBounds_toArray, List.set_cons_zero, List.set_cons_succ] at hK ⊢
            clear hAF
            try simp only [Nat.zero_add] at hK ⊢
            try simp only [Nat.reduceAdd] at hK ⊢
            try generalize xF 6 = yy6 at *
            obtain rfl := dd6
            obtain hbR := id hR
            have hxa := (hbR.block _ (lt_of_block X2.out)).trans X2.out
            have c0 := boxc hxa 3 _ rfl
            clear hxa
            rw [if_pos (by rfl)]
            go_simp
            exact hK.out _ _ (Below.refl _ _) (rfl) (fun _ _ _ => ⟨trivial, trivial⟩)
          refine FlowAll.cons ?_ ?_
          · intro xF wx hR hd K hK
            clear hd
            simp only [← hAF, Act.put, List.setIfInBounds_toArray, List.set_cons_zero, List.set_cons_succ] at hK ⊢
            clear hAF
            try simp only [Nat.zero_add] at hK ⊢
            try simp only [Nat.reduceAdd] at hK ⊢
            obtain hbR := id hR
            rw [if_pos (by rfl)]
            go_simp
            exact hK.out _ _ (Below.refl _ _) (rfl) (fun _ _ _ => ⟨trivial, trivial⟩)
          refine FlowAll.cons ?_ ?_
          · intro xF wx hR hd K hK
            have dd7 : ((xF 7) = .slice ko kn kc) := hd 7 (by kernel_rfl)
            have dd8 : ((xF 8) = .int .i64 n) := hd 8 (by kernel_rfl)
            clear hd
            simp only [← hAF, Act.put, List.setIfInBounds_toArray, List.set_cons_zero, List.set_cons_succ] at hK ⊢
            clear hAF
            try simp only [Nat.zero_add] at hK ⊢
            try simp only [Nat.reduceAdd] at hK ⊢
            try generalize xF 7 = yy7 at *
            try generalize xF 8 = yy8 at *
            obtain rfl := dd7
            obtain rfl := dd8
            obtain hbR := id hR
            rw [if_pos (by rfl)]
            go_simp
            (go_at_call 41; (with_reducible refine (HFR.out _ hbR).mono ?_); rintro e wK ⟨aK, cK, rfl, hfK, hbK⟩)
            try go_wp2_with fail
            exact hK.out _ _ (hbK) (⟨aK, _, cK, rfl, hfK.low hbR.size⟩) (fun _ _ _ => ⟨trivial, trivial⟩)
          refine FlowAll.cons ?_ ?_
          · intro xF wx hR hd K hK
            have dd1 : ((xF 1) = .int .i64 xk) := hd 1 (by kernel_rfl)
            have dd4 : (∃ lo2 lc2, (xF 4) = .slice lo2 ln lc2 ∧ Fre wr.heap.size wx (fun W => At W W.heap.size (.slice lo2 ln lc2) xl ∧ TyI W lo2 ln)) := hd 4 (by kernel_rfl)
            have dd5 : ((xF 5) = .int .i64 z) := hd 5 (by kernel_rfl)
            have dd9 : (∃ ko2 kn2 kc2, (xF 9) = .slice ko2 kn2 kc2 ∧ Fre wr.heap.size wx (fun W => RowsAt 4 (curT d) W W.heap.size (.slice ko2 kn2 kc2) ks')) := hd 9 (by kernel_rfl)
            clear hd
            simp only [← hAF, Act.put, List.setIfInBounds_toArray, List.set_cons_zero, List.set_cons_succ] at hK ⊢
            clear hAF
            try simp only [Nat.zero_add] at hK ⊢
            try simp only [Nat.reduceAdd] at hK ⊢
            try generalize xF 1 = yy1 at *
            try generalize xF 4 = yy4 at *
            try generalize xF 5 = yy5 at *
            try generalize xF 9 = yy9 at *
            obtain rfl := dd1
            obtain ⟨lo2, lc2, rfl, hf2⟩ := dd4
            obtain rfl := dd5
            obtain ⟨ko2, kn2, kc2, rfl, hf3⟩ := dd9
            obtain hbR := id hR
            rw [if_pos (by rfl)]
            go_simp
            exact hK.out _ _ (Below.refl _ _) (⟨_, _, _, _, _, rfl, hf2, hf3⟩) (fun _ _ _ => ⟨trivial, trivial⟩)
          exact FlowAll.nil
        intro xF wx hR hF hP
        clear hP
        have dd0 : ((xF 0) = .pointer (some ⟨q0, 0, none⟩)) := hF 0 (by omega) (by decide)
        have dd1 : ((xF 1) = .int .i64 xk) := hF 1 (by omega) (by decide)
        have dd2 : ((xF 2) = .pointer (some ⟨q0, 1, none⟩)) := hF 2 (by omega) (by decide)
        have dd3 : ((xF 3) = .slice lo ln lc) := hF 3 (by omega) (by decide)
        have dd4 : (∃ lo2 lc2, (xF 4) = .slice lo2 ln lc2 ∧ Fre wr.heap.size wx (fun W => At W W.heap.size (.slice lo2 ln lc2) xl ∧ TyI W lo2 ln)) := hF 4 (by omega) (by decide)
        have dd5 : ((xF 5) = .int .i64 z) := hF 5 (by omega) (by decide)
        have dd6 : ((xF 6) = .pointer (some ⟨q0, 3, none⟩)) := hF 6 (by omega) (by decide)
        have dd7 : ((xF 7) = .slice ko kn kc) := hF 7 (by omega) (by decide)
        have dd8 : ((xF 8) = .int .i64 n) := hF 8 (by omega) (by decide)
        have dd9 : (∃ ko2 kn2 kc2, (xF 9) = .slice ko2 kn2 kc2 ∧ Fre wr.heap.size wx (fun W => RowsAt 4 (curT d) W W.heap.size (.slice ko2 kn2 kc2) ks')) := hF 9 (by omega) (by decide)
        have dd10 : (∃ lo2 lc2 ko2 kn2 kc2, (xF 10) = .agg #[.int .i64 xk, .slice lo2 ln lc2, .int .i64 z, .slice ko2 kn2 kc2] ∧ Fre wr.heap.size wx (fun W => At W W.heap.size (.slice lo2 ln lc2) xl ∧ TyI W lo2 ln) ∧ Fre wr.heap.size wx (fun W => RowsAt 4 (curT d) W W.heap.size (.slice ko2 kn2 kc2) ks')) := hF 10 (by omega) (by decide)
        clear hF
        simp only [List.take_succ_cons, List.take_zero, List.drop_succ_cons, List.drop_zero, fillOf, Act.put, List.setIfInBounds_toArray, List.set_cons_zero, List.set_cons_succ, Nat.reduceAdd, Nat.zero_add]
        try generalize xF 0 = yy0 at *
        try generalize xF 1 = yy1 at *
        try generalize xF 2 = yy2 at *
        try generalize xF 3 = yy3 at *
        try generalize xF 4 = yy4 at *
        try generalize xF 5 = yy5 at *
        try generalize xF 6 = yy6 at *
        try generalize xF 7 = yy7 at *
        try generalize xF 8 = yy8 at *
        try generalize xF 9 = yy9 at *
        try generalize xF 10 = yy10 at *
        clear xF
        obtain rfl := dd0
        obtain rfl := dd1
        obtain rfl := dd2
        obtain rfl := dd3
        obtain ⟨lo2, lc2, rfl, hf2⟩ := dd4
        obtain rfl := dd5
        obtain rfl := dd6
        obtain rfl := dd7
        obtain rfl := dd8
        obtain ⟨ko2, kn2, kc2, rfl, hf3⟩ := dd9
        obtain ⟨lo3, lc3, ko3, kn3, kc3, rfl, hf4, hf5⟩ := dd10
        have hRE := Lib.hid hR
        clear hR
        have xx : wx.heap[q0 + 1]? = some (.cells #[.int .i64 0, .slice none 0 0, .int .i64 0, .slice none 0 0] 25 (0, 0)) := (hRE.out.block _ (lt_of_block X4.out)).trans X4.out
        have F4 := Lib.hid hf4
        have F5 := Lib.hid hf5
        clear hf2 hf3 hf4 hf5
        go_wp2_with ((with_reducible show wpList _ _ _ (Oper.mk _ (Op.store 25 (.tmp 4) _) _ _ _ _ :: _) _ _); refine wpList_store_row rfl 25 (.tmp 4) _ rfl (q0 + 1) #[.int .i64 xk, .slice lo3 ln lc3, .int .i64 z, .slice ko3 kn3 kc3] rfl rfl 25 #[.int .i64 0, .slice none 0 0, .int .i64 0, .slice none 0 0] xx csize rfl (by simp [Value.oneCell']) ?_)
        have cc := setRow_heap _ (q0 + 1) _ #[.int .i64 xk, .slice lo3 ln lc3, .int .i64 z, .slice ko3 kn3 kc3] _ _ xx
        have bb := below_setRow (B2.out.trans (hRE.out.mono B2.out.size)) (g := q0 + 1) (by rw [HQ0.out]; omega) #[.int .i64 xk, .slice lo3 ln lc3, .int .i64 z, .slice ko3 kn3 kc3]
        have hst := fre_setRow F4.out (q := q0 + 1) (cs := #[.int .i64 xk, .slice lo3 ln lc3, .int .i64 z, .slice ko3 kn3 kc3]) (by rw [HZ.out]; omega)
        have hst5 := fre_setRow F5.out (q := q0 + 1) (cs := #[.int .i64 xk, .slice lo3 ln lc3, .int .i64 z, .slice ko3 kn3 kc3]) (by rw [HZ.out]; omega)
        obtain ⟨w9, h9⟩ : ∃ W, W = World.setRow wx (q0 + 1) #[.int .i64 xk, .slice lo3 ln lc3, .int .i64 z, .slice ko3 kn3 kc3] := ⟨_, rfl⟩
        rw [← h9] at cc bb hst hst5 ⊢
        clear h9 xx
        have k0 := boxc cc 0 (.int .i64 xk) rfl
        have k1 := boxc cc 1 (.slice lo3 ln lc3) rfl
        have k2 := boxc cc 2 (.int .i64 z) rfl
        have k3 := boxc cc 3 (.slice ko3 kn3 kc3) rfl
        refine bodyPost_ret (v := .agg #[.int .i64 xk, .slice lo3 ln lc3, .int .i64 z, .slice ko3 kn3 kc3]) (by simp [results, Try.results38, go_sem, k0, k1, k2, k3]) rfl ?_
        refine ⟨[.int .i64 xk, .slice lo3 ln lc3, .int .i64 z, .slice ko3 kn3 kc3], rfl, ?_, bb⟩
        intro W' hs hk
        have hB2 := B2.out.size
        refine ⟨lo3, ln, lc3, ko3, kn3, kc3, by rw [← HEND.out]; rfl, (hst W' hs (fun j hj => hk j (by omega))).1, (hst W' hs (fun j hj => hk j (by omega))).2, hst5 W' hs (fun j hj => hk j (by omega))⟩
theorem forth_anyT (n : Int) : ∀ (d : Nat) (x : Cur) (c : List Value) (w : World), curR d w w.heap.size c x → x.sm → Calls Try.prog 38 #[.agg c.toArray, .int .i64 n] w (CurAT d (x.fwd n) w)
  | 0, _, _, _, h, _ => h.elim
  | d + 1, x, c, w, h, hs => forth_ofT d n (fun l v w hl hs hn => from_ofT d n (fun x c w hx hm => forth_anyT n d x c w hx hm) l v w hl hs hn) x c w h hs
theorem from_anyT (n : Int) (d : Nat) (l : List Cur) (v : Value) (w : World) (h : RowsAt 4 (curR d) w w.heap.size v l) (hs : ∀ c ∈ l, c.sm) (hl : l.length ≤ 200000) :
    Calls Try.prog 41 #[v, .int .i64 n] w (CursAT d (l.map (Cur.fwd n)) w) :=
  from_ofT d n (fun x c w hx hm => forth_anyT n d x c w hx hm) l v w h hs hl
set_option maxHeartbeats 3200000 in
set_option maxRecDepth 100000 in
theorem cminus_anyT (d : Nat) (x : Cur) (c : List Value) (l : List Cur) (v : Value) (w : World) (hx : curR d w w.heap.size c x) (hxs : x.sm) (h : RowsAt 4 (curR d) w w.heap.size v l) (hs : ∀ c ∈ l, c.sm) (hl : l.length ≤ 100000) : Calls Try.prog 24 #[.agg c.toArray, v] w (CurAT (d + 1) (.mk 4 [] 0 ((x :: l).map (Cur.fwd (-9223372036854775808)))) w) := by
  have HFR : Hid (∀ (v : Value) (W : World), RowsAt 4 (curR d) W W.heap.size v (x :: l) → Calls Try.prog 41 #[v, .int .i64 (-9223372036854775808)] W (CursAT d ((x :: l).map (Cur.fwd (-9223372036854775808))) W)) := fun v W hv => from_anyT (-9223372036854775808) d (x :: l) v W hv (fun c hc => (List.mem_cons.1 hc).elim (fun e => by rw [e]; exact hxs) (fun hc => hs c hc)) (by rw [List.length_cons]; omega)
  obtain ⟨ks, hks⟩ : ∃ ks, ks = (x :: l).map (Cur.fwd (-9223372036854775808)) := ⟨_, rfl⟩
  rw [← hks] at HFR ⊢
  obtain ⟨lo, ln, lc, ko, kn, kc, rfl⟩ := cur_form hx
  obtain ⟨q0, hq0⟩ : ∃ q, q = w.heap.size := ⟨_, rfl⟩
  obtain ⟨W2, hW2⟩ : ∃ W, W = (w.alloc (.cells #[.int .i64 x.k, .slice lo ln lc, .int .i64 x.a, .slice ko kn kc] 25)).alloc (.cells #[.int .i64 0, .slice none 0 0, .int .i64 0, .slice none 0 0] 25) := ⟨_, rfl⟩
  have b2 : Below w.heap.size w W2 := by rw [hW2]; exact below1.trans (below1.mono (by simp))
  have x2 : W2.heap[q0]? = some (.cells #[.int .i64 x.k, .slice lo ln lc, .int .i64 x.a, .slice ko kn kc] 25) := by
    rw [hW2]; exact (below1.block q0 (by rw [World.size_alloc, hq0]; omega)).trans (by rw [hq0]; exact heap_alloc_new _ _)
  have x4 : W2.heap[q0 + 1]? = some (.cells #[.int .i64 0, .slice none 0 0, .int .i64 0, .slice none 0 0] 25) := by
    have : q0 + 1 = (w.alloc (.cells #[.int .i64 x.k, .slice lo ln lc, .int .i64 x.a, .slice ko kn kc] 25)).heap.size := by rw [World.size_alloc, hq0]
    rw [hW2, this]; exact heap_alloc_new _ _
  obtain ⟨n, hn⟩ : ∃ n, n = l.length := ⟨_, rfl⟩
  obtain ⟨ao, cap, rfl, _⟩ := h.form' hn
  obtain ⟨cs, h0, hel, hCL⟩ := h
  rw [← hn] at hCL
  have HNONE : Hid (ao = none → n = 0 ∧ cap = 0) := (Cells.news hCL).1
  have HCC : Hid (∀ W, Below w.heap.size w W → ∀ ad, ao = some ad → ∀ (j : Nat) u, cs.flatten[j]? = some u → W.cell? (ad.add j) = some u) := fun W hW => (Cells.news (hCL.next hW)).2
  have HLE : Hid (cs.flatten.length = n * 4) := hCL.1
  have HONE : Hid (∀ u ∈ cs.flatten, u.oneCell' = true) := by
    intro u hu
    obtain ⟨c, hc, huc⟩ := List.mem_flatten.1 hu
    obtain ⟨j, hj, rfl⟩ := List.mem_iff_getElem.1 hc
    exact (cur_one (hel j _ l[j] (List.getElem?_eq_getElem hj) (List.getElem?_eq_getElem (by omega))).2).2 u huc
  have HRW : Hid (∀ (v : Value) (W : World), Below w.heap.size w W → W.ownsRow W2.heap.size 25 4 v (1 + n) ((#[.int .i64 x.k, .slice lo ln lc, .int .i64 x.a, .slice ko kn kc] : Array Value).toList ++ cs.flatten) → RowsAt 4 (curR d) W W.heap.size v (x :: l)) := by
    intro v W hW ho
    refine RowsAt.own (e := 25) (base := W2.heap.size) (n := 1 + n) (cs := (#[.int .i64 x.k, .slice lo ln lc, .int .i64 x.a, .slice ko kn kc] : Array Value).toList :: cs) (by rw [List.length_cons, hn]; omega) (by rw [List.length_cons, List.length_cons, h0]) ?_ (by rw [List.flatten_cons]; exact ho)
    intro j c' x' hc' hx'
    cases j with
    | zero =>
      simp only [List.getElem?_cons_zero, Option.some.injEq] at hc' hx'
      subst hc'; subst hx'
      exact ⟨rfl, curR_steady d _ _ _ _ _ _ hx hW hW.size⟩
    | succ j =>
      simp only [List.getElem?_cons_succ] at hc' hx'
      exact ⟨(hel j c' x' hc' hx').1, curR_steady d _ _ _ _ _ _ (hel j c' x' hc' hx').2 hW hW.size⟩
  obtain ⟨xs, hxs'⟩ : ∃ xs, xs = cs.flatten := ⟨_, rfl⟩
  rw [← hxs'] at HCC HLE HONE HRW
  have hnb : n ≤ 100000 := by omega
  have X4 := Lib.hid x4
  have X2 := Lib.hid x2
  have B2 := Lib.hid b2
  have HW2 := Lib.hid hW2
  have HQ0 := Lib.hid hq0
  have c0 := boxc x2 0 _ rfl
  have c1 := boxc x2 1 _ rfl
  have c2 := boxc x2 2 _ rfl
  have c3 := boxc x2 3 _ rfl
  rw [hW2, hq0] at c0 c1 c2 c3
  obtain ⟨xk, hxk⟩ : ∃ z, z = x.k := ⟨_, rfl⟩
  obtain ⟨xa, hxa⟩ : ∃ z, z = x.a := ⟨_, rfl⟩
  rw [← hxk, ← hxa] at X2 HW2 hW2 HRW c0 c1 c2 c3 ⊢
  have hx3 := own_lit (W := W2) (k := 4) (arr := #[.int .i64 xk, .slice lo ln lc, .int .i64 xa, .slice ko kn kc]) (T := 25) rfl
  rw [hW2] at hx3
  simp only [World.size_alloc] at hx3
  have HX3 := Lib.hid hx3
  have HSZ2 : Hid (W2.heap.size = w.heap.size + 1 + 1) := by show _ = _; rw [hW2, World.size_alloc, World.size_alloc]
  clear hx3
  have HBX : Hid (Below w.heap.size w (((w.alloc (.cells #[.int .i64 xk, .slice lo ln lc, .int .i64 xa, .slice ko kn kc] 25)).alloc (.cells #[.int .i64 0, .slice none 0 0, .int .i64 0, .slice none 0 0] 25)).alloc (.cells #[.int .i64 xk, .slice lo ln lc, .int .i64 xa, .slice ko kn kc] 25))) := (below1.trans (below1.mono (by simp))).trans (below1.mono (by simp only [World.size_alloc]; omega))
  clear hn b2 x4 x2 hW2 hq0 hl hs hks hx hxs h0 hel hCL hxs' hxk hxa
  go_enter Try.func24, Try.ntmps24
  go_wp2_with (at_builtin; refine kit.appN (.tmp 6) (.tmp 7) 23 rfl rfl _ Try.underlying23 infoCur rfl (by decide) (by decide) HX3.out rfl xs rfl HLE.out HNONE.out (HCC.out _ HBX.out) HONE.out (by omega) (by simp) ?_)
  intro v4 w4 ho4 hb4
  rw [← HW2.out] at hb4
  rw [← HSZ2.out] at ho4 hb4
  have hb4' : Below W2.heap.size W2 w4 := below1.trans hb4
  obtain ⟨ao4, cap4, rfl⟩ := own_slice ho4
  have HC := Lib.hid (HFR.out _ w4 (HRW.out _ w4 (B2.out.trans (hb4'.mono B2.out.size)) ho4))
  have B4 := Lib.hid hb4'
  clear ho4 hb4 hb4' c0 c1 c2 c3
  go_wp2_with fail
  (with_reducible refine HC.out.mono ?_)
  rintro e w5 ⟨ko5, kc5, rfl, hf, b5⟩
  obtain ⟨m, hm⟩ : ∃ m, m = ks.length := ⟨_, rfl⟩
  rw [← hm] at hf ⊢
  have HF := Lib.hid hf
  have C5 := Lib.hid (B4.out.trans (b5.mono B4.out.size))
  have B5 := Lib.hid (B2.out.trans (C5.out.mono B2.out.size))
  have X5 := Lib.hid ((C5.out.block _ (lt_of_block X4.out)).trans X4.out)
  have HS : Hid (q0 + 1 < w4.heap.size) := Nat.lt_of_lt_of_le (lt_of_block X4.out) B4.out.size
  clear hf b5 hm
  simp only [← HQ0.out]
  have xx : w5.heap[q0 + 1]? = some (.cells #[.int .i64 0, .slice none 0 0, .int .i64 0, .slice none 0 0] 25 (0, 0)) := X5.out
  go_wp2_with ((with_reducible show wpList _ _ _ (Oper.mk _ (Op.store 25 (.tmp 4) _) _ _ _ _ :: _) _ _); refine wpList_store_row rfl 25 (.tmp 4) _ rfl (q0 + 1) #[.int .i64 4, .slice none 0 0, .int .i64 0, .slice ko5 m kc5] rfl rfl 25 #[.int .i64 0, .slice none 0 0, .int .i64 0, .slice none 0 0] xx csize rfl (by simp [Value.oneCell']) ?_)
  have cc := setRow_heap _ (q0 + 1) _ #[.int .i64 4, .slice none 0 0, .int .i64 0, .slice ko5 m kc5] _ _ xx
  have bb := below_setRow (B5.out) (g := q0 + 1) (by rw [HQ0.out]; omega) #[.int .i64 4, .slice none 0 0, .int .i64 0, .slice ko5 m kc5]
  have ff := fre_setRow HF.out (q := q0 + 1) (cs := #[.int .i64 4, .slice none 0 0, .int .i64 0, .slice ko5 m kc5]) HS.out
  obtain ⟨w9, h9⟩ : ∃ W, W = World.setRow w5 (q0 + 1) #[.int .i64 4, .slice none 0 0, .int .i64 0, .slice ko5 m kc5] := ⟨_, rfl⟩
  rw [← h9] at cc bb ff ⊢
  clear h9 xx
  have k0 := boxc cc 0 (.int .i64 4) rfl
  have k1 := boxc cc 1 (.slice none 0 0) rfl
  have k2 := boxc cc 2 (.int .i64 0) rfl
  have k3 := boxc cc 3 (.slice ko5 m kc5) rfl
  refine bodyPost_ret (v := .agg #[.int .i64 4, .slice none 0 0, .int .i64 0, .slice ko5 m kc5]) (by simp [results, Try.results24, go_sem, k0, k1, k2, k3]) rfl ?_
  exact ⟨[.int .i64 4, .slice none 0 0, .int .i64 0, .slice ko5 m kc5], rfl, FreA.low (ff.imp (fun W hW => ⟨none, 0, 0, ko5, m, kc5, rfl, at_.nil _ _, (fun h => absurd h (by decide)), hW⟩)) (Nat.le_trans B2.out.size B4.out.size), bb⟩
end Go.Proofs.Ytojngbobecdpeaa
