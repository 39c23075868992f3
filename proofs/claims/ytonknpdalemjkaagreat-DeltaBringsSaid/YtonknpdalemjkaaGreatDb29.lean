/- texts put together: DelUnd. -/
import Derived.Test.YtonknpdalemjkaaGreatDe00
import Derived.Test.YtonknpdalemjkaaGreatDe01
import Derived.Test.YtonknpdalemjkaaGreatDe02
import Derived.Test.YtonknpdalemjkaaGreatDe03
import Derived.Test.YtonknpdalemjkaaGreatDe04
import Derived.Test.YtonknpdalemjkaaGreatDe05
import Derived.Test.YtonknpdalemjkaaGreatDe06
import Derived.Test.YtonknpdalemjkaaGreatDe07
import Derived.Test.YtonknpdalemjkaaGreatDe08
import Derived.Test.YtonknpdalemjkaaGreatDe09
import Derived.Test.YtonknpdalemjkaaGreatDe10
import Derived.Test.YtonknpdalemjkaaGreatDe11
import Derived.Test.YtonknpdalemjkaaGreatDe12
import Derived.Test.YtonknpdalemjkaaGreatDe13
import Derived.Test.YtonknpdalemjkaaGreatDe14
import Derived.Test.YtonknpdalemjkaaGreatDe15
import Derived.Test.YtonknpdalemjkaaGreatDe16
import Derived.Test.YtonknpdalemjkaaGreatDe17
import Derived.Test.YtonknpdalemjkaaGreatDe18
import Derived.Test.YtonknpdalemjkaaGreatDe19
import Derived.Test.YtonknpdalemjkaaGreatDe20
import Derived.Test.YtonknpdalemjkaaGreatDe21
import Derived.Test.YtonknpdalemjkaaGreatDe22
import Derived.Test.YtonknpdalemjkaaGreatDe23
import Derived.Test.YtonknpdalemjkaaGreatDe24
import Derived.Test.YtonknpdalemjkaaGreatDe25
import Derived.Test.YtonknpdalemjkaaGreatDe26
import Derived.Test.YtonknpdalemjkaaGreatDe27
import Derived.Test.YtonknpdalemjkaaGreatDe28
import Derived.Test.YtonknpdalemjkaaGreatDb11
import Derived.Test.YtonknpdalemjkaaGreatDb12
import Derived.Test.YtonknpdalemjkaaGreatDb13
import Derived.Test.YtonknpdalemjkaaGreatDb28
open List (setIfInBounds_toArray set_cons_zero set_cons_succ take_succ_cons take_zero drop_succ_cons drop_zero)
namespace Go.Proofs.YtonknpdalemjkaaGreat
open Go Go.RowKit Go.ChangeShapes cl Go.Sort
theorem dm.under_iff {a b j : dm.Ctx} (hb : dm.Right b) (hj : dm.Right j) (hk : ∀ e, dm.Knows j e ↔ dm.Knows b e ∨ dm.Knows a e) : j = b ↔ ∀ e, dm.Knows a e → dm.Knows b e := by
 constructor
 ·
  rintro rfl e h
  exact (hk e).2 (Or.inr h)
 ·
  intro h
  refine dm.ext hj hb fun e => ?_
  rw [hk]
  exact ⟨fun x => x.elim id (h e), Or.inl⟩
theorem underB_yes {a b : dm.Ctx} (ha : dm.rightB a = true) (hb : dm.rightB b = true) {j : dm.Ctx} {m : Nat} (hj : dm.Is j (fun e => dm.Knows b e ∨ dm.Knows a e) m) (hr : dm.Right b) : decide (j = b) = underB a b := by
 unfold underB
 rw [ha, hb, Bool.true_and, Bool.true_and]
 exact decide_eq_decide.2 (dm.under_iff hr hj.right hj.know)
set_option maxHeartbeats 6400000 in
set_option maxRecDepth 100000 in
theorem under_any (a b : dm.Ctx) (va vb : Value) (w : World) (ha : CtxAt w w.heap.size va a) (hb : CtxAt w w.heap.size vb b) (hla : a.2.length ≤ 400000) (hlb : b.2.length ≤ 400000) :
  Calls Tryz.prog 26 #[va, vb] w (SaidD (underB a b) w) := by
 obtain ⟨v1, v2, rfl, h1, h2⟩ := ha
 obtain ⟨u1, u2, rfl, h3, h4⟩ := hb
 obtain ⟨a1, c1, rfl, _, _⟩ := h1.form
 obtain ⟨a2, c2, rfl, _, _⟩ := h2.form
 obtain ⟨b1, d1, rfl, _, _⟩ := h3.form
 obtain ⟨b2, d2, rfl, _, _⟩ := h4.form
 have HCA : Hid (CtxAt w w.heap.size (.agg #[.slice a1 a.1.length c1, .slice a2 a.2.length c2]) a) := ⟨_, _, rfl, h1, h2⟩
 have HCB : Hid (CtxAt w w.heap.size (.agg #[.slice b1 b.1.length d1, .slice b2 b.2.length d2]) b) := ⟨_, _, rfl, h3, h4⟩
 clear h1 h2 h3 h4
 obtain ⟨m1, hm1⟩ : ∃ m, m = a.2.length := ⟨_, rfl⟩
 obtain ⟨m2, hm2⟩ : ∃ m, m = b.2.length := ⟨_, rfl⟩
 obtain ⟨n1, hn1⟩ : ∃ m, m = a.1.length := ⟨_, rfl⟩
 obtain ⟨n2, hn2⟩ : ∃ m, m = b.1.length := ⟨_, rfl⟩
 rw [← hm1] at hla HCA ⊢
 rw [← hm2] at hlb HCB ⊢
 rw [← hn1] at HCA ⊢
 rw [← hn2] at HCB ⊢
 have HM1 := Lib.hid hm1
 have HM2 := Lib.hid hm2
 have hA : Below w.heap.size w ((w.alloc (.cells #[.slice a1 n1 c1, .slice a2 m1 c2] 25)).alloc (.cells #[.slice b1 n2 d1, .slice b2 m2 d2] 25)) :=
  ((Below.refl _ _).alloc (Nat.le_refl _) _).alloc (by simp) _
 have HR0 : Hid (UndR w.heap.size (.slice a1 n1 c1) (.slice a2 m1 c2) (.slice b1 n2 d1) (.slice b2 m2 d2) ((w.alloc (.cells #[.slice a1 n1 c1, .slice a2 m1 c2] 25)).alloc (.cells #[.slice b1 n2 d1, .slice b2 m2 d2] 25)) ((w.alloc (.cells #[.slice a1 n1 c1, .slice a2 m1 c2] 25)).alloc (.cells #[.slice b1 n2 d1, .slice b2 m2 d2] 25))) := by
  refine ⟨?_, ?_, ?_, ?_, Below.refl _ _, by simp⟩ <;> go_simp
 clear hm1 hm2 hn1 hn2
 obtain ⟨w2, hw2⟩ : ∃ W, W = (w.alloc (.cells #[.slice a1 n1 c1, .slice a2 m1 c2] 25)).alloc (.cells #[.slice b1 n2 d1, .slice b2 m2 d2] 25) := ⟨_, rfl⟩
 rw [← hw2] at hA HR0
 have HW := Lib.hid hw2
 have HRI : Hid (∀ W, Below (w.heap.size + 2) w2 W → Calls Tryz.prog 31 #[.agg #[.slice a1 n1 c1, .slice a2 m1 c2]] W (SaidD (dm.rightB a) W)) := fun W hW => right_any a _ W (HCA.out.next (hA.trans (hW.mono (by omega))))
 have HRJ : Hid (∀ W, Below (w.heap.size + 2) w2 W → Calls Tryz.prog 31 #[.agg #[.slice b1 n2 d1, .slice b2 m2 d2]] W (SaidD (dm.rightB b) W)) := fun W hW => right_any b _ W (HCB.out.next (hA.trans (hW.mono (by omega))))
 have HJN0 : Hid (dm.Right a → dm.Right b → ∀ W, Below (w.heap.size + 2) w2 W → Calls Tryz.prog 45 #[.agg #[.slice b1 n2 d1, .slice b2 m2 d2], .agg #[.slice a1 n1 c1, .slice a2 m1 c2]] W (CtxP (fun e => dm.Knows b e ∨ dm.Knows a e) (m2 + m1) W)) := fun hra hrb W hW => by
  have := join_yes b a _ _ W (HCB.out.next (hA.trans (hW.mono (by omega)))) (HCA.out.next (hA.trans (hW.mono (by omega)))) hrb hra (by rw [← HM2.out]; exact hlb) (by rw [← HM1.out]; exact hla)
  rwa [← HM1.out, ← HM2.out] at this
 have HSM0 : Hid (dm.rightB a = true → dm.rightB b = true → dm.Right b → ∀ (v : Value) (c : dm.Ctx) (W : World), Below (w.heap.size + 2) w2 W → CtxAt W W.heap.size v c → dm.Is c (fun e => dm.Knows b e ∨ dm.Knows a e) (m2 + m1) → Calls Tryz.prog 28 #[v, .agg #[.slice b1 n2 d1, .slice b2 m2 d2]] W (SaidD (underB a b) W)) := fun h1 h2 hr v c W hW hc hs => by
  have := csame_any c b v _ W hc (HCB.out.next (hA.trans (hW.mono (by omega))))
  rwa [underB_yes h1 h2 hs hr] at this
 clear hw2
 cases hra : dm.rightB a with
 | false =>
  have HU : Hid (underB a b = false) := by show underB a b = false; unfold underB; rw [hra]; rfl
  rw [hra] at HRI
  clear HJN0 HSM0 hra
  go_enter Tryz.func26, Tryz.ntmps26
  go_wp2_with fail
  rw [← HW.out]
  refine wp_flow 13 (fun _ => 1000) (fun ww => UndR w.heap.size (.slice a1 n1 c1) (.slice a2 m1 c2) (.slice b1 n2 d1) (.slice b2 m2 d2) w2 ww) (fun _ w w' => (fun (w w' : World) => RowKit.Below w.heap.size w w') w w') (fun kF vF wF => match kF with | 0 => (vF = .agg #[.slice a1 n1 c1, .slice a2 m1 c2]) | 1 => (vF = .bool false) | 2 => (vF = .bool false) | 3 => (vF = undef) | 4 => (vF = undef) | 5 => (vF = .bool false) | 6 => (vF = .bool false) | 7 => (vF = undef) | 8 => (vF = undef) | 9 => (vF = undef) | 10 => (vF = undef) | 11 => (vF = undef) | 12 => (vF = .bool false) | _ => True) (fun _ _ _ _ => True) (by kernel_rfl) (by kernel_rfl) ?_ ?_ ?_ ?_ ?_
  ·
   exact UndR.start HR0.out
  ·
   intro iF wF1 wF2 hR hT; exact hR.step hR.size hT
  ·
   intro kF hkF iF hiF hne hdd hanc hdan vF wF1 wF2 h hT
   rcases (by omega : kF = 0 ∨ kF = 1 ∨ kF = 2 ∨ kF = 3 ∨ kF = 4 ∨ kF = 5 ∨ kF = 6 ∨ kF = 7 ∨ kF = 8 ∨ kF = 9 ∨ kF = 10 ∨ kF = 11 ∨ kF = 12) with rfl | rfl | rfl | rfl | rfl | rfl | rfl | rfl | rfl | rfl | rfl | rfl | rfl
   ·
    have h : (vF = .agg #[.slice a1 n1 c1, .slice a2 m1 c2]) := h
    show (vF = .agg #[.slice a1 n1 c1, .slice a2 m1 c2])
    have hT : (fun (w w' : World) => RowKit.Below w.heap.size w w') wF1 wF2 := hT
    simp only at hT
    exact h
   ·
    have h : (vF = .bool false) := h
    show (vF = .bool false)
    have hT : (fun (w w' : World) => RowKit.Below w.heap.size w w') wF1 wF2 := hT
    simp only at hT
    exact h
   ·
    have h : (vF = .bool false) := h
    show (vF = .bool false)
    have hT : (fun (w w' : World) => RowKit.Below w.heap.size w w') wF1 wF2 := hT
    simp only at hT
    exact h
   ·
    have h : (vF = undef) := h
    show (vF = undef)
    have hT : (fun (w w' : World) => RowKit.Below w.heap.size w w') wF1 wF2 := hT
    simp only at hT
    exact h
   ·
    have h : (vF = undef) := h
    show (vF = undef)
    have hT : (fun (w w' : World) => RowKit.Below w.heap.size w w') wF1 wF2 := hT
    simp only at hT
    exact h
   ·
    have h : (vF = .bool false) := h
    show (vF = .bool false)
    have hT : (fun (w w' : World) => RowKit.Below w.heap.size w w') wF1 wF2 := hT
    simp only at hT
    exact h
   ·
    have h : (vF = .bool false) := h
    show (vF = .bool false)
    have hT : (fun (w w' : World) => RowKit.Below w.heap.size w w') wF1 wF2 := hT
    simp only at hT
    exact h
   ·
    have h : (vF = undef) := h
    show (vF = undef)
    have hT : (fun (w w' : World) => RowKit.Below w.heap.size w w') wF1 wF2 := hT
    simp only at hT
    exact h
   ·
    have h : (vF = undef) := h
    show (vF = undef)
    have hT : (fun (w w' : World) => RowKit.Below w.heap.size w w') wF1 wF2 := hT
    simp only at hT
    exact h
   ·
    have h : (vF = undef) := h
    show (vF = undef)
    have hT : (fun (w w' : World) => RowKit.Below w.heap.size w w') wF1 wF2 := hT
    simp only at hT
    exact h
   ·
    have h : (vF = undef) := h
    show (vF = undef)
    have hT : (fun (w w' : World) => RowKit.Below w.heap.size w w') wF1 wF2 := hT
    simp only at hT
    exact h
   ·
    have h : (vF = undef) := h
    show (vF = undef)
    have hT : (fun (w w' : World) => RowKit.Below w.heap.size w w') wF1 wF2 := hT
    simp only at hT
    exact h
   ·
    have h : (vF = .bool false) := h
    show (vF = .bool false)
    have hT : (fun (w w' : World) => RowKit.Below w.heap.size w w') wF1 wF2 := hT
    simp only at hT
    exact h
  ·
   refine FlowAll.cons ?_ ?_
   ·
    intro xF ww hR hd K hK
    clear hd
    simp only [take_succ_cons, take_zero, fillOf, Act.put, setIfInBounds_toArray, set_cons_zero, set_cons_succ, Nat.reduceAdd, Nat.zero_add] at hK ⊢
    try generalize xF 0 = yy0 at *
    try generalize xF 1 = yy1 at *
    try generalize xF 2 = yy2 at *
    try generalize xF 3 = yy3 at *
    try generalize xF 4 = yy4 at *
    try generalize xF 5 = yy5 at *
    try generalize xF 6 = yy6 at *
    try generalize xF 7 = yy7 at *
    try generalize xF 8 = yy8 at *
    try generalize xF 9 = yy9 at *
    try generalize xF 10 = yy10 at *
    try generalize xF 11 = yy11 at *
    try generalize xF 12 = yy12 at *
    clear xF
    obtain ⟨r0, r1, r2, r3, hbl, hsz⟩ := id hR
    rw [if_pos (by rfl)]
    go_simp
    refine hK.out _ _ ?_ ?_ ?_
    ·
     exact Below.refl _ _
    ·
     exact rfl
    ·
     exact fun _ _ _ => ⟨trivial, trivial⟩
   refine FlowAll.cons ?_ ?_
   ·
    intro xF ww hR hd K hK
    have dd0 := hd 0 (by kernel_rfl)
    clear hd
    simp only [take_succ_cons, take_zero, fillOf, Act.put, setIfInBounds_toArray, set_cons_zero, set_cons_succ, Nat.reduceAdd, Nat.zero_add] at hK ⊢
    try generalize xF 0 = yy0 at *
    try generalize xF 1 = yy1 at *
    try generalize xF 2 = yy2 at *
    try generalize xF 3 = yy3 at *
    try generalize xF 4 = yy4 at *
    try generalize xF 5 = yy5 at *
    try generalize xF 6 = yy6 at *
    try generalize xF 7 = yy7 at *
    try generalize xF 8 = yy8 at *
    try generalize xF 9 = yy9 at *
    try generalize xF 10 = yy10 at *
    try generalize xF 11 = yy11 at *
    try generalize xF 12 = yy12 at *
    clear xF
    obtain rfl := dd0
    obtain ⟨r0, r1, r2, r3, hbl, hsz⟩ := id hR
    rw [if_pos (by rfl)]
    go_simp
    (go_at_call 31; (with_reducible refine (HRI.out _ hR.below).mono ?_); rintro e wK ⟨rfl, hbK⟩)
    try go_wp2_with fail
    refine hK.out _ _ ?_ ?_ ?_
    ·
     exact hbK
    ·
     exact rfl
    ·
     exact fun _ _ _ => ⟨trivial, trivial⟩
   refine FlowAll.cons ?_ ?_
   ·
    intro xF ww hR hd K hK
    have dd1 := hd 1 (by kernel_rfl)
    clear hd
    simp only [take_succ_cons, take_zero, fillOf, Act.put, setIfInBounds_toArray, set_cons_zero, set_cons_succ, Nat.reduceAdd, Nat.zero_add] at hK ⊢
    try generalize xF 0 = yy0 at *
    try generalize xF 1 = yy1 at *
    try generalize xF 2 = yy2 at *
    try generalize xF 3 = yy3 at *
    try generalize xF 4 = yy4 at *
    try generalize xF 5 = yy5 at *
    try generalize xF 6 = yy6 at *
    try generalize xF 7 = yy7 at *
    try generalize xF 8 = yy8 at *
    try generalize xF 9 = yy9 at *
    try generalize xF 10 = yy10 at *
    try generalize xF 11 = yy11 at *
    try generalize xF 12 = yy12 at *
    clear xF
    obtain rfl := dd1
    obtain ⟨r0, r1, r2, r3, hbl, hsz⟩ := id hR
    rw [if_pos (by rfl)]
    go_simp
    refine hK.out _ _ ?_ ?_ ?_
    ·
     exact Below.refl _ _
    ·
     exact rfl
    ·
     exact fun _ _ _ => ⟨trivial, trivial⟩
   refine FlowAll.cons ?_ ?_
   ·
    intro xF ww hR hd K hK
    have dd2 := hd 2 (by kernel_rfl)
    clear hd
    simp only [take_succ_cons, take_zero, fillOf, Act.put, setIfInBounds_toArray, set_cons_zero, set_cons_succ, Nat.reduceAdd, Nat.zero_add] at hK ⊢
    try generalize xF 0 = yy0 at *
    try generalize xF 1 = yy1 at *
    try generalize xF 2 = yy2 at *
    try generalize xF 3 = yy3 at *
    try generalize xF 4 = yy4 at *
    try generalize xF 5 = yy5 at *
    try generalize xF 6 = yy6 at *
    try generalize xF 7 = yy7 at *
    try generalize xF 8 = yy8 at *
    try generalize xF 9 = yy9 at *
    try generalize xF 10 = yy10 at *
    try generalize xF 11 = yy11 at *
    try generalize xF 12 = yy12 at *
    clear xF
    obtain rfl := dd2
    obtain ⟨r0, r1, r2, r3, hbl, hsz⟩ := id hR
    rw [if_neg (by intro h; exact absurd (show false = true from h) Bool.false_ne_true)]
    try simp only [Act.put, setIfInBounds_toArray, set_cons_zero, set_cons_succ]
    refine hK.out _ _ ?_ ?_ ?_
    ·
     exact Below.refl _ _
    ·
     exact rfl
    ·
     exact fun _ _ _ => ⟨trivial, trivial⟩
   refine FlowAll.cons ?_ ?_
   ·
    intro xF ww hR hd K hK
    have dd2 := hd 2 (by kernel_rfl)
    clear hd
    simp only [take_succ_cons, take_zero, fillOf, Act.put, setIfInBounds_toArray, set_cons_zero, set_cons_succ, Nat.reduceAdd, Nat.zero_add] at hK ⊢
    try generalize xF 0 = yy0 at *
    try generalize xF 1 = yy1 at *
    try generalize xF 2 = yy2 at *
    try generalize xF 3 = yy3 at *
    try generalize xF 4 = yy4 at *
    try generalize xF 5 = yy5 at *
    try generalize xF 6 = yy6 at *
    try generalize xF 7 = yy7 at *
    try generalize xF 8 = yy8 at *
    try generalize xF 9 = yy9 at *
    try generalize xF 10 = yy10 at *
    try generalize xF 11 = yy11 at *
    try generalize xF 12 = yy12 at *
    clear xF
    obtain rfl := dd2
    obtain ⟨r0, r1, r2, r3, hbl, hsz⟩ := id hR
    rw [if_neg (by intro h; exact absurd (show false = true from h) Bool.false_ne_true)]
    try simp only [Act.put, setIfInBounds_toArray, set_cons_zero, set_cons_succ]
    refine hK.out _ _ ?_ ?_ ?_
    ·
     exact Below.refl _ _
    ·
     exact rfl
    ·
     exact fun _ _ _ => ⟨trivial, trivial⟩
   refine FlowAll.cons ?_ ?_
   ·
    intro xF ww hR hd K hK
    have dd2 := hd 2 (by kernel_rfl)
    have dd4 := hd 4 (by kernel_rfl)
    clear hd
    simp only [take_succ_cons, take_zero, fillOf, Act.put, setIfInBounds_toArray, set_cons_zero, set_cons_succ, Nat.reduceAdd, Nat.zero_add] at hK ⊢
    try generalize xF 0 = yy0 at *
    try generalize xF 1 = yy1 at *
    try generalize xF 2 = yy2 at *
    try generalize xF 3 = yy3 at *
    try generalize xF 4 = yy4 at *
    try generalize xF 5 = yy5 at *
    try generalize xF 6 = yy6 at *
    try generalize xF 7 = yy7 at *
    try generalize xF 8 = yy8 at *
    try generalize xF 9 = yy9 at *
    try generalize xF 10 = yy10 at *
    try generalize xF 11 = yy11 at *
    try generalize xF 12 = yy12 at *
    clear xF
    obtain rfl := dd2
    obtain rfl := dd4
    obtain ⟨r0, r1, r2, r3, hbl, hsz⟩ := id hR
    rw [if_pos (by rfl)]
    go_simp
    refine hK.out _ _ ?_ ?_ ?_
    ·
     exact Below.refl _ _
    ·
     exact rfl
    ·
     exact fun _ _ _ => ⟨trivial, trivial⟩
   refine FlowAll.cons ?_ ?_
   ·
    intro xF ww hR hd K hK
    have dd5 := hd 5 (by kernel_rfl)
    clear hd
    simp only [take_succ_cons, take_zero, fillOf, Act.put, setIfInBounds_toArray, set_cons_zero, set_cons_succ, Nat.reduceAdd, Nat.zero_add] at hK ⊢
    try generalize xF 0 = yy0 at *
    try generalize xF 1 = yy1 at *
    try generalize xF 2 = yy2 at *
    try generalize xF 3 = yy3 at *
    try generalize xF 4 = yy4 at *
    try generalize xF 5 = yy5 at *
    try generalize xF 6 = yy6 at *
    try generalize xF 7 = yy7 at *
    try generalize xF 8 = yy8 at *
    try generalize xF 9 = yy9 at *
    try generalize xF 10 = yy10 at *
    try generalize xF 11 = yy11 at *
    try generalize xF 12 = yy12 at *
    clear xF
    obtain rfl := dd5
    obtain ⟨r0, r1, r2, r3, hbl, hsz⟩ := id hR
    rw [if_pos (by rfl)]
    go_simp
    refine hK.out _ _ ?_ ?_ ?_
    ·
     exact Below.refl _ _
    ·
     exact rfl
    ·
     exact fun _ _ _ => ⟨trivial, trivial⟩
   refine FlowAll.cons ?_ ?_
   ·
    intro xF ww hR hd K hK
    have dd6 := hd 6 (by kernel_rfl)
    clear hd
    simp only [take_succ_cons, take_zero, fillOf, Act.put, setIfInBounds_toArray, set_cons_zero, set_cons_succ, Nat.reduceAdd, Nat.zero_add] at hK ⊢
    try generalize xF 0 = yy0 at *
    try generalize xF 1 = yy1 at *
    try generalize xF 2 = yy2 at *
    try generalize xF 3 = yy3 at *
    try generalize xF 4 = yy4 at *
    try generalize xF 5 = yy5 at *
    try generalize xF 6 = yy6 at *
    try generalize xF 7 = yy7 at *
    try generalize xF 8 = yy8 at *
    try generalize xF 9 = yy9 at *
    try generalize xF 10 = yy10 at *
    try generalize xF 11 = yy11 at *
    try generalize xF 12 = yy12 at *
    clear xF
    obtain rfl := dd6
    obtain ⟨r0, r1, r2, r3, hbl, hsz⟩ := id hR
    rw [if_neg (by intro h; exact absurd (show false = true from h) Bool.false_ne_true)]
    try simp only [Act.put, setIfInBounds_toArray, set_cons_zero, set_cons_succ]
    refine hK.out _ _ ?_ ?_ ?_
    ·
     exact Below.refl _ _
    ·
     exact rfl
    ·
     exact fun _ _ _ => ⟨trivial, trivial⟩
   refine FlowAll.cons ?_ ?_
   ·
    intro xF ww hR hd K hK
    have dd6 := hd 6 (by kernel_rfl)
    clear hd
    simp only [take_succ_cons, take_zero, fillOf, Act.put, setIfInBounds_toArray, set_cons_zero, set_cons_succ, Nat.reduceAdd, Nat.zero_add] at hK ⊢
    try generalize xF 0 = yy0 at *
    try generalize xF 1 = yy1 at *
    try generalize xF 2 = yy2 at *
    try generalize xF 3 = yy3 at *
    try generalize xF 4 = yy4 at *
    try generalize xF 5 = yy5 at *
    try generalize xF 6 = yy6 at *
    try generalize xF 7 = yy7 at *
    try generalize xF 8 = yy8 at *
    try generalize xF 9 = yy9 at *
    try generalize xF 10 = yy10 at *
    try generalize xF 11 = yy11 at *
    try generalize xF 12 = yy12 at *
    clear xF
    obtain rfl := dd6
    obtain ⟨r0, r1, r2, r3, hbl, hsz⟩ := id hR
    rw [if_neg (by intro h; exact absurd (show false = true from h) Bool.false_ne_true)]
    try simp only [Act.put, setIfInBounds_toArray, set_cons_zero, set_cons_succ]
    refine hK.out _ _ ?_ ?_ ?_
    ·
     exact Below.refl _ _
    ·
     exact rfl
    ·
     exact fun _ _ _ => ⟨trivial, trivial⟩
   refine FlowAll.cons ?_ ?_
   ·
    intro xF ww hR hd K hK
    have dd6 := hd 6 (by kernel_rfl)
    clear hd
    simp only [take_succ_cons, take_zero, fillOf, Act.put, setIfInBounds_toArray, set_cons_zero, set_cons_succ, Nat.reduceAdd, Nat.zero_add] at hK ⊢
    try generalize xF 0 = yy0 at *
    try generalize xF 1 = yy1 at *
    try generalize xF 2 = yy2 at *
    try generalize xF 3 = yy3 at *
    try generalize xF 4 = yy4 at *
    try generalize xF 5 = yy5 at *
    try generalize xF 6 = yy6 at *
    try generalize xF 7 = yy7 at *
    try generalize xF 8 = yy8 at *
    try generalize xF 9 = yy9 at *
    try generalize xF 10 = yy10 at *
    try generalize xF 11 = yy11 at *
    try generalize xF 12 = yy12 at *
    clear xF
    obtain rfl := dd6
    obtain ⟨r0, r1, r2, r3, hbl, hsz⟩ := id hR
    rw [if_neg (by intro h; exact absurd (show false = true from h) Bool.false_ne_true)]
    try simp only [Act.put, setIfInBounds_toArray, set_cons_zero, set_cons_succ]
    refine hK.out _ _ ?_ ?_ ?_
    ·
     exact Below.refl _ _
    ·
     exact rfl
    ·
     exact fun _ _ _ => ⟨trivial, trivial⟩
   refine FlowAll.cons ?_ ?_
   ·
    intro xF ww hR hd K hK
    have dd6 := hd 6 (by kernel_rfl)
    clear hd
    simp only [take_succ_cons, take_zero, fillOf, Act.put, setIfInBounds_toArray, set_cons_zero, set_cons_succ, Nat.reduceAdd, Nat.zero_add] at hK ⊢
    try generalize xF 0 = yy0 at *
    try generalize xF 1 = yy1 at *
    try generalize xF 2 = yy2 at *
    try generalize xF 3 = yy3 at *
    try generalize xF 4 = yy4 at *
    try generalize xF 5 = yy5 at *
    try generalize xF 6 = yy6 at *
    try generalize xF 7 = yy7 at *
    try generalize xF 8 = yy8 at *
    try generalize xF 9 = yy9 at *
    try generalize xF 10 = yy10 at *
    try generalize xF 11 = yy11 at *
    try generalize xF 12 = yy12 at *
    clear xF
    obtain rfl := dd6
    obtain ⟨r0, r1, r2, r3, hbl, hsz⟩ := id hR
    rw [if_neg (by intro h; exact absurd (show false = true from h) Bool.false_ne_true)]
    try simp only [Act.put, setIfInBounds_toArray, set_cons_zero, set_cons_succ]
    refine hK.out _ _ ?_ ?_ ?_
    ·
     exact Below.refl _ _
    ·
     exact rfl
    ·
     exact fun _ _ _ => ⟨trivial, trivial⟩
   refine FlowAll.cons ?_ ?_
   ·
    intro xF ww hR hd K hK
    have dd6 := hd 6 (by kernel_rfl)
    clear hd
    simp only [take_succ_cons, take_zero, fillOf, Act.put, setIfInBounds_toArray, set_cons_zero, set_cons_succ, Nat.reduceAdd, Nat.zero_add] at hK ⊢
    try generalize xF 0 = yy0 at *
    try generalize xF 1 = yy1 at *
    try generalize xF 2 = yy2 at *
    try generalize xF 3 = yy3 at *
    try generalize xF 4 = yy4 at *
    try generalize xF 5 = yy5 at *
    try generalize xF 6 = yy6 at *
    try generalize xF 7 = yy7 at *
    try generalize xF 8 = yy8 at *
    try generalize xF 9 = yy9 at *
    try generalize xF 10 = yy10 at *
    try generalize xF 11 = yy11 at *
    try generalize xF 12 = yy12 at *
    clear xF
    obtain rfl := dd6
    obtain ⟨r0, r1, r2, r3, hbl, hsz⟩ := id hR
    rw [if_neg (by intro h; exact absurd (show false = true from h) Bool.false_ne_true)]
    try simp only [Act.put, setIfInBounds_toArray, set_cons_zero, set_cons_succ]
    refine hK.out _ _ ?_ ?_ ?_
    ·
     exact Below.refl _ _
    ·
     exact rfl
    ·
     exact fun _ _ _ => ⟨trivial, trivial⟩
   refine FlowAll.cons ?_ ?_
   ·
    intro xF ww hR hd K hK
    have dd6 := hd 6 (by kernel_rfl)
    have dd11 := hd 11 (by kernel_rfl)
    clear hd
    simp only [take_succ_cons, take_zero, fillOf, Act.put, setIfInBounds_toArray, set_cons_zero, set_cons_succ, Nat.reduceAdd, Nat.zero_add] at hK ⊢
    try generalize xF 0 = yy0 at *
    try generalize xF 1 = yy1 at *
    try generalize xF 2 = yy2 at *
    try generalize xF 3 = yy3 at *
    try generalize xF 4 = yy4 at *
    try generalize xF 5 = yy5 at *
    try generalize xF 6 = yy6 at *
    try generalize xF 7 = yy7 at *
    try generalize xF 8 = yy8 at *
    try generalize xF 9 = yy9 at *
    try generalize xF 10 = yy10 at *
    try generalize xF 11 = yy11 at *
    try generalize xF 12 = yy12 at *
    clear xF
    obtain rfl := dd6
    obtain rfl := dd11
    obtain ⟨r0, r1, r2, r3, hbl, hsz⟩ := id hR
    rw [if_pos (by rfl)]
    go_simp
    refine hK.out _ _ ?_ ?_ ?_
    ·
     exact Below.refl _ _
    ·
     exact rfl
    ·
     exact fun _ _ _ => ⟨trivial, trivial⟩
   exact FlowAll.nil
  intro xF ww hR hF hP
  clear hP
  have dd0 := hF 0 (by omega) (by decide)
  have dd1 := hF 1 (by omega) (by decide)
  have dd2 := hF 2 (by omega) (by decide)
  have dd3 := hF 3 (by omega) (by decide)
  have dd4 := hF 4 (by omega) (by decide)
  have dd5 := hF 5 (by omega) (by decide)
  have dd6 := hF 6 (by omega) (by decide)
  have dd7 := hF 7 (by omega) (by decide)
  have dd8 := hF 8 (by omega) (by decide)
  have dd9 := hF 9 (by omega) (by decide)
  have dd10 := hF 10 (by omega) (by decide)
  have dd11 := hF 11 (by omega) (by decide)
  have dd12 := hF 12 (by omega) (by decide)
  clear hF
  simp only [take_succ_cons, take_zero, drop_succ_cons, drop_zero, fillOf, Act.put, setIfInBounds_toArray, set_cons_zero, set_cons_succ, Nat.reduceAdd, Nat.zero_add]
  try generalize xF 0 = yy0 at *
  try generalize xF 1 = yy1 at *
  try generalize xF 2 = yy2 at *
  try generalize xF 3 = yy3 at *
  try generalize xF 4 = yy4 at *
  try generalize xF 5 = yy5 at *
  try generalize xF 6 = yy6 at *
  try generalize xF 7 = yy7 at *
  try generalize xF 8 = yy8 at *
  try generalize xF 9 = yy9 at *
  try generalize xF 10 = yy10 at *
  try generalize xF 11 = yy11 at *
  try generalize xF 12 = yy12 at *
  clear xF
  obtain rfl := dd0
  obtain rfl := dd1
  obtain rfl := dd2
  obtain rfl := dd3
  obtain rfl := dd4
  obtain rfl := dd5
  obtain rfl := dd6
  obtain rfl := dd7
  obtain rfl := dd8
  obtain rfl := dd9
  obtain rfl := dd10
  obtain rfl := dd11
  obtain rfl := dd12
  have hRE := Lib.hid hR
  clear hR
  have hb9 := hA.trans (hRE.out.below.mono (by omega))
  go_wp2
  go_ret
  rw [HU.out]; exact ⟨rfl, hb9⟩
 | true =>
  cases hrb : dm.rightB b with
  | false =>
   have HU : Hid (underB a b = false) := by show underB a b = false; unfold underB; rw [hra, hrb]; rfl
   rw [hra] at HRI
   rw [hrb] at HRJ
   clear HJN0 HSM0 hra hrb
   go_enter Tryz.func26, Tryz.ntmps26
   go_wp2_with fail
   rw [← HW.out]
   refine wp_flow 13 (fun _ => 1000) (fun ww => UndR w.heap.size (.slice a1 n1 c1) (.slice a2 m1 c2) (.slice b1 n2 d1) (.slice b2 m2 d2) w2 ww) (fun _ w w' => (fun (w w' : World) => RowKit.Below w.heap.size w w') w w') (fun kF vF wF => match kF with | 0 => (vF = .agg #[.slice a1 n1 c1, .slice a2 m1 c2]) | 1 => (vF = .bool true) | 2 => (vF = .bool true) | 3 => (vF = .agg #[.slice b1 n2 d1, .slice b2 m2 d2]) | 4 => (vF = .bool false) | 5 => (vF = .bool false) | 6 => (vF = .bool false) | 7 => (vF = undef) | 8 => (vF = undef) | 9 => (vF = undef) | 10 => (vF = undef) | 11 => (vF = undef) | 12 => (vF = .bool false) | _ => True) (fun _ _ _ _ => True) (by kernel_rfl) (by kernel_rfl) ?_ ?_ ?_ ?_ ?_
   ·
    exact UndR.start HR0.out
   ·
    intro iF wF1 wF2 hR hT; exact hR.step hR.size hT
   ·
    intro kF hkF iF hiF hne hdd hanc hdan vF wF1 wF2 h hT
    rcases (by omega : kF = 0 ∨ kF = 1 ∨ kF = 2 ∨ kF = 3 ∨ kF = 4 ∨ kF = 5 ∨ kF = 6 ∨ kF = 7 ∨ kF = 8 ∨ kF = 9 ∨ kF = 10 ∨ kF = 11 ∨ kF = 12) with rfl | rfl | rfl | rfl | rfl | rfl | rfl | rfl | rfl | rfl | rfl | rfl | rfl
    ·
     have h : (vF = .agg #[.slice a1 n1 c1, .slice a2 m1 c2]) := h
     show (vF = .agg #[.slice a1 n1 c1, .slice a2 m1 c2])
     have hT : (fun (w w' : World) => RowKit.Below w.heap.size w w') wF1 wF2 := hT
     simp only at hT
     exact h
    ·
     have h : (vF = .bool true) := h
     show (vF = .bool true)
     have hT : (fun (w w' : World) => RowKit.Below w.heap.size w w') wF1 wF2 := hT
     simp only at hT
     exact h
    ·
     have h : (vF = .bool true) := h
     show (vF = .bool true)
     have hT : (fun (w w' : World) => RowKit.Below w.heap.size w w') wF1 wF2 := hT
     simp only at hT
     exact h
    ·
     have h : (vF = .agg #[.slice b1 n2 d1, .slice b2 m2 d2]) := h
     show (vF = .agg #[.slice b1 n2 d1, .slice b2 m2 d2])
     have hT : (fun (w w' : World) => RowKit.Below w.heap.size w w') wF1 wF2 := hT
     simp only at hT
     exact h
    ·
     have h : (vF = .bool false) := h
     show (vF = .bool false)
     have hT : (fun (w w' : World) => RowKit.Below w.heap.size w w') wF1 wF2 := hT
     simp only at hT
     exact h
    ·
     have h : (vF = .bool false) := h
     show (vF = .bool false)
     have hT : (fun (w w' : World) => RowKit.Below w.heap.size w w') wF1 wF2 := hT
     simp only at hT
     exact h
    ·
     have h : (vF = .bool false) := h
     show (vF = .bool false)
     have hT : (fun (w w' : World) => RowKit.Below w.heap.size w w') wF1 wF2 := hT
     simp only at hT
     exact h
    ·
     have h : (vF = undef) := h
     show (vF = undef)
     have hT : (fun (w w' : World) => RowKit.Below w.heap.size w w') wF1 wF2 := hT
     simp only at hT
     exact h
    ·
     have h : (vF = undef) := h
     show (vF = undef)
     have hT : (fun (w w' : World) => RowKit.Below w.heap.size w w') wF1 wF2 := hT
     simp only at hT
     exact h
    ·
     have h : (vF = undef) := h
     show (vF = undef)
     have hT : (fun (w w' : World) => RowKit.Below w.heap.size w w') wF1 wF2 := hT
     simp only at hT
     exact h
    ·
     have h : (vF = undef) := h
     show (vF = undef)
     have hT : (fun (w w' : World) => RowKit.Below w.heap.size w w') wF1 wF2 := hT
     simp only at hT
     exact h
    ·
     have h : (vF = undef) := h
     show (vF = undef)
     have hT : (fun (w w' : World) => RowKit.Below w.heap.size w w') wF1 wF2 := hT
     simp only at hT
     exact h
    ·
     have h : (vF = .bool false) := h
     show (vF = .bool false)
     have hT : (fun (w w' : World) => RowKit.Below w.heap.size w w') wF1 wF2 := hT
     simp only at hT
     exact h
   ·
    refine FlowAll.cons ?_ ?_
    ·
     intro xF ww hR hd K hK
     clear hd
     simp only [take_succ_cons, take_zero, fillOf, Act.put, setIfInBounds_toArray, set_cons_zero, set_cons_succ, Nat.reduceAdd, Nat.zero_add] at hK ⊢
     try generalize xF 0 = yy0 at *
     try generalize xF 1 = yy1 at *
     try generalize xF 2 = yy2 at *
     try generalize xF 3 = yy3 at *
     try generalize xF 4 = yy4 at *
     try generalize xF 5 = yy5 at *
     try generalize xF 6 = yy6 at *
     try generalize xF 7 = yy7 at *
     try generalize xF 8 = yy8 at *
     try generalize xF 9 = yy9 at *
     try generalize xF 10 = yy10 at *
     try generalize xF 11 = yy11 at *
     try generalize xF 12 = yy12 at *
     clear xF
     obtain ⟨r0, r1, r2, r3, hbl, hsz⟩ := id hR
     rw [if_pos (by rfl)]
     go_simp
     refine hK.out _ _ ?_ ?_ ?_
     ·
      exact Below.refl _ _
     ·
      exact rfl
     ·
      exact fun _ _ _ => ⟨trivial, trivial⟩
    refine FlowAll.cons ?_ ?_
    ·
     intro xF ww hR hd K hK
     have dd0 := hd 0 (by kernel_rfl)
     clear hd
     simp only [take_succ_cons, take_zero, fillOf, Act.put, setIfInBounds_toArray, set_cons_zero, set_cons_succ, Nat.reduceAdd, Nat.zero_add] at hK ⊢
     try generalize xF 0 = yy0 at *
     try generalize xF 1 = yy1 at *
     try generalize xF 2 = yy2 at *
     try generalize xF 3 = yy3 at *
     try generalize xF 4 = yy4 at *
     try generalize xF 5 = yy5 at *
     try generalize xF 6 = yy6 at *
     try generalize xF 7 = yy7 at *
     try generalize xF 8 = yy8 at *
     try generalize xF 9 = yy9 at *
     try generalize xF 10 = yy10 at *
     try generalize xF 11 = yy11 at *
     try generalize xF 12 = yy12 at *
     clear xF
     obtain rfl := dd0
     obtain ⟨r0, r1, r2, r3, hbl, hsz⟩ := id hR
     rw [if_pos (by rfl)]
     go_simp
     (go_at_call 31; (with_reducible refine (HRI.out _ hR.below).mono ?_); rintro e wK ⟨rfl, hbK⟩)
     try go_wp2_with fail
     refine hK.out _ _ ?_ ?_ ?_
     ·
      exact hbK
     ·
      exact rfl
     ·
      exact fun _ _ _ => ⟨trivial, trivial⟩
    refine FlowAll.cons ?_ ?_
    ·
     intro xF ww hR hd K hK
     have dd1 := hd 1 (by kernel_rfl)
     clear hd
     simp only [take_succ_cons, take_zero, fillOf, Act.put, setIfInBounds_toArray, set_cons_zero, set_cons_succ, Nat.reduceAdd, Nat.zero_add] at hK ⊢
     try generalize xF 0 = yy0 at *
     try generalize xF 1 = yy1 at *
     try generalize xF 2 = yy2 at *
     try generalize xF 3 = yy3 at *
     try generalize xF 4 = yy4 at *
     try generalize xF 5 = yy5 at *
     try generalize xF 6 = yy6 at *
     try generalize xF 7 = yy7 at *
     try generalize xF 8 = yy8 at *
     try generalize xF 9 = yy9 at *
     try generalize xF 10 = yy10 at *
     try generalize xF 11 = yy11 at *
     try generalize xF 12 = yy12 at *
     clear xF
     obtain rfl := dd1
     obtain ⟨r0, r1, r2, r3, hbl, hsz⟩ := id hR
     rw [if_pos (by rfl)]
     go_simp
     refine hK.out _ _ ?_ ?_ ?_
     ·
      exact Below.refl _ _
     ·
      exact rfl
     ·
      exact fun _ _ _ => ⟨trivial, trivial⟩
    refine FlowAll.cons ?_ ?_
    ·
     intro xF ww hR hd K hK
     have dd2 := hd 2 (by kernel_rfl)
     clear hd
     simp only [take_succ_cons, take_zero, fillOf, Act.put, setIfInBounds_toArray, set_cons_zero, set_cons_succ, Nat.reduceAdd, Nat.zero_add] at hK ⊢
     try generalize xF 0 = yy0 at *
     try generalize xF 1 = yy1 at *
     try generalize xF 2 = yy2 at *
     try generalize xF 3 = yy3 at *
     try generalize xF 4 = yy4 at *
     try generalize xF 5 = yy5 at *
     try generalize xF 6 = yy6 at *
     try generalize xF 7 = yy7 at *
     try generalize xF 8 = yy8 at *
     try generalize xF 9 = yy9 at *
     try generalize xF 10 = yy10 at *
     try generalize xF 11 = yy11 at *
     try generalize xF 12 = yy12 at *
     clear xF
     obtain rfl := dd2
     obtain ⟨r0, r1, r2, r3, hbl, hsz⟩ := id hR
     rw [if_pos (by rfl)]
     go_simp
     refine hK.out _ _ ?_ ?_ ?_
     ·
      exact Below.refl _ _
     ·
      exact rfl
     ·
      exact fun _ _ _ => ⟨trivial, trivial⟩
    refine FlowAll.cons ?_ ?_
    ·
     intro xF ww hR hd K hK
     have dd2 := hd 2 (by kernel_rfl)
     have dd3 := hd 3 (by kernel_rfl)
     clear hd
     simp only [take_succ_cons, take_zero, fillOf, Act.put, setIfInBounds_toArray, set_cons_zero, set_cons_succ, Nat.reduceAdd, Nat.zero_add] at hK ⊢
     try generalize xF 0 = yy0 at *
     try generalize xF 1 = yy1 at *
     try generalize xF 2 = yy2 at *
     try generalize xF 3 = yy3 at *
     try generalize xF 4 = yy4 at *
     try generalize xF 5 = yy5 at *
     try generalize xF 6 = yy6 at *
     try generalize xF 7 = yy7 at *
     try generalize xF 8 = yy8 at *
     try generalize xF 9 = yy9 at *
     try generalize xF 10 = yy10 at *
     try generalize xF 11 = yy11 at *
     try generalize xF 12 = yy12 at *
     clear xF
     obtain rfl := dd2
     obtain rfl := dd3
     obtain ⟨r0, r1, r2, r3, hbl, hsz⟩ := id hR
     rw [if_pos (by rfl)]
     go_simp
     (go_at_call 31; (with_reducible refine (HRJ.out _ hR.below).mono ?_); rintro e wK ⟨rfl, hbK⟩)
     try go_wp2_with fail
     refine hK.out _ _ ?_ ?_ ?_
     ·
      exact hbK
     ·
      exact rfl
     ·
      exact fun _ _ _ => ⟨trivial, trivial⟩
    refine FlowAll.cons ?_ ?_
    ·
     intro xF ww hR hd K hK
     have dd2 := hd 2 (by kernel_rfl)
     have dd4 := hd 4 (by kernel_rfl)
     clear hd
     simp only [take_succ_cons, take_zero, fillOf, Act.put, setIfInBounds_toArray, set_cons_zero, set_cons_succ, Nat.reduceAdd, Nat.zero_add] at hK ⊢
     try generalize xF 0 = yy0 at *
     try generalize xF 1 = yy1 at *
     try generalize xF 2 = yy2 at *
     try generalize xF 3 = yy3 at *
     try generalize xF 4 = yy4 at *
     try generalize xF 5 = yy5 at *
     try generalize xF 6 = yy6 at *
     try generalize xF 7 = yy7 at *
     try generalize xF 8 = yy8 at *
     try generalize xF 9 = yy9 at *
     try generalize xF 10 = yy10 at *
     try generalize xF 11 = yy11 at *
     try generalize xF 12 = yy12 at *
     clear xF
     obtain rfl := dd2
     obtain rfl := dd4
     obtain ⟨r0, r1, r2, r3, hbl, hsz⟩ := id hR
     rw [if_pos (by rfl)]
     go_simp
     refine hK.out _ _ ?_ ?_ ?_
     ·
      exact Below.refl _ _
     ·
      exact rfl
     ·
      exact fun _ _ _ => ⟨trivial, trivial⟩
    refine FlowAll.cons ?_ ?_
    ·
     intro xF ww hR hd K hK
     have dd5 := hd 5 (by kernel_rfl)
     clear hd
     simp only [take_succ_cons, take_zero, fillOf, Act.put, setIfInBounds_toArray, set_cons_zero, set_cons_succ, Nat.reduceAdd, Nat.zero_add] at hK ⊢
     try generalize xF 0 = yy0 at *
     try generalize xF 1 = yy1 at *
     try generalize xF 2 = yy2 at *
     try generalize xF 3 = yy3 at *
     try generalize xF 4 = yy4 at *
     try generalize xF 5 = yy5 at *
     try generalize xF 6 = yy6 at *
     try generalize xF 7 = yy7 at *
     try generalize xF 8 = yy8 at *
     try generalize xF 9 = yy9 at *
     try generalize xF 10 = yy10 at *
     try generalize xF 11 = yy11 at *
     try generalize xF 12 = yy12 at *
     clear xF
     obtain rfl := dd5
     obtain ⟨r0, r1, r2, r3, hbl, hsz⟩ := id hR
     rw [if_pos (by rfl)]
     go_simp
     refine hK.out _ _ ?_ ?_ ?_
     ·
      exact Below.refl _ _
     ·
      exact rfl
     ·
      exact fun _ _ _ => ⟨trivial, trivial⟩
    refine FlowAll.cons ?_ ?_
    ·
     intro xF ww hR hd K hK
     have dd6 := hd 6 (by kernel_rfl)
     clear hd
     simp only [take_succ_cons, take_zero, fillOf, Act.put, setIfInBounds_toArray, set_cons_zero, set_cons_succ, Nat.reduceAdd, Nat.zero_add] at hK ⊢
     try generalize xF 0 = yy0 at *
     try generalize xF 1 = yy1 at *
     try generalize xF 2 = yy2 at *
     try generalize xF 3 = yy3 at *
     try generalize xF 4 = yy4 at *
     try generalize xF 5 = yy5 at *
     try generalize xF 6 = yy6 at *
     try generalize xF 7 = yy7 at *
     try generalize xF 8 = yy8 at *
     try generalize xF 9 = yy9 at *
     try generalize xF 10 = yy10 at *
     try generalize xF 11 = yy11 at *
     try generalize xF 12 = yy12 at *
     clear xF
     obtain rfl := dd6
     obtain ⟨r0, r1, r2, r3, hbl, hsz⟩ := id hR
     rw [if_neg (by intro h; exact absurd (show false = true from h) Bool.false_ne_true)]
     try simp only [Act.put, setIfInBounds_toArray, set_cons_zero, set_cons_succ]
     refine hK.out _ _ ?_ ?_ ?_
     ·
      exact Below.refl _ _
     ·
      exact rfl
     ·
      exact fun _ _ _ => ⟨trivial, trivial⟩
    refine FlowAll.cons ?_ ?_
    ·
     intro xF ww hR hd K hK
     have dd6 := hd 6 (by kernel_rfl)
     clear hd
     simp only [take_succ_cons, take_zero, fillOf, Act.put, setIfInBounds_toArray, set_cons_zero, set_cons_succ, Nat.reduceAdd, Nat.zero_add] at hK ⊢
     try generalize xF 0 = yy0 at *
     try generalize xF 1 = yy1 at *
     try generalize xF 2 = yy2 at *
     try generalize xF 3 = yy3 at *
     try generalize xF 4 = yy4 at *
     try generalize xF 5 = yy5 at *
     try generalize xF 6 = yy6 at *
     try generalize xF 7 = yy7 at *
     try generalize xF 8 = yy8 at *
     try generalize xF 9 = yy9 at *
     try generalize xF 10 = yy10 at *
     try generalize xF 11 = yy11 at *
     try generalize xF 12 = yy12 at *
     clear xF
     obtain rfl := dd6
     obtain ⟨r0, r1, r2, r3, hbl, hsz⟩ := id hR
     rw [if_neg (by intro h; exact absurd (show false = true from h) Bool.false_ne_true)]
     try simp only [Act.put, setIfInBounds_toArray, set_cons_zero, set_cons_succ]
     refine hK.out _ _ ?_ ?_ ?_
     ·
      exact Below.refl _ _
     ·
      exact rfl
     ·
      exact fun _ _ _ => ⟨trivial, trivial⟩
    refine FlowAll.cons ?_ ?_
    ·
     intro xF ww hR hd K hK
     have dd6 := hd 6 (by kernel_rfl)
     clear hd
     simp only [take_succ_cons, take_zero, fillOf, Act.put, setIfInBounds_toArray, set_cons_zero, set_cons_succ, Nat.reduceAdd, Nat.zero_add] at hK ⊢
     try generalize xF 0 = yy0 at *
     try generalize xF 1 = yy1 at *
     try generalize xF 2 = yy2 at *
     try generalize xF 3 = yy3 at *
     try generalize xF 4 = yy4 at *
     try generalize xF 5 = yy5 at *
     try generalize xF 6 = yy6 at *
     try generalize xF 7 = yy7 at *
     try generalize xF 8 = yy8 at *
     try generalize xF 9 = yy9 at *
     try generalize xF 10 = yy10 at *
     try generalize xF 11 = yy11 at *
     try generalize xF 12 = yy12 at *
     clear xF
     obtain rfl := dd6
     obtain ⟨r0, r1, r2, r3, hbl, hsz⟩ := id hR
     rw [if_neg (by intro h; exact absurd (show false = true from h) Bool.false_ne_true)]
     try simp only [Act.put, setIfInBounds_toArray, set_cons_zero, set_cons_succ]
     refine hK.out _ _ ?_ ?_ ?_
     ·
      exact Below.refl _ _
     ·
      exact rfl
     ·
      exact fun _ _ _ => ⟨trivial, trivial⟩
    refine FlowAll.cons ?_ ?_
    ·
     intro xF ww hR hd K hK
     have dd6 := hd 6 (by kernel_rfl)
     clear hd
     simp only [take_succ_cons, take_zero, fillOf, Act.put, setIfInBounds_toArray, set_cons_zero, set_cons_succ, Nat.reduceAdd, Nat.zero_add] at hK ⊢
     try generalize xF 0 = yy0 at *
     try generalize xF 1 = yy1 at *
     try generalize xF 2 = yy2 at *
     try generalize xF 3 = yy3 at *
     try generalize xF 4 = yy4 at *
     try generalize xF 5 = yy5 at *
     try generalize xF 6 = yy6 at *
     try generalize xF 7 = yy7 at *
     try generalize xF 8 = yy8 at *
     try generalize xF 9 = yy9 at *
     try generalize xF 10 = yy10 at *
     try generalize xF 11 = yy11 at *
     try generalize xF 12 = yy12 at *
     clear xF
     obtain rfl := dd6
     obtain ⟨r0, r1, r2, r3, hbl, hsz⟩ := id hR
     rw [if_neg (by intro h; exact absurd (show false = true from h) Bool.false_ne_true)]
     try simp only [Act.put, setIfInBounds_toArray, set_cons_zero, set_cons_succ]
     refine hK.out _ _ ?_ ?_ ?_
     ·
      exact Below.refl _ _
     ·
      exact rfl
     ·
      exact fun _ _ _ => ⟨trivial, trivial⟩
    refine FlowAll.cons ?_ ?_
    ·
     intro xF ww hR hd K hK
     have dd6 := hd 6 (by kernel_rfl)
     clear hd
     simp only [take_succ_cons, take_zero, fillOf, Act.put, setIfInBounds_toArray, set_cons_zero, set_cons_succ, Nat.reduceAdd, Nat.zero_add] at hK ⊢
     try generalize xF 0 = yy0 at *
     try generalize xF 1 = yy1 at *
     try generalize xF 2 = yy2 at *
     try generalize xF 3 = yy3 at *
     try generalize xF 4 = yy4 at *
     try generalize xF 5 = yy5 at *
     try generalize xF 6 = yy6 at *
     try generalize xF 7 = yy7 at *
     try generalize xF 8 = yy8 at *
     try generalize xF 9 = yy9 at *
     try generalize xF 10 = yy10 at *
     try generalize xF 11 = yy11 at *
     try generalize xF 12 = yy12 at *
     clear xF
     obtain rfl := dd6
     obtain ⟨r0, r1, r2, r3, hbl, hsz⟩ := id hR
     rw [if_neg (by intro h; exact absurd (show false = true from h) Bool.false_ne_true)]
     try simp only [Act.put, setIfInBounds_toArray, set_cons_zero, set_cons_succ]
     refine hK.out _ _ ?_ ?_ ?_
     ·
      exact Below.refl _ _
     ·
      exact rfl
     ·
      exact fun _ _ _ => ⟨trivial, trivial⟩
    refine FlowAll.cons ?_ ?_
    ·
     intro xF ww hR hd K hK
     have dd6 := hd 6 (by kernel_rfl)
     have dd11 := hd 11 (by kernel_rfl)
     clear hd
     simp only [take_succ_cons, take_zero, fillOf, Act.put, setIfInBounds_toArray, set_cons_zero, set_cons_succ, Nat.reduceAdd, Nat.zero_add] at hK ⊢
     try generalize xF 0 = yy0 at *
     try generalize xF 1 = yy1 at *
     try generalize xF 2 = yy2 at *
     try generalize xF 3 = yy3 at *
     try generalize xF 4 = yy4 at *
     try generalize xF 5 = yy5 at *
     try generalize xF 6 = yy6 at *
     try generalize xF 7 = yy7 at *
     try generalize xF 8 = yy8 at *
     try generalize xF 9 = yy9 at *
     try generalize xF 10 = yy10 at *
     try generalize xF 11 = yy11 at *
     try generalize xF 12 = yy12 at *
     clear xF
     obtain rfl := dd6
     obtain rfl := dd11
     obtain ⟨r0, r1, r2, r3, hbl, hsz⟩ := id hR
     rw [if_pos (by rfl)]
     go_simp
     refine hK.out _ _ ?_ ?_ ?_
     ·
      exact Below.refl _ _
     ·
      exact rfl
     ·
      exact fun _ _ _ => ⟨trivial, trivial⟩
    exact FlowAll.nil
   intro xF ww hR hF hP
   clear hP
   have dd0 := hF 0 (by omega) (by decide)
   have dd1 := hF 1 (by omega) (by decide)
   have dd2 := hF 2 (by omega) (by decide)
   have dd3 := hF 3 (by omega) (by decide)
   have dd4 := hF 4 (by omega) (by decide)
   have dd5 := hF 5 (by omega) (by decide)
   have dd6 := hF 6 (by omega) (by decide)
   have dd7 := hF 7 (by omega) (by decide)
   have dd8 := hF 8 (by omega) (by decide)
   have dd9 := hF 9 (by omega) (by decide)
   have dd10 := hF 10 (by omega) (by decide)
   have dd11 := hF 11 (by omega) (by decide)
   have dd12 := hF 12 (by omega) (by decide)
   clear hF
   simp only [take_succ_cons, take_zero, drop_succ_cons, drop_zero, fillOf, Act.put, setIfInBounds_toArray, set_cons_zero, set_cons_succ, Nat.reduceAdd, Nat.zero_add]
   try generalize xF 0 = yy0 at *
   try generalize xF 1 = yy1 at *
   try generalize xF 2 = yy2 at *
   try generalize xF 3 = yy3 at *
   try generalize xF 4 = yy4 at *
   try generalize xF 5 = yy5 at *
   try generalize xF 6 = yy6 at *
   try generalize xF 7 = yy7 at *
   try generalize xF 8 = yy8 at *
   try generalize xF 9 = yy9 at *
   try generalize xF 10 = yy10 at *
   try generalize xF 11 = yy11 at *
   try generalize xF 12 = yy12 at *
   clear xF
   obtain rfl := dd0
   obtain rfl := dd1
   obtain rfl := dd2
   obtain rfl := dd3
   obtain rfl := dd4
   obtain rfl := dd5
   obtain rfl := dd6
   obtain rfl := dd7
   obtain rfl := dd8
   obtain rfl := dd9
   obtain rfl := dd10
   obtain rfl := dd11
   obtain rfl := dd12
   have hRE := Lib.hid hR
   clear hR
   have hb9 := hA.trans (hRE.out.below.mono (by omega))
   go_wp2
   go_ret
   rw [HU.out]; exact ⟨rfl, hb9⟩
  | true =>
   have hRa : dm.Right a := Classical.byContradiction fun h => by rw [dm.rightB_false h] at hra; cases hra
   have hRb : dm.Right b := Classical.byContradiction fun h => by rw [dm.rightB_false h] at hrb; cases hrb
   have HJN := Lib.hid (HJN0.out hRa hRb)
   have HSM := Lib.hid (HSM0.out hra hrb hRb)
   rw [hra] at HRI
   rw [hrb] at HRJ
   clear HJN0 HSM0 hra hrb hRa hRb
   go_enter Tryz.func26, Tryz.ntmps26
   go_wp2_with fail
   rw [← HW.out]
   refine wp_flow 13 (fun _ => 1000) (fun ww => UndR w.heap.size (.slice a1 n1 c1) (.slice a2 m1 c2) (.slice b1 n2 d1) (.slice b2 m2 d2) w2 ww) (fun _ w w' => (fun (w w' : World) => RowKit.Below w.heap.size w w') w w') (fun kF vF wF => match kF with | 0 => (vF = .agg #[.slice a1 n1 c1, .slice a2 m1 c2]) | 1 => (vF = .bool true) | 2 => (vF = .bool true) | 3 => (vF = .agg #[.slice b1 n2 d1, .slice b2 m2 d2]) | 4 => (vF = .bool true) | 5 => (vF = .bool true) | 6 => (vF = .bool true) | 7 => (vF = .agg #[.slice b1 n2 d1, .slice b2 m2 d2]) | 8 => (vF = .agg #[.slice a1 n1 c1, .slice a2 m1 c2]) | 9 => (∃ c, CtxAt wF wF.heap.size vF c ∧ dm.Is c (fun e => dm.Knows b e ∨ dm.Knows a e) (m2 + m1)) | 10 => (vF = .agg #[.slice b1 n2 d1, .slice b2 m2 d2]) | 11 => (vF = .bool (underB a b)) | 12 => (vF = .bool (underB a b)) | _ => True) (fun _ _ _ _ => True) (by kernel_rfl) (by kernel_rfl) ?_ ?_ ?_ ?_ ?_
   ·
    exact UndR.start HR0.out
   ·
    intro iF wF1 wF2 hR hT; exact hR.step hR.size hT
   ·
    intro kF hkF iF hiF hne hdd hanc hdan vF wF1 wF2 h hT
    rcases (by omega : kF = 0 ∨ kF = 1 ∨ kF = 2 ∨ kF = 3 ∨ kF = 4 ∨ kF = 5 ∨ kF = 6 ∨ kF = 7 ∨ kF = 8 ∨ kF = 9 ∨ kF = 10 ∨ kF = 11 ∨ kF = 12) with rfl | rfl | rfl | rfl | rfl | rfl | rfl | rfl | rfl | rfl | rfl | rfl | rfl
    ·
     have h : (vF = .agg #[.slice a1 n1 c1, .slice a2 m1 c2]) := h
     show (vF = .agg #[.slice a1 n1 c1, .slice a2 m1 c2])
     have hT : (fun (w w' : World) => RowKit.Below w.heap.size w w') wF1 wF2 := hT
     simp only at hT
     exact h
    ·
     have h : (vF = .bool true) := h
     show (vF = .bool true)
     have hT : (fun (w w' : World) => RowKit.Below w.heap.size w w') wF1 wF2 := hT
     simp only at hT
     exact h
    ·
     have h : (vF = .bool true) := h
     show (vF = .bool true)
     have hT : (fun (w w' : World) => RowKit.Below w.heap.size w w') wF1 wF2 := hT
     simp only at hT
     exact h
    ·
     have h : (vF = .agg #[.slice b1 n2 d1, .slice b2 m2 d2]) := h
     show (vF = .agg #[.slice b1 n2 d1, .slice b2 m2 d2])
     have hT : (fun (w w' : World) => RowKit.Below w.heap.size w w') wF1 wF2 := hT
     simp only at hT
     exact h
    ·
     have h : (vF = .bool true) := h
     show (vF = .bool true)
     have hT : (fun (w w' : World) => RowKit.Below w.heap.size w w') wF1 wF2 := hT
     simp only at hT
     exact h
    ·
     have h : (vF = .bool true) := h
     show (vF = .bool true)
     have hT : (fun (w w' : World) => RowKit.Below w.heap.size w w') wF1 wF2 := hT
     simp only at hT
     exact h
    ·
     have h : (vF = .bool true) := h
     show (vF = .bool true)
     have hT : (fun (w w' : World) => RowKit.Below w.heap.size w w') wF1 wF2 := hT
     simp only at hT
     exact h
    ·
     have h : (vF = .agg #[.slice b1 n2 d1, .slice b2 m2 d2]) := h
     show (vF = .agg #[.slice b1 n2 d1, .slice b2 m2 d2])
     have hT : (fun (w w' : World) => RowKit.Below w.heap.size w w') wF1 wF2 := hT
     simp only at hT
     exact h
    ·
     have h : (vF = .agg #[.slice a1 n1 c1, .slice a2 m1 c2]) := h
     show (vF = .agg #[.slice a1 n1 c1, .slice a2 m1 c2])
     have hT : (fun (w w' : World) => RowKit.Below w.heap.size w w') wF1 wF2 := hT
     simp only at hT
     exact h
    ·
     have h : (∃ c, CtxAt wF1 wF1.heap.size vF c ∧ dm.Is c (fun e => dm.Knows b e ∨ dm.Knows a e) (m2 + m1)) := h
     show (∃ c, CtxAt wF2 wF2.heap.size vF c ∧ dm.Is c (fun e => dm.Knows b e ∨ dm.Knows a e) (m2 + m1))
     have hT : (fun (w w' : World) => RowKit.Below w.heap.size w w') wF1 wF2 := hT
     simp only at hT
     obtain ⟨c, h1, h2⟩ := h
     exact ⟨c, h1.next hT, h2⟩
    ·
     have h : (vF = .agg #[.slice b1 n2 d1, .slice b2 m2 d2]) := h
     show (vF = .agg #[.slice b1 n2 d1, .slice b2 m2 d2])
     have hT : (fun (w w' : World) => RowKit.Below w.heap.size w w') wF1 wF2 := hT
     simp only at hT
     exact h
    ·
     have h : (vF = .bool (underB a b)) := h
     show (vF = .bool (underB a b))
     have hT : (fun (w w' : World) => RowKit.Below w.heap.size w w') wF1 wF2 := hT
     simp only at hT
     exact h
    ·
     have h : (vF = .bool (underB a b)) := h
     show (vF = .bool (underB a b))
     have hT : (fun (w w' : World) => RowKit.Below w.heap.size w w') wF1 wF2 := hT
     simp only at hT
     exact h
   ·
    refine FlowAll.cons ?_ ?_
    ·
     intro xF ww hR hd K hK
     clear hd
     simp only [take_succ_cons, take_zero, fillOf, Act.put, setIfInBounds_toArray, set_cons_zero, set_cons_succ, Nat.reduceAdd, Nat.zero_add] at hK ⊢
     try generalize xF 0 = yy0 at *
     try generalize xF 1 = yy1 at *
     try generalize xF 2 = yy2 at *
     try generalize xF 3 = yy3 at *
     try generalize xF 4 = yy4 at *
     try generalize xF 5 = yy5 at *
     try generalize xF 6 = yy6 at *
     try generalize xF 7 = yy7 at *
     try generalize xF 8 = yy8 at *
     try generalize xF 9 = yy9 at *
     try generalize xF 10 = yy10 at *
     try generalize xF 11 = yy11 at *
     try generalize xF 12 = yy12 at *
     clear xF
     obtain ⟨r0, r1, r2, r3, hbl, hsz⟩ := id hR
     rw [if_pos (by rfl)]
     go_simp
     refine hK.out _ _ ?_ ?_ ?_
     ·
      exact Below.refl _ _
     ·
      exact rfl
     ·
      exact fun _ _ _ => ⟨trivial, trivial⟩
    refine FlowAll.cons ?_ ?_
    ·
     intro xF ww hR hd K hK
     have dd0 := hd 0 (by kernel_rfl)
     clear hd
     simp only [take_succ_cons, take_zero, fillOf, Act.put, setIfInBounds_toArray, set_cons_zero, set_cons_succ, Nat.reduceAdd, Nat.zero_add] at hK ⊢
     try generalize xF 0 = yy0 at *
     try generalize xF 1 = yy1 at *
     try generalize xF 2 = yy2 at *
     try generalize xF 3 = yy3 at *
     try generalize xF 4 = yy4 at *
     try generalize xF 5 = yy5 at *
     try generalize xF 6 = yy6 at *
     try generalize xF 7 = yy7 at *
     try generalize xF 8 = yy8 at *
     try generalize xF 9 = yy9 at *
     try generalize xF 10 = yy10 at *
     try generalize xF 11 = yy11 at *
     try generalize xF 12 = yy12 at *
     clear xF
     obtain rfl := dd0
     obtain ⟨r0, r1, r2, r3, hbl, hsz⟩ := id hR
     rw [if_pos (by rfl)]
     go_simp
     (go_at_call 31; (with_reducible refine (HRI.out _ hR.below).mono ?_); rintro e wK ⟨rfl, hbK⟩)
     try go_wp2_with fail
     refine hK.out _ _ ?_ ?_ ?_
     ·
      exact hbK
     ·
      exact rfl
     ·
      exact fun _ _ _ => ⟨trivial, trivial⟩
    refine FlowAll.cons ?_ ?_
    ·
     intro xF ww hR hd K hK
     have dd1 := hd 1 (by kernel_rfl)
     clear hd
     simp only [take_succ_cons, take_zero, fillOf, Act.put, setIfInBounds_toArray, set_cons_zero, set_cons_succ, Nat.reduceAdd, Nat.zero_add] at hK ⊢
     try generalize xF 0 = yy0 at *
     try generalize xF 1 = yy1 at *
     try generalize xF 2 = yy2 at *
     try generalize xF 3 = yy3 at *
     try generalize xF 4 = yy4 at *
     try generalize xF 5 = yy5 at *
     try generalize xF 6 = yy6 at *
     try generalize xF 7 = yy7 at *
     try generalize xF 8 = yy8 at *
     try generalize xF 9 = yy9 at *
     try generalize xF 10 = yy10 at *
     try generalize xF 11 = yy11 at *
     try generalize xF 12 = yy12 at *
     clear xF
     obtain rfl := dd1
     obtain ⟨r0, r1, r2, r3, hbl, hsz⟩ := id hR
     rw [if_pos (by rfl)]
     go_simp
     refine hK.out _ _ ?_ ?_ ?_
     ·
      exact Below.refl _ _
     ·
      exact rfl
     ·
      exact fun _ _ _ => ⟨trivial, trivial⟩
    refine FlowAll.cons ?_ ?_
    ·
     intro xF ww hR hd K hK
     have dd2 := hd 2 (by kernel_rfl)
     clear hd
     simp only [take_succ_cons, take_zero, fillOf, Act.put, setIfInBounds_toArray, set_cons_zero, set_cons_succ, Nat.reduceAdd, Nat.zero_add] at hK ⊢
     try generalize xF 0 = yy0 at *
     try generalize xF 1 = yy1 at *
     try generalize xF 2 = yy2 at *
     try generalize xF 3 = yy3 at *
     try generalize xF 4 = yy4 at *
     try generalize xF 5 = yy5 at *
     try generalize xF 6 = yy6 at *
     try generalize xF 7 = yy7 at *
     try generalize xF 8 = yy8 at *
     try generalize xF 9 = yy9 at *
     try generalize xF 10 = yy10 at *
     try generalize xF 11 = yy11 at *
     try generalize xF 12 = yy12 at *
     clear xF
     obtain rfl := dd2
     obtain ⟨r0, r1, r2, r3, hbl, hsz⟩ := id hR
     rw [if_pos (by rfl)]
     go_simp
     refine hK.out _ _ ?_ ?_ ?_
     ·
      exact Below.refl _ _
     ·
      exact rfl
     ·
      exact fun _ _ _ => ⟨trivial, trivial⟩
    refine FlowAll.cons ?_ ?_
    ·
     intro xF ww hR hd K hK
     have dd2 := hd 2 (by kernel_rfl)
     have dd3 := hd 3 (by kernel_rfl)
     clear hd
     simp only [take_succ_cons, take_zero, fillOf, Act.put, setIfInBounds_toArray, set_cons_zero, set_cons_succ, Nat.reduceAdd, Nat.zero_add] at hK ⊢
     try generalize xF 0 = yy0 at *
     try generalize xF 1 = yy1 at *
     try generalize xF 2 = yy2 at *
     try generalize xF 3 = yy3 at *
     try generalize xF 4 = yy4 at *
     try generalize xF 5 = yy5 at *
     try generalize xF 6 = yy6 at *
     try generalize xF 7 = yy7 at *
     try generalize xF 8 = yy8 at *
     try generalize xF 9 = yy9 at *
     try generalize xF 10 = yy10 at *
     try generalize xF 11 = yy11 at *
     try generalize xF 12 = yy12 at *
     clear xF
     obtain rfl := dd2
     obtain rfl := dd3
     obtain ⟨r0, r1, r2, r3, hbl, hsz⟩ := id hR
     rw [if_pos (by rfl)]
     go_simp
     (go_at_call 31; (with_reducible refine (HRJ.out _ hR.below).mono ?_); rintro e wK ⟨rfl, hbK⟩)
     try go_wp2_with fail
     refine hK.out _ _ ?_ ?_ ?_
     ·
      exact hbK
     ·
      exact rfl
     ·
      exact fun _ _ _ => ⟨trivial, trivial⟩
    refine FlowAll.cons ?_ ?_
    ·
     intro xF ww hR hd K hK
     have dd2 := hd 2 (by kernel_rfl)
     have dd4 := hd 4 (by kernel_rfl)
     clear hd
     simp only [take_succ_cons, take_zero, fillOf, Act.put, setIfInBounds_toArray, set_cons_zero, set_cons_succ, Nat.reduceAdd, Nat.zero_add] at hK ⊢
     try generalize xF 0 = yy0 at *
     try generalize xF 1 = yy1 at *
     try generalize xF 2 = yy2 at *
     try generalize xF 3 = yy3 at *
     try generalize xF 4 = yy4 at *
     try generalize xF 5 = yy5 at *
     try generalize xF 6 = yy6 at *
     try generalize xF 7 = yy7 at *
     try generalize xF 8 = yy8 at *
     try generalize xF 9 = yy9 at *
     try generalize xF 10 = yy10 at *
     try generalize xF 11 = yy11 at *
     try generalize xF 12 = yy12 at *
     clear xF
     obtain rfl := dd2
     obtain rfl := dd4
     obtain ⟨r0, r1, r2, r3, hbl, hsz⟩ := id hR
     rw [if_pos (by rfl)]
     go_simp
     refine hK.out _ _ ?_ ?_ ?_
     ·
      exact Below.refl _ _
     ·
      exact rfl
     ·
      exact fun _ _ _ => ⟨trivial, trivial⟩
    refine FlowAll.cons ?_ ?_
    ·
     intro xF ww hR hd K hK
     have dd5 := hd 5 (by kernel_rfl)
     clear hd
     simp only [take_succ_cons, take_zero, fillOf, Act.put, setIfInBounds_toArray, set_cons_zero, set_cons_succ, Nat.reduceAdd, Nat.zero_add] at hK ⊢
     try generalize xF 0 = yy0 at *
     try generalize xF 1 = yy1 at *
     try generalize xF 2 = yy2 at *
     try generalize xF 3 = yy3 at *
     try generalize xF 4 = yy4 at *
     try generalize xF 5 = yy5 at *
     try generalize xF 6 = yy6 at *
     try generalize xF 7 = yy7 at *
     try generalize xF 8 = yy8 at *
     try generalize xF 9 = yy9 at *
     try generalize xF 10 = yy10 at *
     try generalize xF 11 = yy11 at *
     try generalize xF 12 = yy12 at *
     clear xF
     obtain rfl := dd5
     obtain ⟨r0, r1, r2, r3, hbl, hsz⟩ := id hR
     rw [if_pos (by rfl)]
     go_simp
     refine hK.out _ _ ?_ ?_ ?_
     ·
      exact Below.refl _ _
     ·
      exact rfl
     ·
      exact fun _ _ _ => ⟨trivial, trivial⟩
    refine FlowAll.cons ?_ ?_
    ·
     intro xF ww hR hd K hK
     have dd6 := hd 6 (by kernel_rfl)
     clear hd
     simp only [take_succ_cons, take_zero, fillOf, Act.put, setIfInBounds_toArray, set_cons_zero, set_cons_succ, Nat.reduceAdd, Nat.zero_add] at hK ⊢
     try generalize xF 0 = yy0 at *
     try generalize xF 1 = yy1 at *
     try generalize xF 2 = yy2 at *
     try generalize xF 3 = yy3 at *
     try generalize xF 4 = yy4 at *
     try generalize xF 5 = yy5 at *
     try generalize xF 6 = yy6 at *
     try generalize xF 7 = yy7 at *
     try generalize xF 8 = yy8 at *
     try generalize xF 9 = yy9 at *
     try generalize xF 10 = yy10 at *
     try generalize xF 11 = yy11 at *
     try generalize xF 12 = yy12 at *
     clear xF
     obtain rfl := dd6
     obtain ⟨r0, r1, r2, r3, hbl, hsz⟩ := id hR
     rw [if_pos (by rfl)]
     go_simp
     refine hK.out _ _ ?_ ?_ ?_
     ·
      exact Below.refl _ _
     ·
      exact rfl
     ·
      exact fun _ _ _ => ⟨trivial, trivial⟩
    refine FlowAll.cons ?_ ?_
    ·
     intro xF ww hR hd K hK
     have dd6 := hd 6 (by kernel_rfl)
     clear hd
     simp only [take_succ_cons, take_zero, fillOf, Act.put, setIfInBounds_toArray, set_cons_zero, set_cons_succ, Nat.reduceAdd, Nat.zero_add] at hK ⊢
     try generalize xF 0 = yy0 at *
     try generalize xF 1 = yy1 at *
     try generalize xF 2 = yy2 at *
     try generalize xF 3 = yy3 at *
     try generalize xF 4 = yy4 at *
     try generalize xF 5 = yy5 at *
     try generalize xF 6 = yy6 at *
     try generalize xF 7 = yy7 at *
     try generalize xF 8 = yy8 at *
     try generalize xF 9 = yy9 at *
     try generalize xF 10 = yy10 at *
     try generalize xF 11 = yy11 at *
     try generalize xF 12 = yy12 at *
     clear xF
     obtain rfl := dd6
     obtain ⟨r0, r1, r2, r3, hbl, hsz⟩ := id hR
     rw [if_pos (by rfl)]
     go_simp
     refine hK.out _ _ ?_ ?_ ?_
     ·
      exact Below.refl _ _
     ·
      exact rfl
     ·
      exact fun _ _ _ => ⟨trivial, trivial⟩
    refine FlowAll.cons ?_ ?_
    ·
     intro xF ww hR hd K hK
     have dd6 := hd 6 (by kernel_rfl)
     have dd7 := hd 7 (by kernel_rfl)
     have dd8 := hd 8 (by kernel_rfl)
     clear hd
     simp only [take_succ_cons, take_zero, fillOf, Act.put, setIfInBounds_toArray, set_cons_zero, set_cons_succ, Nat.reduceAdd, Nat.zero_add] at hK ⊢
     try generalize xF 0 = yy0 at *
     try generalize xF 1 = yy1 at *
     try generalize xF 2 = yy2 at *
     try generalize xF 3 = yy3 at *
     try generalize xF 4 = yy4 at *
     try generalize xF 5 = yy5 at *
     try generalize xF 6 = yy6 at *
     try generalize xF 7 = yy7 at *
     try generalize xF 8 = yy8 at *
     try generalize xF 9 = yy9 at *
     try generalize xF 10 = yy10 at *
     try generalize xF 11 = yy11 at *
     try generalize xF 12 = yy12 at *
     clear xF
     obtain rfl := dd6
     obtain rfl := dd7
     obtain rfl := dd8
     obtain ⟨r0, r1, r2, r3, hbl, hsz⟩ := id hR
     rw [if_pos (by rfl)]
     go_simp
     (go_at_call 45; (with_reducible refine (HJN.out _ hR.below).mono ?_); rintro e wK ⟨v9, c, rfl, hca, hcs, hbK⟩)
     try go_wp2_with fail
     refine hK.out _ _ ?_ ?_ ?_
     ·
      exact hbK
     ·
      exact ⟨c, hca, hcs⟩
     ·
      exact fun _ _ _ => ⟨trivial, trivial⟩
    refine FlowAll.cons ?_ ?_
    ·
     intro xF ww hR hd K hK
     have dd6 := hd 6 (by kernel_rfl)
     clear hd
     simp only [take_succ_cons, take_zero, fillOf, Act.put, setIfInBounds_toArray, set_cons_zero, set_cons_succ, Nat.reduceAdd, Nat.zero_add] at hK ⊢
     try generalize xF 0 = yy0 at *
     try generalize xF 1 = yy1 at *
     try generalize xF 2 = yy2 at *
     try generalize xF 3 = yy3 at *
     try generalize xF 4 = yy4 at *
     try generalize xF 5 = yy5 at *
     try generalize xF 6 = yy6 at *
     try generalize xF 7 = yy7 at *
     try generalize xF 8 = yy8 at *
     try generalize xF 9 = yy9 at *
     try generalize xF 10 = yy10 at *
     try generalize xF 11 = yy11 at *
     try generalize xF 12 = yy12 at *
     clear xF
     obtain rfl := dd6
     obtain ⟨r0, r1, r2, r3, hbl, hsz⟩ := id hR
     rw [if_pos (by rfl)]
     go_simp
     refine hK.out _ _ ?_ ?_ ?_
     ·
      exact Below.refl _ _
     ·
      exact rfl
     ·
      exact fun _ _ _ => ⟨trivial, trivial⟩
    refine FlowAll.cons ?_ ?_
    ·
     intro xF ww hR hd K hK
     have dd6 := hd 6 (by kernel_rfl)
     have dd9 := hd 9 (by kernel_rfl)
     have dd10 := hd 10 (by kernel_rfl)
     clear hd
     simp only [take_succ_cons, take_zero, fillOf, Act.put, setIfInBounds_toArray, set_cons_zero, set_cons_succ, Nat.reduceAdd, Nat.zero_add] at hK ⊢
     try generalize xF 0 = yy0 at *
     try generalize xF 1 = yy1 at *
     try generalize xF 2 = yy2 at *
     try generalize xF 3 = yy3 at *
     try generalize xF 4 = yy4 at *
     try generalize xF 5 = yy5 at *
     try generalize xF 6 = yy6 at *
     try generalize xF 7 = yy7 at *
     try generalize xF 8 = yy8 at *
     try generalize xF 9 = yy9 at *
     try generalize xF 10 = yy10 at *
     try generalize xF 11 = yy11 at *
     try generalize xF 12 = yy12 at *
     clear xF
     obtain rfl := dd6
     obtain ⟨c, hca, hcs⟩ := dd9
     obtain rfl := dd10
     obtain ⟨r0, r1, r2, r3, hbl, hsz⟩ := id hR
     rw [if_pos (by rfl)]
     go_simp
     (go_at_call 28; (with_reducible refine (HSM.out _ _ _ hR.below hca hcs).mono ?_); rintro e wK ⟨rfl, hbK⟩)
     try go_wp2_with fail
     refine hK.out _ _ ?_ ?_ ?_
     ·
      exact hbK
     ·
      exact rfl
     ·
      exact fun _ _ _ => ⟨trivial, trivial⟩
    refine FlowAll.cons ?_ ?_
    ·
     intro xF ww hR hd K hK
     have dd6 := hd 6 (by kernel_rfl)
     have dd11 := hd 11 (by kernel_rfl)
     clear hd
     simp only [take_succ_cons, take_zero, fillOf, Act.put, setIfInBounds_toArray, set_cons_zero, set_cons_succ, Nat.reduceAdd, Nat.zero_add] at hK ⊢
     try generalize xF 0 = yy0 at *
     try generalize xF 1 = yy1 at *
     try generalize xF 2 = yy2 at *
     try generalize xF 3 = yy3 at *
     try generalize xF 4 = yy4 at *
     try generalize xF 5 = yy5 at *
     try generalize xF 6 = yy6 at *
     try generalize xF 7 = yy7 at *
     try generalize xF 8 = yy8 at *
     try generalize xF 9 = yy9 at *
     try generalize xF 10 = yy10 at *
     try generalize xF 11 = yy11 at *
     try generalize xF 12 = yy12 at *
     clear xF
     obtain rfl := dd6
     obtain rfl := dd11
     obtain ⟨r0, r1, r2, r3, hbl, hsz⟩ := id hR
     rw [if_pos (by rfl)]
     go_simp
     refine hK.out _ _ ?_ ?_ ?_
     ·
      exact Below.refl _ _
     ·
      exact rfl
     ·
      exact fun _ _ _ => ⟨trivial, trivial⟩
    exact FlowAll.nil
   intro xF ww hR hF hP
   clear hP
   have dd0 := hF 0 (by omega) (by decide)
   have dd1 := hF 1 (by omega) (by decide)
   have dd2 := hF 2 (by omega) (by decide)
   have dd3 := hF 3 (by omega) (by decide)
   have dd4 := hF 4 (by omega) (by decide)
   have dd5 := hF 5 (by omega) (by decide)
   have dd6 := hF 6 (by omega) (by decide)
   have dd7 := hF 7 (by omega) (by decide)
   have dd8 := hF 8 (by omega) (by decide)
   have dd9 := hF 9 (by omega) (by decide)
   have dd10 := hF 10 (by omega) (by decide)
   have dd11 := hF 11 (by omega) (by decide)
   have dd12 := hF 12 (by omega) (by decide)
   clear hF
   simp only [take_succ_cons, take_zero, drop_succ_cons, drop_zero, fillOf, Act.put, setIfInBounds_toArray, set_cons_zero, set_cons_succ, Nat.reduceAdd, Nat.zero_add]
   try generalize xF 0 = yy0 at *
   try generalize xF 1 = yy1 at *
   try generalize xF 2 = yy2 at *
   try generalize xF 3 = yy3 at *
   try generalize xF 4 = yy4 at *
   try generalize xF 5 = yy5 at *
   try generalize xF 6 = yy6 at *
   try generalize xF 7 = yy7 at *
   try generalize xF 8 = yy8 at *
   try generalize xF 9 = yy9 at *
   try generalize xF 10 = yy10 at *
   try generalize xF 11 = yy11 at *
   try generalize xF 12 = yy12 at *
   clear xF
   obtain rfl := dd0
   obtain rfl := dd1
   obtain rfl := dd2
   obtain rfl := dd3
   obtain rfl := dd4
   obtain rfl := dd5
   obtain rfl := dd6
   obtain rfl := dd7
   obtain rfl := dd8
   obtain ⟨c, hca, hcs⟩ := dd9
   obtain rfl := dd10
   obtain rfl := dd11
   obtain rfl := dd12
   have hRE := Lib.hid hR
   clear hR
   have hb9 := hA.trans (hRE.out.below.mono (by omega))
   go_wp2
   go_ret
   exact ⟨rfl, hb9⟩
end Go.Proofs.YtonknpdalemjkaaGreat

