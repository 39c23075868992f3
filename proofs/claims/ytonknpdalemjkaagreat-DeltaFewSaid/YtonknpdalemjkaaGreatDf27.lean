/- texts put together: DelFew, Close. -/
import Derived.Carry
import Derived.Deep.DeepHandedRow
import Derived.JoinedCond
import Derived.Lib.LaidTab
import Derived.OpenShut
import Derived.ProofKit
import Derived.Test.YtonknpdalemjkaaGreatRows
import Derived.WalkKit
import Derived.Test.YtonknpdalemjkaaGreatDe00
import Derived.Test.YtonknpdalemjkaaGreatDe01
import Derived.Test.YtonknpdalemjkaaGreatDe02
import Derived.Test.YtonknpdalemjkaaGreatDe03
import Derived.Test.YtonknpdalemjkaaGreatDe04
import Derived.Test.YtonknpdalemjkaaGreatDe05
import Derived.Test.YtonknpdalemjkaaGreatDe06
import Derived.Test.YtonknpdalemjkaaGreatDe07
import Derived.Test.YtonknpdalemjkaaGreatDe08
import Derived.Test.YtonknpdalemjkaaGreatDe09
import Derived.Test.YtonknpdalemjkaaGreatDe10
import Derived.Test.YtonknpdalemjkaaGreatDe11
import Derived.Test.YtonknpdalemjkaaGreatDe12
import Derived.Test.YtonknpdalemjkaaGreatDe13
import Derived.Test.YtonknpdalemjkaaGreatDe14
import Derived.Test.YtonknpdalemjkaaGreatDe15
import Derived.Test.YtonknpdalemjkaaGreatDe16
import Derived.Test.YtonknpdalemjkaaGreatDe17
import Derived.Test.YtonknpdalemjkaaGreatDe18
import Derived.Test.YtonknpdalemjkaaGreatDe19
import Derived.Test.YtonknpdalemjkaaGreatDe20
import Derived.Test.YtonknpdalemjkaaGreatDe21
import Derived.Test.YtonknpdalemjkaaGreatDe22
import Derived.Test.YtonknpdalemjkaaGreatDe23
import Derived.Test.YtonknpdalemjkaaGreatDe24
import Derived.Test.YtonknpdalemjkaaGreatDe25
import Derived.Test.YtonknpdalemjkaaGreatDe26
import Derived.Test.YtonknpdalemjkaaGreatDe27
import Derived.Test.YtonknpdalemjkaaGreatDe28
namespace Go.Proofs.YtonknpdalemjkaaGreat
open Go Go.RowKit Go.ChangeShapes cl
set_option maxHeartbeats 12800000 in
set_option maxRecDepth 100000 in
theorem few_any (l : List (List Int)) (v : Value) (w : World) (hm : MX w) (h : KInts 4 w w.heap.size v l) :
  Calls Tryz.prog 7 #[v] w (Said true w) := by
 have HTWO := Lib.hid (two_any l v w h hm)
 have HAW : Hid (∀ W, Below w.heap.size w W → Calls Tryz.prog 11 #[] W (Said true W)) := fun W hW => awake_any W (MX.next hm hW)
 have HMM := Lib.hid hm
 obtain ⟨ao, n, cap, rfl⟩ : ∃ ao n cap, v = .slice ao n cap := by
  obtain ⟨ao, cap, e, _, h9⟩ := h.form
  exact ⟨ao, _, cap, e⟩
 clear h hm
 go_enter Tryz.func7, Tryz.ntmps7
 go_wp2_with fail
 (with_reducible refine HTWO.out.mono ?_)
 rintro e w1 hT
 rcases two_says HMM.out hT with ⟨_, rfl, hb⟩ | ⟨za0, zn0, zc0, za1, zn1, zc1, za2, zn2, zc2, za3, zn3, zc3, za4, zn4, zc4, za5, zn5, zc5, s, rfl, hLT, hS0, hS1, hAd, h50, hb⟩
 ·
  have HB := Lib.hid (hb.trans (below1 (o := .cells #[.slice none 0 0, .slice none 0 0, .slice none 0 0, .slice none 0 0, .slice none 0 0, .slice none 0 0] 41)|>.mono hb.size))
  clear hT hb
  go_wp2_with fail
  (with_reducible refine (HAW.out _ HB.out).mono ?_)
  rintro e w2 ⟨rfl, hb2⟩
  have HB2 := Lib.hid (HB.out.trans (hb2.mono HB.out.size))
  clear hb2
  go_wp2_with fail
  go_ret
  exact ⟨rfl, HB2.out⟩
 obtain ⟨b4, hb4⟩ : ∃ b, b = w1.heap.size := ⟨_, rfl⟩
 obtain ⟨W0, hW0⟩ : ∃ W, W = w1.alloc (.cells #[.slice za0 zn0 zc0, .slice za1 zn1 zc1, .slice za2 zn2 zc2, .slice za3 zn3 zc3, .slice za4 zn4 zc4, .slice za5 zn5 zc5] 41) := ⟨_, rfl⟩
 have hb0 : Below w1.heap.size w1 W0 := by rw [hW0]; exact below1
 have HLT := Lib.hid (hLT W0 b4 hb0 (by rw [hW0, hb4]; exact heap_alloc_new w1 _))
 have HB := Lib.hid (hb.trans (hb0.mono hb.size))
 have HW0 := Lib.hid hW0
 have HB4 := Lib.hid hb4
 have HAD := Lib.hid hAd
 have HS0 := Lib.hid hS0
 have HS1 := Lib.hid hS1
 have HW1 := Lib.hid hb0
 clear hT hLT hAd h50 hb hb0 hW0 hb4 hS0 hS1
 have x4 : W0.heap[b4]? = some (.cells #[.slice za0 zn0 zc0, .slice za1 zn1 zc1, .slice za2 zn2 zc2, .slice za3 zn3 zc3, .slice za4 zn4 zc4, .slice za5 zn5 zc5] 41 (0, 0)) := by rw [HW0.out, HB4.out]; exact heap_alloc_new w1 _
 have X4 := Lib.hid x4
 have HE0 : Hid (∀ ww, Below W0.heap.size W0 ww → SetE 0 (s.l 0) (s.c 0) (.agg #[.slice za0 zn0 zc0, .slice za1 zn1 zc1, .slice za2 zn2 zc2]) ww ∧ OwnC 0 ww (.agg #[.slice za1 zn1 zc1, .slice za2 zn2 zc2]) (s.c 0)) := fun ww hw => HS0.out.2 ww (HW1.out.trans (hw.mono HW1.out.size))
 have HE1 : Hid (∀ ww, Below W0.heap.size W0 ww → SetE 0 (s.l 1) (s.c 1) (.agg #[.slice za3 zn3 zc3, .slice za4 zn4 zc4, .slice za5 zn5 zc5]) ww ∧ OwnC 0 ww (.agg #[.slice za4 zn4 zc4, .slice za5 zn5 zc5]) (s.c 1)) := fun ww hw => HS1.out.2 ww (HW1.out.trans (hw.mono HW1.out.size))
 have HEN : Hid (∀ ww, Below W0.heap.size W0 ww → Ents ww ww.heap.size (.slice za0 zn0 zc0) (s.l 0)) := fun ww hw => by
  obtain ⟨_, _, _, _, _, _, _, _, _, e, h1, _⟩ := (HE0.out ww hw).1
  simp only [Value.agg.injEq, Array.mk.injEq, List.cons.injEq, and_true] at e
  rw [← e.1] at h1
  exact h1.at
 have HNZ : Hid (zn0 = (s.l 0).length) := HS0.out.1
 have hn50 : zn0 ≤ 50 := by rw [HNZ.out]; exact HLT.out.inv.len (i := 0) (by decide)
 have HSN : Hid (∀ (W : World) (u1 u2 : Value) (dc : dm.Ctx), Below W0.heap.size W0 W → OwnC 0 W (.agg #[u1, u2]) dc → dm.Right dc → Calls Tryz.prog 13 #[.agg #[.slice za0 zn0 zc0, .slice za1 zn1 zc1, .slice za2 zn2 zc2], .agg #[u1, u2]] W fun e w' => ∃ d, e = .returned d ∧ SncV 0 (s.l 0) (s.c 0) dc d w' ∧ Below W.heap.size W w') := fun W u1 u2 dc hW hd hr => (HLT.out.on hW).since (i := 0) (by decide) (HE0.out W hW).1 hd hr
 have HHAS : Hid (∀ (W : World) (d : Dot), Below W0.heap.size W0 W → Calls Tryz.prog 27 #[.agg #[.slice za4 zn4 zc4, .slice za5 zn5 zc5], .agg #[.int .i64 d.1, .int .i64 d.2]] W (SaidD (dm.hasF (s.c 1) d) W)) := fun W d hW => has_any (s.c 1) d _ W (HE1.out W hW).2.at
 clear x4
 go_wp2_with fail
 rw [← HW0.out, ← HB4.out]
 (with_reducible refine (HSN.out W0 _ _ (s.c 1) (Below.refl _ _) (HE1.out W0 (Below.refl _ _)).2 (HLT.out.inv.set 1 (by decide)).right).mono ?_)
 rintro e w3 ⟨d, rfl, hd, hb3⟩
 obtain ⟨da0, dn0, dc0, da1, dn1, dc1, da2, dn2, dc2, da3, dn3, dc3, rfl, g1, g2, g3⟩ := hd
 have hdn0 : dn0 = (newOf (s.c 1) (s.l 0)).length := by
  obtain ⟨_, _, e⟩ : ∃ a c, Value.slice da0 dn0 dc0 = .slice a (newOf (s.c 1) (s.l 0)).length c := own_slice g1
  simp only [Value.slice.injEq] at e
  exact e.2.1
 obtain rfl : dn1 = zn0 := by
  obtain ⟨_, _, e⟩ : ∃ a c, Value.slice da1 dn1 dc1 = .slice a ((s.l 0).map Ent.d).length c := own_slice g2
  simp only [Value.slice.injEq] at e
  rw [e.2.1, List.length_map, HNZ.out]
 obtain ⟨b3, hb3e⟩ : ∃ b, b = w3.heap.size := ⟨_, rfl⟩
 obtain ⟨W4, hW4⟩ : ∃ W, W = w3.alloc (.cells #[.slice da0 dn0 dc0, .slice da1 dn1 dc1, .slice da2 dn2 dc2, .slice da3 dn3 dc3] 29) := ⟨_, rfl⟩
 have hb34 : Below w3.heap.size w3 W4 := by rw [hW4]; exact below1
 have hB4 : Below W0.heap.size W0 W4 := hb3.trans (hb34.mono hb3.size)
 have x3 : W4.heap[b3]? = some (.cells #[.slice da0 dn0 dc0, .slice da1 dn1 dc1, .slice da2 dn2 dc2, .slice da3 dn3 dc3] 29 (0, 0)) := by rw [hW4, hb3e]; exact heap_alloc_new w3 _
 have X3 := Lib.hid x3
 have HDE : Hid (∀ W, Below W4.heap.size W4 W → Ents W W.heap.size (.slice da0 dn0 dc0) (newOf (s.c 1) (s.l 0)) ∧ CtxAt W W.heap.size (.agg #[.slice da2 dn2 dc2, .slice da3 dn3 dc3]) (s.c 0)) := fun W hW => ⟨(g1.on (hb34.trans (hW.mono hb34.size))).at, (g3.on (hb34.trans (hW.mono hb34.size))).at⟩
 have HDN := Lib.hid hdn0
 have y4 := (hB4.block _ (lt_of_block X4.out)).trans X4.out
 have k0 := boxc y4 0 _ rfl
 have n4 : ¬ b4 = w3.heap.size := by have := lt_of_block X4.out; have := hb3.size; omega
 have HD4 := Lib.hid hB4
 have HW4 := Lib.hid hW4
 have HB3 := Lib.hid hb3e
 rw [hW4] at k0
 clear hb3 g1 g2 g3 hb3e hW4 hb34 hB4 x3 y4 hdn0
 go_wp2_with fail
 rw [← HW4.out, ← HB3.out]
 go_loopw [6, 29] (fun a i wr => ∃ k m : Nat, a = .int .i64 (m : Int) ∧ i = .int .i64 (k : Int) ∧ k ≤ dn1 ∧ m ≤ k ∧ Hid (m = (newOf (s.c 1) ((s.l 0).take k)).length) ∧ Hid (Below W4.heap.size W4 wr)) (fun _ i _ => dn1 - (intOf i).toNat)
 case atStart => exact ⟨0, 0, rfl, rfl, Nat.zero_le _, Nat.le_refl _, rfl, Below.refl _ _⟩
 case round =>
  obtain ⟨k, m, rfl, rfl, hk, hmk, HM, HB5⟩ := hrel
  have HB0 : Hid (Below W0.heap.size W0 wr) := HD4.out.trans (HB5.out.mono HD4.out.size)
  by_cases hlt : k < dn1
  ·
   have hkI : (k : Int) < (dn1 : Int) := by omega
   obtain ⟨bb, off, rfl, hbB, p0, p1, p2, p3, p4⟩ := Ents.get (HEN.out wr HB0.out) HNZ.out hlt
   obtain ⟨x, hx⟩ : ∃ x, x = (s.l 0).getD k default := ⟨_, rfl⟩
   rw [← hx] at p0 p1 p2 p3
   have HX : Hid ((s.l 0).take (k + 1) = (s.l 0).take k ++ [x]) := by
    show _ = _
    rw [hx]; exact take_one (s.l 0) k default (by rw [← HNZ.out]; exact hlt)
   obtain ⟨W8, hW8⟩ : ∃ W, W = wr.alloc (.cells #[.string x.s, .int .i64 x.d.1, .int .i64 x.d.2, .int .i64 x.t, .slice none 0 0] 54) := ⟨_, rfl⟩
   have hb8 : Below wr.heap.size wr W8 := by rw [hW8]; exact below1
   have HB8 : Hid (Below W4.heap.size W4 W8) := HB5.out.trans (hb8.mono HB5.out.size)
   have HB08 : Hid (Below W0.heap.size W0 W8) := HD4.out.trans (HB8.out.mono HD4.out.size)
   have y4 := (HB08.out.block _ (lt_of_block X4.out)).trans X4.out
   have k4 := boxc y4 4 _ rfl
   have k5 := boxc y4 5 _ rfl
   have n4 : ¬ b4 = wr.heap.size := by have := lt_of_block X4.out; have := HB0.out.size; omega
   have HC := Lib.hid (HHAS.out W8 x.d HB08.out)
   have HW8 := Lib.hid hW8
   rw [hW8] at k4 k5
   clear hx hW8 hb8 y4
   go_wp2_with fail
   rw [← HW8.out]
   (with_reducible refine HC.out.mono ?_)
   rintro e w9 ⟨rfl, hb9⟩
   have HB9 := Lib.hid (HB8.out.trans (hb9.mono HB8.out.size))
   have hmm : ((m : Int) + 1) ≤ 60 := by omega
   clear hb9 k4 k5 p0 p1 p2 p3 p4 n4
   cases hh : dm.hasF (s.c 1) x.d
   ·
    have HM' : Hid (m + 1 = (newOf (s.c 1) ((s.l 0).take (k + 1))).length) := by
     show _ = _
     rw [HX.out, newOf_snoc, hh, if_neg (by decide), List.length_append, ← HM.out]; rfl
    clear hh
    go_wp2_with fail
    go_roundw
    case rel => exact ⟨k + 1, m + 1, by go_num, by go_num, by omega, by omega, HM', HB9⟩
    case measure => simp [intOf]; omega
   ·
    have HM' : Hid (m = (newOf (s.c 1) ((s.l 0).take (k + 1))).length) := by
     show _ = _
     rw [HX.out, newOf_snoc, hh, if_pos rfl, ← HM.out]
    clear hh
    go_wp2_with fail
    go_roundw
    case rel => exact ⟨k + 1, m, by go_num, by go_num, by omega, by omega, HM', HB9⟩
    case measure => simp [intOf]; omega
  ·
   obtain rfl : k = dn1 := by omega
   obtain rfl : m = dn0 := by rw [HM.out, HDN.out, List.take_of_length_le (by rw [← HNZ.out]; exact Nat.le_refl _)]
   obtain ⟨W5, hW5⟩ : ∃ W, W = wr := ⟨_, rfl⟩
   rw [← hW5] at HB5 HB0 ⊢
   have y3 := (HB5.out.block _ (lt_of_block X3.out)).trans X3.out
   have c0 := boxc y3 0 _ rfl
   clear hW5 y3 HM
   go_wp2_with fail
   go_loopw [46] (fun i wr => ∃ k1 : Nat, i = .int .i64 (k1 : Int) ∧ k1 ≤ m ∧ Hid (Below W4.heap.size W4 wr)) (fun i _ => m - (intOf i).toNat)
   case atStart => exact ⟨0, rfl, Nat.zero_le _, HB5⟩
   case round =>
    obtain ⟨k1, rfl, hk1, HB6⟩ := hrel
    have HB06 : Hid (Below W0.heap.size W0 wr) := HD4.out.trans (HB6.out.mono HD4.out.size)
    by_cases hlt : k1 < m
    ·
     have hkI : (k1 : Int) < (m : Int) := by omega
     obtain ⟨bb, off, rfl, hbB, p0, p1, p2, p3, p4⟩ := Ents.get (HDE.out wr HB6.out).1 HDN.out hlt
     obtain ⟨x, hx⟩ : ∃ x, x = (newOf (s.c 1) (s.l 0)).getD k1 default := ⟨_, rfl⟩
     rw [← hx] at p0 p1 p2 p3
     have hxm : x ∈ newOf (s.c 1) (s.l 0) := by rw [hx]; exact getD_memE (by rw [← HDN.out]; exact hlt)
     have hno : dm.hasF (s.c 1) x.d = false := by
      cases h : dm.hasF (s.c 1) x.d
      ·
       rfl
      ·
       exact absurd (dm.hasF_iff.1 h) (mem_new.1 hxm).2
     obtain ⟨W8, hW8⟩ : ∃ W, W = wr.alloc (.cells #[.string x.s, .int .i64 x.d.1, .int .i64 x.d.2, .int .i64 x.t, .slice none 0 0] 54) := ⟨_, rfl⟩
     have hb8 : Below wr.heap.size wr W8 := by rw [hW8]; exact below1
     have HB8 : Hid (Below W4.heap.size W4 W8) := HB6.out.trans (hb8.mono HB6.out.size)
     have HB08 : Hid (Below W0.heap.size W0 W8) := HD4.out.trans (HB8.out.mono HD4.out.size)
     have y4 := (HB08.out.block _ (lt_of_block X4.out)).trans X4.out
     have k4 := boxc y4 4 _ rfl
     have k5 := boxc y4 5 _ rfl
     have n4 : ¬ b4 = wr.heap.size := by have := lt_of_block X4.out; have := HB06.out.size; omega
     have HC := Lib.hid (HHAS.out W8 x.d HB08.out)
     rw [hno] at HC
     have HW8 := Lib.hid hW8
     rw [hW8] at k4 k5
     clear hx hW8 hb8 y4 hno hxm
     go_wp2_with fail
     rw [← HW8.out]
     (with_reducible refine HC.out.mono ?_)
     rintro e w9 ⟨rfl, hb9⟩
     have HB9 := Lib.hid (HB8.out.trans (hb9.mono HB8.out.size))
     clear hb9 k4 k5 p0 p1 p2 p3 p4 n4
     go_wp2_with fail
     go_roundw
     case rel => exact ⟨k1 + 1, by go_num, by omega, HB9⟩
     case measure => simp [intOf]; omega
    ·
     obtain rfl : k1 = m := by omega
     have y3 := (HB6.out.block _ (lt_of_block X3.out)).trans X3.out
     have y4 := (HB06.out.block _ (lt_of_block X4.out)).trans X4.out
     have c0 := boxc y3 0 _ rfl
     have c1 := boxc y3 1 _ rfl
     have c2 := boxc y3 2 _ rfl
     have c3 := boxc y3 3 _ rfl
     have d0 := boxc y4 0 _ rfl
     have d1 := boxc y4 1 _ rfl
     have d2 := boxc y4 2 _ rfl
     have HCS : Hid (Calls Tryz.prog 28 #[.agg #[.slice da2 dn2 dc2, .slice da3 dn3 dc3], .agg #[.slice za1 zn1 zc1, .slice za2 zn2 zc2]] wr (SaidD true wr)) := by
      have := csame_any (s.c 0) (s.c 0) _ _ wr (HDE.out wr HB6.out).2 (HE0.out wr HB06.out).2.at
      rwa [decide_eq_true rfl] at this
     clear y3 y4
     go_wp2_with fail
     (with_reducible refine HCS.out.mono ?_)
     rintro e w9 ⟨rfl, hb9⟩
     have HB9 : Hid (Below w.heap.size w w9) := HB.out.trans ((HB06.out.trans (hb9.mono HB06.out.size)).mono HB.out.size)
     clear hb9
     go_wp2_with fail
     (with_reducible refine (HAW.out _ HB9.out).mono ?_)
     rintro e w10 ⟨rfl, hb10⟩
     have HB10 : Hid (Below w.heap.size w w10) := HB9.out.trans (hb10.mono HB9.out.size)
     clear hb10
     go_wp2_with fail
     go_ret
     exact ⟨rfl, HB10.out⟩
end Go.Proofs.YtonknpdalemjkaaGreat
namespace Go.Proofs.YtonknpdalemjkaaGreat.close
open Go.RowKit Go.WideShapes Go.ChangeShapes
section
variable {H : Type} {enc : TypeId × Value → H} {P : Program}
end
end Go.Proofs.YtonknpdalemjkaaGreat.close

