/- texts put together: DelOnce. -/
import Derived.Test.YtonknpdalemjkaaGreatDe00
import Derived.Test.YtonknpdalemjkaaGreatDe01
import Derived.Test.YtonknpdalemjkaaGreatDe02
import Derived.Test.YtonknpdalemjkaaGreatDe03
import Derived.Test.YtonknpdalemjkaaGreatDe04
import Derived.Test.YtonknpdalemjkaaGreatDe05
import Derived.Test.YtonknpdalemjkaaGreatDe06
import Derived.Test.YtonknpdalemjkaaGreatDe07
import Derived.Test.YtonknpdalemjkaaGreatDe08
import Derived.Test.YtonknpdalemjkaaGreatDe09
import Derived.Test.YtonknpdalemjkaaGreatDe10
import Derived.Test.YtonknpdalemjkaaGreatDe11
import Derived.Test.YtonknpdalemjkaaGreatDe12
import Derived.Test.YtonknpdalemjkaaGreatDe13
import Derived.Test.YtonknpdalemjkaaGreatDe14
import Derived.Test.YtonknpdalemjkaaGreatDe15
import Derived.Test.YtonknpdalemjkaaGreatDe16
import Derived.Test.YtonknpdalemjkaaGreatDe17
import Derived.Test.YtonknpdalemjkaaGreatDe18
import Derived.Test.YtonknpdalemjkaaGreatDe19
import Derived.Test.YtonknpdalemjkaaGreatDe20
import Derived.Test.YtonknpdalemjkaaGreatDe21
import Derived.Test.YtonknpdalemjkaaGreatDe22
import Derived.Test.YtonknpdalemjkaaGreatDe23
import Derived.Test.YtonknpdalemjkaaGreatDe24
import Derived.Test.YtonknpdalemjkaaGreatDn00
import Derived.Test.YtonknpdalemjkaaGreatDn01
import Derived.Test.YtonknpdalemjkaaGreatDn11
import Derived.Test.YtonknpdalemjkaaGreatDn23
import Derived.Test.YtonknpdalemjkaaGreatDn25
import Derived.Test.YtonknpdalemjkaaGreatDn26
import Derived.Test.YtonknpdalemjkaaGreatDn27
import Derived.Test.YtonknpdalemjkaaGreatDn28
import Derived.Test.YtonknpdalemjkaaGreatDn29
import Derived.Test.YtonknpdalemjkaaGreatDn30
import Derived.Test.YtonknpdalemjkaaGreatDn31
open List (setIfInBounds_toArray set_cons_zero set_cons_succ take_succ_cons take_zero drop_succ_cons drop_zero)
namespace Go.Proofs.YtonknpdalemjkaaGreat
open Go Go.RowKit Go.ChangeShapes cl
theorem infoOp : (Tryz.prog.info? 59).map (fun i => (i.zero, i.size, i.bytes)) = some (some (.agg #[.int .i64 0, .int .i64 0, .int .i64 0, .int .i64 0]), 4, 32) := by kernel_rfl
theorem kcells_one {l : List (List Int)} : ∀ u ∈ kcells l, u.oneCell' = true := by
 intro u hu
 unfold kcells at hu
 obtain ⟨x, _, rfl⟩ := List.mem_map.1 hu
 rfl
theorem kcells_app (a b : List (List Int)) : kcells (a ++ b) = kcells a ++ kcells b := by simp [kcells]
theorem told_all {L : List Ent} : ∀ d ∈ L.map Ent.d, d ∈ (newOf ([], []) L).map Ent.d := fun d hd => (told_since L ([], []) d hd).elim id fun h => absurd h (kn_nil d)
theorem agree_new {l L : List Ent} (h : Agree l L) (c c' : dm.Ctx) : Agree (newOf c l) (newOf c' L) := fun x hx y hy e => h x (mem_new.1 hx).1 y (mem_new.1 hy).1 e
def ApTV (X : List Ent) (C : dm.Ctx) (La : List Ent) (Aa : List Dot) (ca : dm.Ctx) (Lb : List Ent) (Ab : List Dot) (cb : dm.Ctx) (v : Value) (w : World) : Prop := ∃ M1 D1 m1, M1.Perm (apl X C La Aa ca) ∧ dm.Is D1 (fun e => dm.Knows C e ∨ dm.Knows ca e) m1 ∧ AplV M1 D1 Lb Ab cb v w
theorem apTV_kept (X : List Ent) (C : dm.Ctx) (La : List Ent) (Aa : List Dot) (ca : dm.Ctx) (Lb : List Ent) (Ab : List Dot) (cb : dm.Ctx) : Kept (ApTV X C La Aa ca Lb Ab cb) :=
 ⟨fun ⟨M1, D1, m1, h1, h2, h3⟩ hb => ⟨M1, D1, m1, h1, h2, (aplV_kept _ _ _ _ _).on h3 hb⟩, fun ⟨M1, D1, m1, h1, h2, h3⟩ hk q1 q2 => ⟨M1, D1, m1, h1, h2, (aplV_kept _ _ _ _ _).kt h3 hk q1 q2⟩⟩
def JnV (La : List Ent) (Aa : List Dot) (ca : dm.Ctx) (Lb : List Ent) (Ab : List Dot) (cb : dm.Ctx) (v : Value) (w : World) : Prop := ∃ R cj, JD La Aa ca Lb Ab cb R cj ∧ R.length ≤ 2000 ∧ ChgE 0 (jdL La Lb (jdA Aa Ab ca cb R)) (jdA Aa Ab ca cb R) cj v w
theorem jnV_kept (La : List Ent) (Aa : List Dot) (ca : dm.Ctx) (Lb : List Ent) (Ab : List Dot) (cb : dm.Ctx) : Kept (JnV La Aa ca Lb Ab cb) :=
 ⟨fun ⟨R, cj, h1, h2, h3⟩ hb => ⟨R, cj, h1, h2, (chgE_kept _ _ _ _).on h3 hb⟩, fun ⟨R, cj, h1, h2, h3⟩ hk q1 q2 => ⟨R, cj, h1, h2, (chgE_kept _ _ _ _).kt h3 hk q1 q2⟩⟩
set_option maxHeartbeats 25600000 in
set_option maxRecDepth 100000 in
theorem once_any (l m : List (List Int)) (v u : Value) (w : World) (hm : MX w) (h : KInts 4 w w.heap.size v l) (h2 : KInts 4 w w.heap.size u m) (hl : l.length ≤ 1048576) (hlm : m.length ≤ 1048576) :
  Calls Tryz.prog 8 #[v, u] w (Said true w) := by
 have HTWO := Lib.hid (two_any l v w h hm)
 have HAW : Hid (∀ W, Below w.heap.size w W → Calls Tryz.prog 11 #[] W (Said true W)) := fun W hW => awake_any W (MX.next hm hW)
 have HMM := Lib.hid hm
 obtain ⟨ao, n, cap, rfl, hnl⟩ : ∃ ao n cap, v = .slice ao n cap ∧ n = l.length := by
  obtain ⟨ao, cap, e, _, h9⟩ := h.form
  exact ⟨ao, _, cap, e, rfl⟩
 obtain ⟨bo, k, bap, rfl, hkm⟩ : ∃ ao n cap, u = .slice ao n cap ∧ n = m.length := by
  obtain ⟨ao, cap, e, _, h9⟩ := h2.form
  exact ⟨ao, _, cap, e, rfl⟩
 have hn6 : n ≤ 1048576 := by omega
 have hk6 : k ≤ 1048576 := by omega
 have HCL : Hid (∀ W, Below w.heap.size w W → Cells W W.heap.size (.slice ao n cap) n 4 (kcells l)) := fun W hW => by have := Cells.next h.2 hW; rw [← hnl] at this; exact this
 have HCM : Hid (∀ W, Below w.heap.size w W → Cells W W.heap.size (.slice bo k bap) k 4 (kcells m)) := fun W hW => by have := Cells.next h2.2 hW; rw [← hkm] at this; exact this
 have HKI : Hid (∀ (W : World) (v' : Value), Cells W W.heap.size v' (n + k) 4 (kcells l ++ kcells m) → KInts 4 W W.heap.size v' (l ++ m)) := fun W v' hc => by
  refine ⟨fun x hx => ?_, ?_⟩
  ·
   rcases List.mem_append.1 hx with hx | hx
   ·
    exact h.1 x hx
   ·
    exact h2.1 x hx
  ·
   rw [List.length_append, ← hnl, ← hkm, kcells_app]; exact hc
 have HT2 : Hid (∀ (W : World) (v' : Value), Below w.heap.size w W → KInts 4 W W.heap.size v' (l ++ m) → Calls Tryz.prog 23 #[v'] W (TwoP (l ++ m) W)) := fun W v' hW hk => two_any (l ++ m) v' W hk (MX.next hm hW)
 clear h h2 hm hl hlm hnl hkm
 go_enter Tryz.func8, Tryz.ntmps8
 go_wp2_with fail
 (with_reducible refine HTWO.out.mono ?_)
 rintro e w1 hT
 obtain ⟨za0, zn0, zc0, za1, zn1, zc1, za2, zn2, zc2, za3, zn3, zc3, za4, zn4, zc4, za5, zn5, zc5, ok, rfl, hb, hok⟩ := two_gen HMM.out hT
 obtain ⟨b4, hb4⟩ : ∃ b, b = w1.heap.size := ⟨_, rfl⟩
 obtain ⟨W0, hW0⟩ : ∃ W, W = w1.alloc (.cells #[.slice za0 zn0 zc0, .slice za1 zn1 zc1, .slice za2 zn2 zc2, .slice za3 zn3 zc3, .slice za4 zn4 zc4, .slice za5 zn5 zc5] 41) := ⟨_, rfl⟩
 have hb0 : Below w1.heap.size w1 W0 := by rw [hW0]; exact below1
 have x4 : W0.heap[b4]? = some (.cells #[.slice za0 zn0 zc0, .slice za1 zn1 zc1, .slice za2 zn2 zc2, .slice za3 zn3 zc3, .slice za4 zn4 zc4, .slice za5 zn5 zc5] 41 (0, 0)) := by rw [hW0, hb4]; exact heap_alloc_new w1 _
 have s0 : W0.heap.size = w1.heap.size + 1 := by rw [hW0]; simp
 obtain ⟨WE, hWE⟩ : ∃ W, W = W0.alloc (.cells #[] 59) := ⟨_, rfl⟩
 have hbE : Below W0.heap.size W0 WE := by rw [hWE]; exact below1
 have HO0 : Hid (WE.ownsRow W0.heap.size 59 4 (.slice (some ⟨w1.heap.size + 1, 0, none⟩) 0 0) 0 []) := by
  have := own_none (w := W0) (W := W0) 59 (Nat.le_refl _) 4
  rw [s0] at this
  show World.ownsRow _ _ _ _ _ _ _
  rw [hWE, s0]; exact this
 have X4 := Lib.hid x4
 have HOK := Lib.hid hok
 have HB0 : Hid (Below w.heap.size w W0) := hb.trans (hb0.mono hb.size)
 have HB10 := Lib.hid hb0
 have HBE := Lib.hid hbE
 have HC0 := Lib.hid (HCL.out WE (HB0.out.trans (hbE.mono HB0.out.size)))
 have hz : W0.heap.size ≤ WE.heap.size := hbE.size
 have HWE : Hid (WE = (w1.alloc (.cells #[.slice za0 zn0 zc0, .slice za1 zn1 zc1, .slice za2 zn2 zc2, .slice za3 zn3 zc3, .slice za4 zn4 zc4, .slice za5 zn5 zc5] 41)).alloc (.cells #[] 59)) := by show _ = _; rw [hWE, hW0]
 have HB4 := Lib.hid hb4
 clear hT hok hb hb0 x4 s0 hW0 hWE hbE hb4
 go_wp2_with (at_builtin; rw [← HWE.out]; refine appN (.tmp 20) (.tmp 21) 40 rfl rfl W0.heap.size Tryz.underlying40 infoOp rfl (by decide) (by decide) HO0.out rfl rfl HC0.out kcells_one (by omega) hz ?_)
 intro v' w3 hown hg3
 obtain ⟨o3, c3, rfl⟩ := own_slice hown
 have HB3 : Hid (Below W0.heap.size W0 w3) := HBE.out.trans (grown_below HO0.out hz hg3)
 have HO3 := Lib.hid hown
 have hz3 : W0.heap.size ≤ w3.heap.size := HB3.out.size
 have HC3 := Lib.hid (HCM.out w3 (HB0.out.trans (HB3.out.mono HB0.out.size)))
 clear hown hg3
 go_wp2_with (at_builtin; refine appN (.tmp 22) (.tmp 23) 40 rfl rfl W0.heap.size Tryz.underlying40 infoOp rfl (by decide) (by decide) HO3.out rfl rfl HC3.out kcells_one (by omega) hz3 ?_)
 intro v' w4 hown hg4
 obtain ⟨o4, c4, rfl⟩ := own_slice hown
 have HB04 : Hid (Below W0.heap.size W0 w4) := HB3.out.trans (grown_below HO3.out hz3 hg4)
 have HBw4 : Hid (Below w.heap.size w w4) := HB0.out.trans (HB04.out.mono HB0.out.size)
 have HK4 := Lib.hid (HKI.out w4 _ (Cells.own hown))
 clear hown hg4
 go_wp2_with fail
 (with_reducible refine (HT2.out w4 _ HBw4.out HK4.out).mono ?_)
 rintro e w5 hT
 obtain ⟨ya0, yn0, yc0, ya1, yn1, yc1, ya2, yn2, yc2, ya3, yn3, yc3, ya4, yn4, yc4, ya5, yn5, yc5, ok2, rfl, hb, hok2⟩ := two_gen (MX.next HMM.out HBw4.out) hT
 have HOK2 := Lib.hid hok2
 obtain ⟨b9, hb9⟩ : ∃ b, b = w5.heap.size := ⟨_, rfl⟩
 obtain ⟨W9, hW9⟩ : ∃ W, W = w5.alloc (.cells #[.slice ya0 yn0 yc0, .slice ya1 yn1 yc1, .slice ya2 yn2 yc2, .slice ya3 yn3 yc3, .slice ya4 yn4 yc4, .slice ya5 yn5 yc5] 41) := ⟨_, rfl⟩
 have hb59 : Below w5.heap.size w5 W9 := by rw [hW9]; exact below1
 have HB59 := Lib.hid hb59
 have HB49 : Hid (Below w4.heap.size w4 W9) := hb.trans (hb59.mono hb.size)
 have HB09 : Hid (Below W0.heap.size W0 W9) := HB04.out.trans (HB49.out.mono HB04.out.size)
 have HBw9 : Hid (Below w.heap.size w W9) := HB0.out.trans (HB09.out.mono HB0.out.size)
 have X9 : Hid (W9.heap[b9]? = some (.cells #[.slice ya0 yn0 yc0, .slice ya1 yn1 yc1, .slice ya2 yn2 yc2, .slice ya3 yn3 yc3, .slice ya4 yn4 yc4, .slice ya5 yn5 yc5] 41 (0, 0))) := by show _ = _; rw [hW9, hb9]; exact heap_alloc_new w5 _
 have X49 := Lib.hid ((HB09.out.block _ (lt_of_block X4.out)).trans X4.out)
 have HW9 := Lib.hid hW9
 have HB9E := Lib.hid hb9
 clear hT hok2 hb hb59 hW9 hb9
 cases ok
 ·
  go_wp2_with fail
  rw [← HW9.out]
  have HBa := Lib.hid HBw9.out
  (with_reducible refine (HAW.out _ HBa.out).mono ?_)
  rintro e w10 ⟨rfl, hb10⟩
  have HBb : Hid (Below w.heap.size w w10) := HBa.out.trans (hb10.mono HBa.out.size)
  clear hb10
  go_wp2_with fail
  go_ret
  exact ⟨rfl, HBb.out⟩
 cases ok2
 ·
  go_wp2_with fail
  rw [← HW9.out]
  have HBa := Lib.hid HBw9.out
  (with_reducible refine (HAW.out _ HBa.out).mono ?_)
  rintro e w10 ⟨rfl, hb10⟩
  have HBb : Hid (Below w.heap.size w w10) := HBa.out.trans (hb10.mono HBa.out.size)
  clear hb10
  go_wp2_with fail
  go_ret
  exact ⟨rfl, HBb.out⟩
 obtain ⟨s, hLs, hS0, hS1, hRs⟩ := HOK.out rfl
 obtain ⟨t, hLt, hT0, hT1, hRt⟩ := HOK2.out rfl
 have HB19 : Hid (Below w1.heap.size w1 W9) := HB10.out.trans (HB09.out.mono HB10.out.size)
 have HLS := Lib.hid (hLs W9 b4 HB19.out X49.out)
 have HLT := Lib.hid (hLt W9 b9 HB59.out X9.out)
 have HES0 : Hid (∀ ww, Below W9.heap.size W9 ww → SetE 0 (s.l 0) (s.c 0) (.agg #[.slice za0 zn0 zc0, .slice za1 zn1 zc1, .slice za2 zn2 zc2]) ww) := fun ww hw => (hS0.2 ww (HB19.out.trans (hw.mono HB19.out.size))).1
 have HES1 : Hid (∀ ww, Below W9.heap.size W9 ww → SetE 0 (s.l 1) (s.c 1) (.agg #[.slice za3 zn3 zc3, .slice za4 zn4 zc4, .slice za5 zn5 zc5]) ww) := fun ww hw => (hS1.2 ww (HB19.out.trans (hw.mono HB19.out.size))).1
 have HET0 : Hid (∀ ww, Below W9.heap.size W9 ww → SetE 0 (t.l 0) (t.c 0) (.agg #[.slice ya0 yn0 yc0, .slice ya1 yn1 yc1, .slice ya2 yn2 yc2]) ww) := fun ww hw => (hT0.2 ww (HB59.out.trans (hw.mono HB59.out.size))).1
 have HET1 : Hid (∀ ww, Below W9.heap.size W9 ww → SetE 0 (t.l 1) (t.c 1) (.agg #[.slice ya3 yn3 yc3, .slice ya4 yn4 yc4, .slice ya5 yn5 yc5]) ww) := fun ww hw => (hT1.2 ww (HB59.out.trans (hw.mono HB59.out.size))).1
 have HAG : Hid (Agree (newOf ([], []) (s.l 0)) (newOf ([], []) (t.l 1))) := agree_new (run_agree hRs hRt (i := 0) (j := 1) (by decide) (by decide)) _ _
 have HAS : Hid (∀ W, Below W9.heap.size W9 W → Calls Tryz.prog 15 #[.agg #[.slice za0 zn0 zc0, .slice za1 zn1 zc1, .slice za2 zn2 zc2]] W fun e w' => ∃ d, e = .returned d ∧ ChgE 0 (newOf ([], []) (s.l 0)) ((s.l 0).map Ent.d) (s.c 0) d w' ∧ Below W.heap.size W w') := fun W hW => (HLS.out.on hW).all (i := 0) (by decide) (HES0.out W hW)
 have HAT : Hid (∀ W, Below W9.heap.size W9 W → Calls Tryz.prog 15 #[.agg #[.slice ya3 yn3 yc3, .slice ya4 yn4 yc4, .slice ya5 yn5 yc5]] W fun e w' => ∃ d, e = .returned d ∧ ChgE 0 (newOf ([], []) (t.l 1)) ((t.l 1).map Ent.d) (t.c 1) d w' ∧ Below W.heap.size W w') := fun W hW => (HLT.out.on hW).all (i := 1) (by decide) (HET1.out W hW)
 have HRA : Hid (RDel (newOf ([], []) (s.l 0)) ((s.l 0).map Ent.d) (s.c 0)) := rdel_since (HLS.out.inv.set 0 (by decide)) _
 have HRB : Hid (RDel (newOf ([], []) (t.l 1)) ((t.l 1).map Ent.d) (t.c 1)) := rdel_since (HLT.out.inv.set 1 (by decide)) _
 have HBD : Hid (((newOf ([], []) (s.l 0)).length ≤ 50 ∧ ((s.l 0).map Ent.d).length ≤ 50 ∧ (s.c 0).2.length ≤ 50) ∧ ((newOf ([], []) (t.l 1)).length ≤ 50 ∧ ((t.l 1).map Ent.d).length ≤ 50 ∧ (t.c 1).2.length ≤ 50)) := by
  have q1 := HLS.out.inv.len (i := 0) (by decide)
  have q2 := HLT.out.inv.len (i := 1) (by decide)
  refine ⟨⟨Nat.le_trans (newOf_len _ _) q1, by rw [List.length_map]; exact q1, HLS.out.inv.cloud (by decide)⟩, Nat.le_trans (newOf_len _ _) q2, by rw [List.length_map]; exact q2, HLT.out.inv.cloud (by decide)⟩
 have HMX : Hid (∀ W, Below W9.heap.size W9 W → MX W) := fun W hW => (HLS.out.on hW).mx
 clear hLs hS0 hS1 hRs hLt hT0 hT1 hRt
 go_wp2_with fail
 rw [← HW9.out, ← HB9E.out, ← HB4.out]
 refine wp_flow 8 (fun _ => 1000) (fun ww => RowKit.Below W9.heap.size W9 ww) (fun _ w w' => (fun (w w' : World) => RowKit.Below w.heap.size w w') w w') (fun kF vF wF => match kF with | 0 => (vF = .pointer (some ⟨b4, 0, none⟩)) | 1 => (vF = .agg #[.slice za0 zn0 zc0, .slice za1 zn1 zc1, .slice za2 zn2 zc2]) | 2 => (ChgE 0 (newOf ([], []) (s.l 0)) ((s.l 0).map Ent.d) (s.c 0) vF wF) | 3 => (vF = .pointer (some ⟨b9, 3, none⟩)) | 4 => (vF = .agg #[.slice ya3 yn3 yc3, .slice ya4 yn4 yc4, .slice ya5 yn5 yc5]) | 5 => (ChgE 0 (newOf ([], []) (t.l 1)) ((t.l 1).map Ent.d) (t.c 1) vF wF) | 6 => (∃ g, vF = .pointer (some ⟨g, 0, none⟩) ∧ wF.heap[g]? = some (.cells #[.slice none 0 0, .slice none 0 0, .slice none 0 0, .slice none 0 0] 29 (0, 0)) ∧ W9.heap.size ≤ g) | 7 => (∃ g, vF = .pointer (some ⟨g, 0, none⟩) ∧ wF.heap[g]? = some (.cells #[.slice none 0 0, .slice none 0 0, .slice none 0 0, .slice none 0 0] 29 (0, 0)) ∧ W9.heap.size ≤ g) | _ => True) (fun i j v u => i = 6 ∧ j = 7 → v ≠ u) (by kernel_rfl) (by kernel_rfl) ?_ ?_ ?_ ?_ ?_
 ·
  exact (Below.refl _ _).drew
 ·
  intro iF wF1 wF2 hR hT; exact hR.trans (hT.mono hR.size)
 ·
  intro kF hkF iF hiF hne hdd hanc hdan vF wF1 wF2 h hT
  rcases (by omega : kF = 0 ∨ kF = 1 ∨ kF = 2 ∨ kF = 3 ∨ kF = 4 ∨ kF = 5 ∨ kF = 6 ∨ kF = 7) with rfl | rfl | rfl | rfl | rfl | rfl | rfl | rfl
  iterate 2 exact h
  ·
   have h : (ChgE 0 (newOf ([], []) (s.l 0)) ((s.l 0).map Ent.d) (s.c 0) vF wF1) := h
   show (ChgE 0 (newOf ([], []) (s.l 0)) ((s.l 0).map Ent.d) (s.c 0) vF wF2)
   have hT : (fun (w w' : World) => RowKit.Below w.heap.size w w') wF1 wF2 := hT
   simp only at hT
   exact (chgE_kept _ _ _ _).on h hT
  iterate 2 exact h
  ·
   have h : (ChgE 0 (newOf ([], []) (t.l 1)) ((t.l 1).map Ent.d) (t.c 1) vF wF1) := h
   show (ChgE 0 (newOf ([], []) (t.l 1)) ((t.l 1).map Ent.d) (t.c 1) vF wF2)
   have hT : (fun (w w' : World) => RowKit.Below w.heap.size w w') wF1 wF2 := hT
   simp only at hT
   exact (chgE_kept _ _ _ _).on h hT
  ·
   have h : (∃ g, vF = .pointer (some ⟨g, 0, none⟩) ∧ wF1.heap[g]? = some (.cells #[.slice none 0 0, .slice none 0 0, .slice none 0 0, .slice none 0 0] 29 (0, 0)) ∧ W9.heap.size ≤ g) := h
   show (∃ g, vF = .pointer (some ⟨g, 0, none⟩) ∧ wF2.heap[g]? = some (.cells #[.slice none 0 0, .slice none 0 0, .slice none 0 0, .slice none 0 0] 29 (0, 0)) ∧ W9.heap.size ≤ g)
   have hT : (fun (w w' : World) => RowKit.Below w.heap.size w w') wF1 wF2 := hT
   simp only at hT
   obtain ⟨g, e, h1, h2⟩ := h
   exact ⟨g, e, (hT.block _ (lt_of_block h1)).trans h1, h2⟩
  ·
   have h : (∃ g, vF = .pointer (some ⟨g, 0, none⟩) ∧ wF1.heap[g]? = some (.cells #[.slice none 0 0, .slice none 0 0, .slice none 0 0, .slice none 0 0] 29 (0, 0)) ∧ W9.heap.size ≤ g) := h
   show (∃ g, vF = .pointer (some ⟨g, 0, none⟩) ∧ wF2.heap[g]? = some (.cells #[.slice none 0 0, .slice none 0 0, .slice none 0 0, .slice none 0 0] 29 (0, 0)) ∧ W9.heap.size ≤ g)
   have hT : (fun (w w' : World) => RowKit.Below w.heap.size w w') wF1 wF2 := hT
   simp only at hT
   obtain ⟨g, e, h1, h2⟩ := h
   exact ⟨g, e, (hT.block _ (lt_of_block h1)).trans h1, h2⟩
 ·
  generalize hAF : fillOf _ _ _ = AF
  replace hAF := fun x => congrFun hAF x
  simp only [take_succ_cons, take_zero, fillOf, Act.put, setIfInBounds_toArray, set_cons_zero, set_cons_succ, Nat.reduceAdd, Nat.zero_add] at hAF
  refine .cons ?_ (.cons ?_ (.cons ?_ (.cons ?_ (.cons ?_ (.cons ?_ (.cons ?_ (.cons ?_ (.nil))))))))
  all_goals
   intro xF w10 hR hd K hK
   first | simp only [← hAF, Act.put, setIfInBounds_toArray, set_cons_zero, set_cons_succ] at hK ⊢ | simp only [← hAF, Act.put] at hK ⊢
   clear hAF
   try simp only [Nat.zero_add, Nat.reduceAdd] at hK ⊢
  ·
   clear hd
   rw [if_pos (by rfl)]
   go_simp
   exact hK.out _ _ (Below.refl _ _) (rfl) (fun _ _ _ => ⟨fun h => by omega, fun h => by omega⟩)
  ·
   have dd0 := hd 0 (by kernel_rfl)
   clear hd
   try generalize xF 0 = yy0 at *
   obtain rfl := dd0
   have v9 := (hR.block _ (lt_of_block X49.out)).trans X49.out
   have v90 := boxc v9 0 _ rfl
   have v91 := boxc v9 1 _ rfl
   have v92 := boxc v9 2 _ rfl
   rw [if_pos (by rfl)]
   go_simp
   exact hK.out _ _ (Below.refl _ _) (rfl) (fun _ _ _ => ⟨fun h => by omega, fun h => by omega⟩)
  ·
   have dd1 := hd 1 (by kernel_rfl)
   clear hd
   try generalize xF 1 = yy1 at *
   obtain rfl := dd1
   rw [if_pos (by rfl)]
   go_simp
   (go_at_call 15; (with_reducible refine (HAS.out _ hR).mono ?_); rintro e wK ⟨vK, rfl, hpK, hbK⟩)
   try go_wp2_with fail
   exact hK.out _ _ (hbK) (hpK) (fun _ _ _ => ⟨fun h => by omega, fun h => by omega⟩)
  ·
   clear hd
   rw [if_pos (by rfl)]
   go_simp
   exact hK.out _ _ (Below.refl _ _) (rfl) (fun _ _ _ => ⟨fun h => by omega, fun h => by omega⟩)
  ·
   have dd3 := hd 3 (by kernel_rfl)
   clear hd
   try generalize xF 3 = yy3 at *
   obtain rfl := dd3
   have v9 := (hR.block _ (lt_of_block X9.out)).trans X9.out
   have v93 := boxc v9 3 _ rfl
   have v94 := boxc v9 4 _ rfl
   have v95 := boxc v9 5 _ rfl
   rw [if_pos (by rfl)]
   go_simp
   exact hK.out _ _ (Below.refl _ _) (rfl) (fun _ _ _ => ⟨fun h => by omega, fun h => by omega⟩)
  ·
   have dd4 := hd 4 (by kernel_rfl)
   clear hd
   try generalize xF 4 = yy4 at *
   obtain rfl := dd4
   rw [if_pos (by rfl)]
   go_simp
   (go_at_call 15; (with_reducible refine (HAT.out _ hR).mono ?_); rintro e wK ⟨vK, rfl, hpK, hbK⟩)
   try go_wp2_with fail
   exact hK.out _ _ (hbK) (hpK) (fun _ _ _ => ⟨fun h => by omega, fun h => by omega⟩)
  ·
   clear hd
   rw [if_pos (by rfl)]
   go_simp
   refine hK.out _ _ ?_ ?_ ?_
   ·
    exact below1
   ·
    exact ⟨_, rfl, heap_alloc_new _ _, hR.size⟩
   ·
    intro j u hju
    refine ⟨fun hj => ?_, fun hj => ?_⟩
    ·
     obtain ⟨hj1, hj2⟩ := hj
     subst hj2
     obtain ⟨g, rfl, hg, _⟩ : (∃ g, u = .pointer (some ⟨g, 0, none⟩) ∧ w10.heap[g]? = some (.cells #[.slice none 0 0, .slice none 0 0, .slice none 0 0, .slice none 0 0] 29 (0, 0)) ∧ W9.heap.size ≤ g) := hju
     intro e
     have := lt_of_block hg
     simp only [Value.pointer.injEq, Option.some.injEq, Addr.mk.injEq] at e
     omega
    ·
     obtain ⟨hj1, hj2⟩ := hj
     subst hj1
     obtain ⟨g, rfl, hg, _⟩ : (∃ g, u = .pointer (some ⟨g, 0, none⟩) ∧ w10.heap[g]? = some (.cells #[.slice none 0 0, .slice none 0 0, .slice none 0 0, .slice none 0 0] 29 (0, 0)) ∧ W9.heap.size ≤ g) := hju
     intro e
     have := lt_of_block hg
     simp only [Value.pointer.injEq, Option.some.injEq, Addr.mk.injEq] at e
     omega
  ·
   clear hd
   rw [if_pos (by rfl)]
   go_simp
   refine hK.out _ _ ?_ ?_ ?_
   ·
    exact below1
   ·
    exact ⟨_, rfl, heap_alloc_new _ _, hR.size⟩
   ·
    intro j u hju
    refine ⟨fun hj => ?_, fun hj => ?_⟩
    ·
     obtain ⟨hj1, hj2⟩ := hj
     subst hj2
     obtain ⟨g, rfl, hg, _⟩ : (∃ g, u = .pointer (some ⟨g, 0, none⟩) ∧ w10.heap[g]? = some (.cells #[.slice none 0 0, .slice none 0 0, .slice none 0 0, .slice none 0 0] 29 (0, 0)) ∧ W9.heap.size ≤ g) := hju
     intro e
     have := lt_of_block hg
     simp only [Value.pointer.injEq, Option.some.injEq, Addr.mk.injEq] at e
     omega
    ·
     obtain ⟨hj1, hj2⟩ := hj
     subst hj1
     obtain ⟨g, rfl, hg, _⟩ : (∃ g, u = .pointer (some ⟨g, 0, none⟩) ∧ w10.heap[g]? = some (.cells #[.slice none 0 0, .slice none 0 0, .slice none 0 0, .slice none 0 0] 29 (0, 0)) ∧ W9.heap.size ≤ g) := hju
     intro e
     have := lt_of_block hg
     simp only [Value.pointer.injEq, Option.some.injEq, Addr.mk.injEq] at e
     omega
 intro xF w10 hR hF hP
 have hne : (6 = 6 ∧ 7 = 7 → xF 6 ≠ xF 7) := hP 6 7 (by omega) (by omega) (by decide) (by decide) (by omega)
 clear hP
 have dd0 := hF 0 (by omega) (by decide)
 have dd1 := hF 1 (by omega) (by decide)
 have dd2 : (ChgE 0 (newOf ([], []) (s.l 0)) ((s.l 0).map Ent.d) (s.c 0) (xF 2) w10) := hF 2 (by omega) (by decide)
 have dd3 := hF 3 (by omega) (by decide)
 have dd4 := hF 4 (by omega) (by decide)
 have dd5 : (ChgE 0 (newOf ([], []) (t.l 1)) ((t.l 1).map Ent.d) (t.c 1) (xF 5) w10) := hF 5 (by omega) (by decide)
 have dd6 := hF 6 (by omega) (by decide)
 have dd7 := hF 7 (by omega) (by decide)
 clear hF
 simp only [take_succ_cons, take_zero, drop_succ_cons, drop_zero, fillOf, Act.put, setIfInBounds_toArray, set_cons_zero, set_cons_succ, Nat.reduceAdd, Nat.zero_add]
 try generalize xF 0 = yy0 at *
 try generalize xF 1 = yy1 at *
 try generalize xF 2 = yy2 at *
 try generalize xF 3 = yy3 at *
 try generalize xF 4 = yy4 at *
 try generalize xF 5 = yy5 at *
 try generalize xF 6 = yy6 at *
 try generalize xF 7 = yy7 at *
 clear xF
 obtain rfl := dd0
 obtain rfl := dd1
 have hp2 := dd2
 obtain rfl := dd3
 obtain rfl := dd4
 have hp5 := dd5
 obtain ⟨gA, rfl, hgA, hlA⟩ := dd6
 obtain ⟨gB, rfl, hgB, hlB⟩ := dd7
 have hRE := Lib.hid hR
 clear hR
 have hAB : ¬ gA = gB := fun e => hne ⟨rfl, rfl⟩ (by rw [e])
 clear hne
 obtain ⟨aa0, an0, ac0, aa1, an1, ac1, aa2, an2, ac2, aa3, an3, ac3, rfl, a1, a2, a3⟩ := hp2
 obtain ⟨ba0, bn0, bc0, ba1, bn1, bc1, ba2, bn2, bc2, ba3, bn3, bc3, rfl, b1, b2, b3⟩ := hp5
 obtain ⟨w11, hw11⟩ : ∃ W, W = (((w10.setCell ⟨gA, 0, none⟩ (.slice aa0 an0 ac0)).setCell ⟨gA, 1, none⟩ (.slice aa1 an1 ac1)).setCell ⟨gA, 2, none⟩ (.slice aa2 an2 ac2)).setCell ⟨gA, 3, none⟩ (.slice aa3 an3 ac3) := ⟨_, rfl⟩
 obtain ⟨w12, hw12⟩ : ∃ W, W = (((w11.setCell ⟨gB, 0, none⟩ (.slice ba0 bn0 bc0)).setCell ⟨gB, 1, none⟩ (.slice ba1 bn1 bc1)).setCell ⟨gB, 2, none⟩ (.slice ba2 bn2 bc2)).setCell ⟨gB, 3, none⟩ (.slice ba3 bn3 bc3) := ⟨_, rfl⟩
 have kA0 := boxc hgA 0 _ rfl
 have kA1 := boxc hgA 1 _ rfl
 have kA2 := boxc hgA 2 _ rfl
 have kA3 := boxc hgA 3 _ rfl
 have fA0 := boxf hgA 0
 have fA1 := boxf hgA 1
 have fA2 := boxf hgA 2
 have fA3 := boxf hgA 3
 have gr1 : w10.grownBy w11 (some gA) := by rw [hw11]; exact set4_grown _
 have yB := (gr1.block _ (lt_of_block hgB) (fun e => hAB (Option.some.inj e).symm)).trans hgB
 have kB0 := boxc yB 0 _ rfl
 have kB1 := boxc yB 1 _ rfl
 have kB2 := boxc yB 2 _ rfl
 have kB3 := boxc yB 3 _ rfl
 have fB0 := boxf yB 0
 have fB1 := boxf yB 1
 have fB2 := boxf yB 2
 have fB3 := boxf yB 3
 have yA1 : w11.heap[gA]? = some (.cells #[.slice aa0 an0 ac0, .slice aa1 an1 ac1, .slice aa2 an2 ac2, .slice aa3 an3 ac3] 29 (0, 0)) := by rw [hw11]; exact heap_setCell_same _ gA 3 _ _ _ (heap_setCell_same _ gA 2 _ _ _ (heap_setCell_same _ gA 1 _ _ _ (heap_setCell_same _ gA 0 _ _ _ hgA)))
 have yB2 : w12.heap[gB]? = some (.cells #[.slice ba0 bn0 bc0, .slice ba1 bn1 bc1, .slice ba2 bn2 bc2, .slice ba3 bn3 bc3] 29 (0, 0)) := by rw [hw12]; exact heap_setCell_same _ gB 3 _ _ _ (heap_setCell_same _ gB 2 _ _ _ (heap_setCell_same _ gB 1 _ _ _ (heap_setCell_same _ gB 0 _ _ _ yB)))
 have gr2 : w11.grownBy w12 (some gB) := by rw [hw12]; exact set4_grown _
 have yA2 := (gr2.block _ (lt_of_block yA1) (fun e => hAB (Option.some.inj e))).trans yA1
 have hk1 : Kt 29 w10 w11 := by rw [hw11]; exact set4_kt hgA _ _ _ _
 have hk2 : Kt 29 w11 w12 := by rw [hw12]; exact set4_kt yB _ _ _ _
 have XA := Lib.hid yA2
 have XB := Lib.hid yB2
 have HCA : Hid (ChgE 0 (newOf ([], []) (s.l 0)) ((s.l 0).map Ent.d) (s.c 0) (.agg #[.slice aa0 an0 ac0, .slice aa1 an1 ac1, .slice aa2 an2 ac2, .slice aa3 an3 ac3]) w12) := ⟨_, _, _, _, _, _, _, _, _, _, _, _, rfl, (a1.kt hk1 (by decide)).kt hk2 (by decide), (a2.kt hk1 (by decide)).kt hk2 (by decide), (a3.kt hk1 (by decide)).kt hk2 (by decide)⟩
 have HCB : Hid (ChgE 0 (newOf ([], []) (t.l 1)) ((t.l 1).map Ent.d) (t.c 1) (.agg #[.slice ba0 bn0 bc0, .slice ba1 bn1 bc1, .slice ba2 bn2 bc2, .slice ba3 bn3 bc3]) w12) := ⟨_, _, _, _, _, _, _, _, _, _, _, _, rfl, (b1.kt hk1 (by decide)).kt hk2 (by decide), (b2.kt hk1 (by decide)).kt hk2 (by decide), (b3.kt hk1 (by decide)).kt hk2 (by decide)⟩
 have HB912 : Hid (Below W9.heap.size W9 w12) := ((hRE.out.grown gr1 hRE.out.size (fun j hj => by cases hj; exact hlA))).grown gr2 (Nat.le_trans hRE.out.size gr1.size) (fun j hj => by cases hj; exact hlB)
 have cA0 := boxc yA2 0 _ rfl
 have cA1 := boxc yA2 1 _ rfl
 have cA2 := boxc yA2 2 _ rfl
 have cA3 := boxc yA2 3 _ rfl
 have cB0 := boxc yB2 0 _ rfl
 have cB1 := boxc yB2 1 _ rfl
 have cB2 := boxc yB2 2 _ rfl
 have cB3 := boxc yB2 3 _ rfl
 have HW12 : Hid (w12 = (((((((w10.setCell ⟨gA, 0, none⟩ (.slice aa0 an0 ac0)).setCell ⟨gA, 1, none⟩ (.slice aa1 an1 ac1)).setCell ⟨gA, 2, none⟩ (.slice aa2 an2 ac2)).setCell ⟨gA, 3, none⟩ (.slice aa3 an3 ac3)).setCell ⟨gB, 0, none⟩ (.slice ba0 bn0 bc0)).setCell ⟨gB, 1, none⟩ (.slice ba1 bn1 bc1)).setCell ⟨gB, 2, none⟩ (.slice ba2 bn2 bc2)).setCell ⟨gB, 3, none⟩ (.slice ba3 bn3 bc3)) := by show _ = _; rw [hw12, hw11]
 rw [hw12] at cA0 cA1 cA2 cA3 cB0 cB1 cB2 cB3
 rw [hw11] at kB0 kB1 kB2 kB3 fB0 fB1 fB2 fB3 cA0 cA1 cA2 cA3 cB0 cB1 cB2 cB3
 clear a1 a2 a3 b1 b2 b3 hw11 hw12 gr1 gr2 yB yA1 yA2 yB2 hk1 hk2 hgA hgB hRE hlA hlB
 go_wp2_with fail
 rw [← HW12.out]
 clear kA0 kA1 kA2 kA3 fA0 fA1 fA2 fA3 kB0 kB1 kB2 kB3 fB0 fB1 fB2 fB3 cA0 cA1 cA2 cA3 cB0 cB1 cB2 cB3 hAB
 (with_reducible refine (djoin_any (newOf ([], []) (s.l 0)) (newOf ([], []) (t.l 1)) ((s.l 0).map Ent.d) ((t.l 1).map Ent.d) (s.c 0) (t.c 1) _ _ w12 HCA.out HCB.out HRA.out HRB.out (by have := HBD.out; omega) (by have := HBD.out; omega) (by have := HBD.out; omega) (by have := HBD.out; omega) (HMX.out w12 HB912.out)).mono ?_)
 rintro e w13 ⟨vj, R, cj, rfl, hJD, hRl, hCj, hb13⟩
 obtain ⟨ja0, jn0, jc0, ja1, jn1, jc1, ja2, jn2, jc2, ja3, jn3, jc3, rfl, j1, j2, j3⟩ := hCj
 obtain ⟨bj, hbj⟩ : ∃ b, b = w13.heap.size := ⟨_, rfl⟩
 obtain ⟨W14, hW14⟩ : ∃ W, W = w13.alloc (.cells #[.slice ja0 jn0 jc0, .slice ja1 jn1 jc1, .slice ja2 jn2 jc2, .slice ja3 jn3 jc3] 29) := ⟨_, rfl⟩
 have hb14 : Below w13.heap.size w13 W14 := by rw [hW14]; exact below1
 have hb12 : Below w12.heap.size w12 W14 := hb13.trans (hb14.mono hb13.size)
 have HB914 : Hid (Below W9.heap.size W9 W14) := HB912.out.trans (hb12.mono HB912.out.size)
 have XJ : Hid (W14.heap[bj]? = some (.cells #[.slice ja0 jn0 jc0, .slice ja1 jn1 jc1, .slice ja2 jn2 jc2, .slice ja3 jn3 jc3] 29 (0, 0))) := by show _ = _; rw [hW14, hbj]; exact heap_alloc_new w13 _
 have y4 := (HB914.out.block _ (lt_of_block X49.out)).trans X49.out
 have y9 := (HB914.out.block _ (lt_of_block X9.out)).trans X9.out
 have k3 := boxc y4 3 _ rfl
 have k4 := boxc y4 4 _ rfl
 have k5 := boxc y4 5 _ rfl
 have m0 := boxc y9 0 _ rfl
 have m1 := boxc y9 1 _ rfl
 have m2 := boxc y9 2 _ rfl
 have m3 := boxc y9 3 _ rfl
 have m4 := boxc y9 4 _ rfl
 have m5 := boxc y9 5 _ rfl
 have n4 : ¬ b4 = w13.heap.size := by have h1 := lt_of_block X49.out; have h2 := (HB912.out.trans (hb13.mono HB912.out.size)).size; omega
 have n9 : ¬ b9 = w13.heap.size := by have h1 := lt_of_block X9.out; have h2 := (HB912.out.trans (hb13.mono HB912.out.size)).size; omega
 obtain ⟨bs, hbs⟩ : ∃ b, b = w13.heap.size + 1 := ⟨_, rfl⟩
 obtain ⟨WS, hWS⟩ : ∃ W, W = W14.alloc (.cells #[.slice none 0 0, .slice none 0 0, .slice none 0 0, .slice za3 zn3 zc3, .slice za4 zn4 zc4, .slice za5 zn5 zc5, .slice ya0 yn0 yc0, .slice ya1 yn1 yc1, .slice ya2 yn2 yc2, .slice ya3 yn3 yc3, .slice ya4 yn4 yc4, .slice ya5 yn5 yc5] 27) := ⟨_, rfl⟩
 have hbS : Below W14.heap.size W14 WS := by rw [hWS]; exact below1
 have xs : WS.heap[bs]? = some (.cells #[.slice none 0 0, .slice none 0 0, .slice none 0 0, .slice za3 zn3 zc3, .slice za4 zn4 zc4, .slice za5 zn5 zc5, .slice ya0 yn0 yc0, .slice ya1 yn1 yc1, .slice ya2 yn2 yc2, .slice ya3 yn3 yc3, .slice ya4 yn4 yc4, .slice ya5 yn5 yc5] 27 (0, 0)) := by
  rw [hWS, hbs, show w13.heap.size + 1 = W14.heap.size by rw [hW14]; simp]; exact heap_alloc_new W14 _
 have HB12S : Hid (Below w12.heap.size w12 WS) := hb12.trans (hbS.mono hb12.size)
 have HB9S : Hid (Below W9.heap.size W9 WS) := HB914.out.trans (hbS.mono HB914.out.size)
 have HBJ : Hid (∀ ww, Below WS.heap.size WS ww → ChgE 0 (jdL (newOf ([], []) (s.l 0)) (newOf ([], []) (t.l 1)) (jdA ((s.l 0).map Ent.d) ((t.l 1).map Ent.d) (s.c 0) (t.c 1) R)) (jdA ((s.l 0).map Ent.d) ((t.l 1).map Ent.d) (s.c 0) (t.c 1) R) cj (.agg #[.slice ja0 jn0 jc0, .slice ja1 jn1 jc1, .slice ja2 jn2 jc2, .slice ja3 jn3 jc3]) ww) := fun ww hw => (chgE_kept _ _ _ _).on ⟨_, _, _, _, _, _, _, _, _, _, _, _, rfl, j1, j2, j3⟩ (hb14.trans ((hbS.trans (hw.mono hbS.size)).mono hb14.size))
 have HBA : Hid (∀ ww, Below WS.heap.size WS ww → ChgE 0 (newOf ([], []) (s.l 0)) ((s.l 0).map Ent.d) (s.c 0) (.agg #[.slice aa0 an0 ac0, .slice aa1 an1 ac1, .slice aa2 an2 ac2, .slice aa3 an3 ac3]) ww ∧ ww.heap[gA]? = some (.cells #[.slice aa0 an0 ac0, .slice aa1 an1 ac1, .slice aa2 an2 ac2, .slice aa3 an3 ac3] 29 (0, 0))) := fun ww hw => by
  have hb := HB12S.out.trans (hw.mono HB12S.out.size)
  exact ⟨(chgE_kept _ _ _ _).on HCA.out hb, (hb.block _ (lt_of_block XA.out)).trans XA.out⟩
 have HBB : Hid (∀ ww, Below WS.heap.size WS ww → ChgE 0 (newOf ([], []) (t.l 1)) ((t.l 1).map Ent.d) (t.c 1) (.agg #[.slice ba0 bn0 bc0, .slice ba1 bn1 bc1, .slice ba2 bn2 bc2, .slice ba3 bn3 bc3]) ww ∧ ww.heap[gB]? = some (.cells #[.slice ba0 bn0 bc0, .slice ba1 bn1 bc1, .slice ba2 bn2 bc2, .slice ba3 bn3 bc3] 29 (0, 0))) := fun ww hw => by
  have hb := HB12S.out.trans (hw.mono HB12S.out.size)
  exact ⟨(chgE_kept _ _ _ _).on HCB.out hb, (hb.block _ (lt_of_block XB.out)).trans XB.out⟩
 have HXJ : Hid (∀ ww, Below WS.heap.size WS ww → ww.heap[bj]? = some (.cells #[.slice ja0 jn0 jc0, .slice ja1 jn1 jc1, .slice ja2 jn2 jc2, .slice ja3 jn3 jc3] 29 (0, 0))) := fun ww hw => ((hbS.trans (hw.mono hbS.size)).block _ (lt_of_block XJ.out)).trans XJ.out
 have HXS : Hid (∀ k, k < 4 → ∃ e0 f0 h0 e1 f1 h1 e2 f2 h2 X C, (∀ W, Below WS.heap.size WS W → W.cell? ⟨bs, k * 3, none⟩ = some (.slice e0 f0 h0) ∧ W.cell? ⟨bs, k * 3 + 1, none⟩ = some (.slice e1 f1 h1) ∧ W.cell? ⟨bs, k * 3 + 2, none⟩ = some (.slice e2 f2 h2)) ∧
   (∀ W, Below WS.heap.size WS W → SetE 0 X C (.agg #[.slice e0 f0 h0, .slice e1 f1 h1, .slice e2 f2 h2]) W) ∧ RSet X C ∧ X.length ≤ 50 ∧ C.2.length ≤ 50) := fun k hk => by
  have key : ∀ W, Below WS.heap.size WS W → W.heap[bs]? = some (.cells #[.slice none 0 0, .slice none 0 0, .slice none 0 0, .slice za3 zn3 zc3, .slice za4 zn4 zc4, .slice za5 zn5 zc5, .slice ya0 yn0 yc0, .slice ya1 yn1 yc1, .slice ya2 yn2 yc2, .slice ya3 yn3 yc3, .slice ya4 yn4 yc4, .slice ya5 yn5 yc5] 27 (0, 0)) := fun W hW => (hW.block _ (lt_of_block xs)).trans xs
  rcases (by omega : k = 0 ∨ k = 1 ∨ k = 2 ∨ k = 3) with rfl | rfl | rfl | rfl
  ·
   exact ⟨none, 0, 0, none, 0, 0, none, 0, 0, [], ([], []), fun W hW => ⟨boxc (key W hW) 0 _ rfl, boxc (key W hW) 1 _ rfl, boxc (key W hW) 2 _ rfl⟩, fun W _ => ⟨_, _, _, _, _, _, _, _, _, rfl, World.ownsRow_nil _ _ _ _, ownC_nil _ _⟩, ⟨right_nil, List.Pairwise.nil, (fun x hx => by cases hx), (fun x hx => by cases hx)⟩, by decide, by decide⟩
  ·
   exact ⟨_, _, _, _, _, _, _, _, _, s.l 1, s.c 1, fun W hW => ⟨boxc (key W hW) 3 _ rfl, boxc (key W hW) 4 _ rfl, boxc (key W hW) 5 _ rfl⟩, fun W hW => HES1.out W (HB9S.out.trans (hW.mono HB9S.out.size)), HLS.out.inv.set 1 (by decide), HLS.out.inv.len (by decide), HLS.out.inv.cloud (by decide)⟩
  ·
   exact ⟨_, _, _, _, _, _, _, _, _, t.l 0, t.c 0, fun W hW => ⟨boxc (key W hW) 6 _ rfl, boxc (key W hW) 7 _ rfl, boxc (key W hW) 8 _ rfl⟩, fun W hW => HET0.out W (HB9S.out.trans (hW.mono HB9S.out.size)), HLT.out.inv.set 0 (by decide), HLT.out.inv.len (by decide), HLT.out.inv.cloud (by decide)⟩
  ·
   exact ⟨_, _, _, _, _, _, _, _, _, t.l 1, t.c 1, fun W hW => ⟨boxc (key W hW) 9 _ rfl, boxc (key W hW) 10 _ rfl, boxc (key W hW) 11 _ rfl⟩, fun W hW => HET1.out W (HB9S.out.trans (hW.mono HB9S.out.size)), HLT.out.inv.set 1 (by decide), HLT.out.inv.len (by decide), HLT.out.inv.cloud (by decide)⟩
 have HNUM : Hid ((jdA ((s.l 0).map Ent.d) ((t.l 1).map Ent.d) (s.c 0) (t.c 1) R).length ≤ 100 ∧ cj.2.length ≤ 100) := by
  obtain ⟨mj, hIs⟩ := hJD.ctx
  have q1 := nodup_len (a := R) (b := ((s.l 0).map Ent.d) ++ ((t.l 1).map Ent.d)) (hJD.up.imp fun {x y} h e => by rw [e] at h; exact dm.dless_irrefl _ h) (fun d hd => List.mem_append.2 ((hJD.mem d).1 hd))
  have q2 := jdA_len ((s.l 0).map Ent.d) ((t.l 1).map Ent.d) (s.c 0) (t.c 1) R
  have q3 := HBD.out
  have q4 := cloud_len (U := s.U ++ t.U) hIs.right (fun d hd => by
   rcases (hIs.know d).1 hd with h | h
   ·
    exact List.mem_append_left _ (TS.mem_U (HLS.out.inv.kn 0 (by decide) d h))
   ·
    exact List.mem_append_right _ (TS.mem_U (HLT.out.inv.kn 1 (by decide) d h)))
  rw [List.length_append, TS.U_len, TS.U_len] at q4
  have q5 := HLS.out.inv.sum
  have q6 := HLT.out.inv.sum
  rw [List.length_append] at q1
  exact ⟨by omega, by omega⟩
 have HJ := Lib.hid hJD
 have HRL := Lib.hid hRl
 have HRJ := Lib.hid hJD.rdel
 have HTJ := Lib.hid (hJD.told told_all told_all)
 have HWS : Hid (WS = (w13.alloc (.cells #[.slice ja0 jn0 jc0, .slice ja1 jn1 jc1, .slice ja2 jn2 jc2, .slice ja3 jn3 jc3] 29)).alloc (.cells #[.slice none 0 0, .slice none 0 0, .slice none 0 0, .slice za3 zn3 zc3, .slice za4 zn4 zc4, .slice za5 zn5 zc5, .slice ya0 yn0 yc0, .slice ya1 yn1 yc1, .slice ya2 yn2 yc2, .slice ya3 yn3 yc3, .slice ya4 yn4 yc4, .slice ya5 yn5 yc5] 27)) := by show _ = _; rw [hWS, hW14]
 have HBJE := Lib.hid hbj
 have HBSE := Lib.hid hbs
 have HBWS : Hid (Below w.heap.size w WS) := HBw9.out.trans (HB9S.out.mono HBw9.out.size)
 rw [hW14] at k3 k4 k5 m0 m1 m2 m3 m4 m5
 clear hb13 hJD hRl j1 j2 j3 hbj hW14 hb14 hb12 y4 y9 hbs hWS hbS xs
 go_wp2_with fail
 rw [← HWS.out, ← HBSE.out, ← HBJE.out]
 clear k3 k4 k5 m0 m1 m2 m3 m4 m5 n4 n9
 go_loopw [53] (fun i wr => ∃ k : Nat, i = .int .i64 (k : Int) ∧ k ≤ 4 ∧ Hid (Below WS.heap.size WS wr)) (fun i _ => 4 - (intOf i).toNat)
 case atStart => exact ⟨0, rfl, by omega, Below.refl _ _⟩
 case round =>
  obtain ⟨kk, rfl, hkk, HR⟩ := hrel
  by_cases hlt : kk < 4
  ·
   have hkI : (kk : Int) < 4 := by omega
   have hk0 : 0 ≤ (kk : Int) := by omega
   obtain ⟨e0, f0, h0, e1, f1, h1, e2, f2, h2, X, C, hcell, hset, hRS, hXl, hCl⟩ := HXS.out kk hlt
   obtain ⟨p0, p1, p2⟩ := hcell wr HR.out
   obtain ⟨gx, hgx⟩ : ∃ b, b = wr.heap.size := ⟨_, rfl⟩
   obtain ⟨w15, hw15⟩ : ∃ W, W = wr.alloc (.cells #[.slice e0 f0 h0, .slice e1 f1 h1, .slice e2 f2 h2] 27) := ⟨_, rfl⟩
   have hb15 : Below wr.heap.size wr w15 := by rw [hw15]; exact below1
   have HR15 : Hid (Below WS.heap.size WS w15) := HR.out.trans (hb15.mono HR.out.size)
   have XX : Hid (w15.heap[gx]? = some (.cells #[.slice e0 f0 h0, .slice e1 f1 h1, .slice e2 f2 h2] 27 (0, 0))) := by show _ = _; rw [hw15, hgx]; exact heap_alloc_new wr _
   have HSX : Hid (∀ W, Below w15.heap.size w15 W → SetE 0 X C (.agg #[.slice e0 f0 h0, .slice e1 f1 h1, .slice e2 f2 h2]) W) := fun W hW => hset W (HR15.out.trans (hW.mono HR15.out.size))
   have HM15 : Hid (∀ W, Below w15.heap.size w15 W → MX W) := fun W hW => HMX.out W (HB9S.out.trans ((HR15.out.trans (hW.mono HR15.out.size)).mono HB9S.out.size))
   have HAJ : Hid (∀ W, Below w15.heap.size w15 W → Calls Tryz.prog 24 #[.agg #[.slice e0 f0 h0, .slice e1 f1 h1, .slice e2 f2 h2], .agg #[.slice ja0 jn0 jc0, .slice ja1 jn1 jc1, .slice ja2 jn2 jc2, .slice ja3 jn3 jc3]] W fun e w' => ∃ v', e = .returned v' ∧ AplV X C (jdL (newOf ([], []) (s.l 0)) (newOf ([], []) (t.l 1)) (jdA ((s.l 0).map Ent.d) ((t.l 1).map Ent.d) (s.c 0) (t.c 1) R)) (jdA ((s.l 0).map Ent.d) ((t.l 1).map Ent.d) (s.c 0) (t.c 1) R) cj v' w' ∧ Below W.heap.size W w') := fun W hW => by
    have q1 := jdL_len (newOf ([], []) (s.l 0)) (newOf ([], []) (t.l 1)) (jdA ((s.l 0).map Ent.d) ((t.l 1).map Ent.d) (s.c 0) (t.c 1) R)
    have q2 := jdA_len ((s.l 0).map Ent.d) ((t.l 1).map Ent.d) (s.c 0) (t.c 1) R
    have q3 := HRL.out
    refine apply_c X (jdL (newOf ([], []) (s.l 0)) (newOf ([], []) (t.l 1)) (jdA ((s.l 0).map Ent.d) ((t.l 1).map Ent.d) (s.c 0) (t.c 1) R)) (jdA ((s.l 0).map Ent.d) ((t.l 1).map Ent.d) (s.c 0) (t.c 1) R) C cj _ _ W (HSX.out W hW) (HBJ.out W (HR15.out.trans (hW.mono HR15.out.size))) hRS HRJ.out HTJ.out (by omega) ?_ ?_ (by omega) ?_ (HM15.out W hW)
    ·
     have q4 := HNUM.out.1; omega
    ·
     have q4 := HNUM.out.1; omega
    ·
     have q5 := HNUM.out.2; omega
   have HAA : Hid (∀ W, Below w15.heap.size w15 W → Calls Tryz.prog 24 #[.agg #[.slice e0 f0 h0, .slice e1 f1 h1, .slice e2 f2 h2], .agg #[.slice aa0 an0 ac0, .slice aa1 an1 ac1, .slice aa2 an2 ac2, .slice aa3 an3 ac3]] W fun e w' => ∃ v', e = .returned v' ∧ (∃ M D, SetE 0 M D v' w' ∧ M.Perm (apl X C (newOf ([], []) (s.l 0)) ((s.l 0).map Ent.d) (s.c 0)) ∧ os.Up M ∧ dm.Is D (fun e => dm.Knows C e ∨ dm.Knows (s.c 0) e) (C.2.length + (s.c 0).2.length)) ∧ Below W.heap.size W w') := fun W hW => apply_m X (newOf ([], []) (s.l 0)) ((s.l 0).map Ent.d) C (s.c 0) _ _ W (HSX.out W hW) (HBA.out W (HR15.out.trans (hW.mono HR15.out.size))).1 hRS HRA.out told_all (by omega) (by have := HBD.out; omega) (by have := HBD.out; omega) (by omega) (by have := HBD.out; omega) (HM15.out W hW)
   have HAB : Hid (∀ W v, Below w15.heap.size w15 W → (∃ M D, SetE 0 M D v W ∧ M.Perm (apl X C (newOf ([], []) (s.l 0)) ((s.l 0).map Ent.d) (s.c 0)) ∧ os.Up M ∧ dm.Is D (fun e => dm.Knows C e ∨ dm.Knows (s.c 0) e) (C.2.length + (s.c 0).2.length)) → Calls Tryz.prog 24 #[v, .agg #[.slice ba0 bn0 bc0, .slice ba1 bn1 bc1, .slice ba2 bn2 bc2, .slice ba3 bn3 bc3]] W fun e w' => ∃ v', e = .returned v' ∧ ApTV X C (newOf ([], []) (s.l 0)) ((s.l 0).map Ent.d) (s.c 0) (newOf ([], []) (t.l 1)) ((t.l 1).map Ent.d) (t.c 1) v' w' ∧ Below W.heap.size W w') := fun W v hW ⟨M, D, q1, q2, q3, q4⟩ => by
    have hRM : RSet M D := rset_apply hRS HRA.out q2 q3 q4
    have ql : M.length ≤ 100 := by have := q2.length_eq; have := apl_len X C (newOf ([], []) (s.l 0)) ((s.l 0).map Ent.d) (s.c 0); have := HBD.out; omega
    refine (apply_c M (newOf ([], []) (t.l 1)) ((t.l 1).map Ent.d) D (t.c 1) _ _ W q1 (HBB.out W (HR15.out.trans (hW.mono HR15.out.size))).1 hRM HRB.out told_all (by omega) (by have := HBD.out; omega) (by have := HBD.out; omega) (by have := q4.len2; have := HBD.out; omega) (by have := HBD.out; omega) (HM15.out W hW)).mono ?_
    rintro e w' ⟨v', rfl, hv, hb⟩
    exact ⟨_, rfl, ⟨M, D, _, q2, q4, hv⟩, hb⟩
   have HSE : Hid (∀ W u v, AplV X C (jdL (newOf ([], []) (s.l 0)) (newOf ([], []) (t.l 1)) (jdA ((s.l 0).map Ent.d) ((t.l 1).map Ent.d) (s.c 0) (t.c 1) R)) (jdA ((s.l 0).map Ent.d) ((t.l 1).map Ent.d) (s.c 0) (t.c 1) R) cj u W → ApTV X C (newOf ([], []) (s.l 0)) ((s.l 0).map Ent.d) (s.c 0) (newOf ([], []) (t.l 1)) ((t.l 1).map Ent.d) (t.c 1) v W → Calls Tryz.prog 25 #[u, v] W (Said true W)) := fun W u v ⟨M3, D3, q1, q2, q3, m3, q4⟩ ⟨M1, D1, m1, r1, r2, M2, D2, t1, t2, t3, m2, t4⟩ => by
    obtain ⟨rfl, rfl⟩ := HJ.out.does told_all r1 r2 t2 t3 t4 q2 q3 q4
    exact same_v _ _ u v W q1 t1
   have HW15 := Lib.hid hw15
   have HGX := Lib.hid hgx
   clear hcell hset hRS hXl hCl hb15 hw15 hgx
   go_wp2_with fail
   rw [← HW15.out, ← HGX.out]
   clear p0 p1 p2
   refine wp_flow 10 (fun _ => 1000) (fun ww => RowKit.Below w15.heap.size w15 ww) (fun _ w w' => (fun (w w' : World) => RowKit.Below w.heap.size w w') w w') (fun kF vF wF => match kF with | 0 => (vF = .agg #[.slice e0 f0 h0, .slice e1 f1 h1, .slice e2 f2 h2]) | 1 => (vF = .agg #[.slice ja0 jn0 jc0, .slice ja1 jn1 jc1, .slice ja2 jn2 jc2, .slice ja3 jn3 jc3]) | 2 => (AplV X C (jdL (newOf ([], []) (s.l 0)) (newOf ([], []) (t.l 1)) (jdA ((s.l 0).map Ent.d) ((t.l 1).map Ent.d) (s.c 0) (t.c 1) R)) (jdA ((s.l 0).map Ent.d) ((t.l 1).map Ent.d) (s.c 0) (t.c 1) R) cj vF wF) | 3 => (vF = .agg #[.slice e0 f0 h0, .slice e1 f1 h1, .slice e2 f2 h2]) | 4 => (vF = .agg #[.slice aa0 an0 ac0, .slice aa1 an1 ac1, .slice aa2 an2 ac2, .slice aa3 an3 ac3]) | 5 => (∃ M D, SetE 0 M D vF wF ∧ M.Perm (apl X C (newOf ([], []) (s.l 0)) ((s.l 0).map Ent.d) (s.c 0)) ∧ os.Up M ∧ dm.Is D (fun e => dm.Knows C e ∨ dm.Knows (s.c 0) e) (C.2.length + (s.c 0).2.length)) | 6 => (vF = .agg #[.slice ba0 bn0 bc0, .slice ba1 bn1 bc1, .slice ba2 bn2 bc2, .slice ba3 bn3 bc3]) | 7 => (ApTV X C (newOf ([], []) (s.l 0)) ((s.l 0).map Ent.d) (s.c 0) (newOf ([], []) (t.l 1)) ((t.l 1).map Ent.d) (t.c 1) vF wF) | 8 => (vF = .bool true) | 9 => (vF = .bool false) | _ => True) (fun _ _ _ _ => True) (by kernel_rfl) (by kernel_rfl) ?_ ?_ ?_ ?_ ?_
   ·
    exact (Below.refl _ _).drew
   ·
    intro iF wF1 wF2 hR hT; exact hR.trans (hT.mono hR.size)
   ·
    intro kF hkF iF hiF hne hdd hanc hdan vF wF1 wF2 h hT
    rcases (by omega : kF = 0 ∨ kF = 1 ∨ kF = 2 ∨ kF = 3 ∨ kF = 4 ∨ kF = 5 ∨ kF = 6 ∨ kF = 7 ∨ kF = 8 ∨ kF = 9) with rfl | rfl | rfl | rfl | rfl | rfl | rfl | rfl | rfl | rfl
    iterate 2 exact h
    ·
     have h : (AplV X C (jdL (newOf ([], []) (s.l 0)) (newOf ([], []) (t.l 1)) (jdA ((s.l 0).map Ent.d) ((t.l 1).map Ent.d) (s.c 0) (t.c 1) R)) (jdA ((s.l 0).map Ent.d) ((t.l 1).map Ent.d) (s.c 0) (t.c 1) R) cj vF wF1) := h
     show (AplV X C (jdL (newOf ([], []) (s.l 0)) (newOf ([], []) (t.l 1)) (jdA ((s.l 0).map Ent.d) ((t.l 1).map Ent.d) (s.c 0) (t.c 1) R)) (jdA ((s.l 0).map Ent.d) ((t.l 1).map Ent.d) (s.c 0) (t.c 1) R) cj vF wF2)
     have hT : (fun (w w' : World) => RowKit.Below w.heap.size w w') wF1 wF2 := hT
     simp only at hT
     exact (aplV_kept _ _ _ _ _).on h hT
    iterate 2 exact h
    ·
     have h : (∃ M D, SetE 0 M D vF wF1 ∧ M.Perm (apl X C (newOf ([], []) (s.l 0)) ((s.l 0).map Ent.d) (s.c 0)) ∧ os.Up M ∧ dm.Is D (fun e => dm.Knows C e ∨ dm.Knows (s.c 0) e) (C.2.length + (s.c 0).2.length)) := h
     show (∃ M D, SetE 0 M D vF wF2 ∧ M.Perm (apl X C (newOf ([], []) (s.l 0)) ((s.l 0).map Ent.d) (s.c 0)) ∧ os.Up M ∧ dm.Is D (fun e => dm.Knows C e ∨ dm.Knows (s.c 0) e) (C.2.length + (s.c 0).2.length))
     have hT : (fun (w w' : World) => RowKit.Below w.heap.size w w') wF1 wF2 := hT
     simp only at hT
     obtain ⟨M, D, q1, q2⟩ := h
     exact ⟨M, D, (setE_kept _ _ _).on q1 hT, q2⟩
    ·
     exact h
    ·
     have h : (ApTV X C (newOf ([], []) (s.l 0)) ((s.l 0).map Ent.d) (s.c 0) (newOf ([], []) (t.l 1)) ((t.l 1).map Ent.d) (t.c 1) vF wF1) := h
     show (ApTV X C (newOf ([], []) (s.l 0)) ((s.l 0).map Ent.d) (s.c 0) (newOf ([], []) (t.l 1)) ((t.l 1).map Ent.d) (t.c 1) vF wF2)
     have hT : (fun (w w' : World) => RowKit.Below w.heap.size w w') wF1 wF2 := hT
     simp only at hT
     exact (apTV_kept _ _ _ _ _ _ _ _).on h hT
    iterate 2 exact h
   ·
    generalize hAF : fillOf _ _ _ = AF
    replace hAF := fun x => congrFun hAF x
    simp only [take_succ_cons, take_zero, fillOf, Act.put, setIfInBounds_toArray, set_cons_zero, set_cons_succ, Nat.reduceAdd, Nat.zero_add] at hAF
    refine .cons ?_ (.cons ?_ (.cons ?_ (.cons ?_ (.cons ?_ (.cons ?_ (.cons ?_ (.cons ?_ (.cons ?_ (.cons ?_ (.nil))))))))))
    all_goals
     intro xF w16 hR hd K hK
     first | simp only [← hAF, Act.put, setIfInBounds_toArray, set_cons_zero, set_cons_succ] at hK ⊢ | simp only [← hAF, Act.put] at hK ⊢
     clear hAF
     try simp only [Nat.zero_add, Nat.reduceAdd] at hK ⊢
    ·
     clear hd
     have v9 := (hR.block _ (lt_of_block XX.out)).trans XX.out
     have v90 := boxc v9 0 _ rfl
     have v91 := boxc v9 1 _ rfl
     have v92 := boxc v9 2 _ rfl
     rw [if_pos (by rfl)]
     go_simp
     exact hK.out _ _ (Below.refl _ _) (rfl) (fun _ _ _ => ⟨trivial, trivial⟩)
    ·
     clear hd
     have v9 := HXJ.out _ (HR15.out.trans (hR.mono HR15.out.size))
     have v90 := boxc v9 0 _ rfl
     have v91 := boxc v9 1 _ rfl
     have v92 := boxc v9 2 _ rfl
     have v93 := boxc v9 3 _ rfl
     rw [if_pos (by rfl)]
     go_simp
     exact hK.out _ _ (Below.refl _ _) (rfl) (fun _ _ _ => ⟨trivial, trivial⟩)
    ·
     have dd0 := hd 0 (by kernel_rfl)
     have dd1 := hd 1 (by kernel_rfl)
     clear hd
     try generalize xF 0 = yy0 at *
     try generalize xF 1 = yy1 at *
     obtain rfl := dd0
     obtain rfl := dd1
     rw [if_pos (by rfl)]
     go_simp
     (go_at_call 24; (with_reducible refine (HAJ.out _ hR).mono ?_); rintro e wK ⟨vK, rfl, hpK, hbK⟩)
     try go_wp2_with fail
     exact hK.out _ _ (hbK) (hpK) (fun _ _ _ => ⟨trivial, trivial⟩)
    ·
     clear hd
     have v9 := (hR.block _ (lt_of_block XX.out)).trans XX.out
     have v90 := boxc v9 0 _ rfl
     have v91 := boxc v9 1 _ rfl
     have v92 := boxc v9 2 _ rfl
     rw [if_pos (by rfl)]
     go_simp
     exact hK.out _ _ (Below.refl _ _) (rfl) (fun _ _ _ => ⟨trivial, trivial⟩)
    ·
     clear hd
     have v9 := (HBA.out _ (HR15.out.trans (hR.mono HR15.out.size))).2
     have v90 := boxc v9 0 _ rfl
     have v91 := boxc v9 1 _ rfl
     have v92 := boxc v9 2 _ rfl
     have v93 := boxc v9 3 _ rfl
     rw [if_pos (by rfl)]
     go_simp
     exact hK.out _ _ (Below.refl _ _) (rfl) (fun _ _ _ => ⟨trivial, trivial⟩)
    ·
     have dd3 := hd 3 (by kernel_rfl)
     have dd4 := hd 4 (by kernel_rfl)
     clear hd
     try generalize xF 3 = yy3 at *
     try generalize xF 4 = yy4 at *
     obtain rfl := dd3
     obtain rfl := dd4
     rw [if_pos (by rfl)]
     go_simp
     (go_at_call 24; (with_reducible refine (HAA.out _ hR).mono ?_); rintro e wK ⟨vK, rfl, hpK, hbK⟩)
     try go_wp2_with fail
     exact hK.out _ _ (hbK) (hpK) (fun _ _ _ => ⟨trivial, trivial⟩)
    ·
     clear hd
     have v9 := (HBB.out _ (HR15.out.trans (hR.mono HR15.out.size))).2
     have v90 := boxc v9 0 _ rfl
     have v91 := boxc v9 1 _ rfl
     have v92 := boxc v9 2 _ rfl
     have v93 := boxc v9 3 _ rfl
     rw [if_pos (by rfl)]
     go_simp
     exact hK.out _ _ (Below.refl _ _) (rfl) (fun _ _ _ => ⟨trivial, trivial⟩)
    ·
     have dd5 : (∃ M D, SetE 0 M D (xF 5) w16 ∧ M.Perm (apl X C (newOf ([], []) (s.l 0)) ((s.l 0).map Ent.d) (s.c 0)) ∧ os.Up M ∧ dm.Is D (fun e => dm.Knows C e ∨ dm.Knows (s.c 0) e) (C.2.length + (s.c 0).2.length)) := hd 5 (by kernel_rfl)
     have dd6 := hd 6 (by kernel_rfl)
     clear hd
     try generalize xF 5 = yy5 at *
     try generalize xF 6 = yy6 at *
     have hp5 := dd5
     obtain rfl := dd6
     rw [if_pos (by rfl)]
     go_simp
     (go_at_call 24; (with_reducible refine (HAB.out _ _ hR hp5).mono ?_); rintro e wK ⟨vK, rfl, hpK, hbK⟩)
     try go_wp2_with fail
     exact hK.out _ _ (hbK) (hpK) (fun _ _ _ => ⟨trivial, trivial⟩)
    ·
     have dd2 : (AplV X C (jdL (newOf ([], []) (s.l 0)) (newOf ([], []) (t.l 1)) (jdA ((s.l 0).map Ent.d) ((t.l 1).map Ent.d) (s.c 0) (t.c 1) R)) (jdA ((s.l 0).map Ent.d) ((t.l 1).map Ent.d) (s.c 0) (t.c 1) R) cj (xF 2) w16) := hd 2 (by kernel_rfl)
     have dd7 : (ApTV X C (newOf ([], []) (s.l 0)) ((s.l 0).map Ent.d) (s.c 0) (newOf ([], []) (t.l 1)) ((t.l 1).map Ent.d) (t.c 1) (xF 7) w16) := hd 7 (by kernel_rfl)
     clear hd
     try generalize xF 2 = yy2 at *
     try generalize xF 7 = yy7 at *
     have hp2 := dd2
     have hp7 := dd7
     rw [if_pos (by rfl)]
     go_simp
     (go_at_call 25; (with_reducible refine (HSE.out _ _ _ hp2 hp7).mono ?_); rintro e wK ⟨rfl, hbK⟩)
     try go_wp2_with fail
     exact hK.out _ _ (hbK) (rfl) (fun _ _ _ => ⟨trivial, trivial⟩)
    ·
     have dd8 := hd 8 (by kernel_rfl)
     clear hd
     try generalize xF 8 = yy8 at *
     obtain rfl := dd8
     rw [if_pos (by rfl)]
     go_simp
     exact hK.out _ _ (Below.refl _ _) (rfl) (fun _ _ _ => ⟨trivial, trivial⟩)
   intro xF w16 hR hF hP
   clear hP
   have dd0 := hF 0 (by omega) (by decide)
   have dd1 := hF 1 (by omega) (by decide)
   have dd2 : (AplV X C (jdL (newOf ([], []) (s.l 0)) (newOf ([], []) (t.l 1)) (jdA ((s.l 0).map Ent.d) ((t.l 1).map Ent.d) (s.c 0) (t.c 1) R)) (jdA ((s.l 0).map Ent.d) ((t.l 1).map Ent.d) (s.c 0) (t.c 1) R) cj (xF 2) w16) := hF 2 (by omega) (by decide)
   have dd3 := hF 3 (by omega) (by decide)
   have dd4 := hF 4 (by omega) (by decide)
   have dd5 : (∃ M D, SetE 0 M D (xF 5) w16 ∧ M.Perm (apl X C (newOf ([], []) (s.l 0)) ((s.l 0).map Ent.d) (s.c 0)) ∧ os.Up M ∧ dm.Is D (fun e => dm.Knows C e ∨ dm.Knows (s.c 0) e) (C.2.length + (s.c 0).2.length)) := hF 5 (by omega) (by decide)
   have dd6 := hF 6 (by omega) (by decide)
   have dd7 : (ApTV X C (newOf ([], []) (s.l 0)) ((s.l 0).map Ent.d) (s.c 0) (newOf ([], []) (t.l 1)) ((t.l 1).map Ent.d) (t.c 1) (xF 7) w16) := hF 7 (by omega) (by decide)
   have dd8 := hF 8 (by omega) (by decide)
   have dd9 := hF 9 (by omega) (by decide)
   clear hF
   simp only [take_succ_cons, take_zero, drop_succ_cons, drop_zero, fillOf, Act.put, setIfInBounds_toArray, set_cons_zero, set_cons_succ, Nat.reduceAdd, Nat.zero_add]
   try generalize xF 0 = yy0 at *
   try generalize xF 1 = yy1 at *
   try generalize xF 2 = yy2 at *
   try generalize xF 3 = yy3 at *
   try generalize xF 4 = yy4 at *
   try generalize xF 5 = yy5 at *
   try generalize xF 6 = yy6 at *
   try generalize xF 7 = yy7 at *
   try generalize xF 8 = yy8 at *
   try generalize xF 9 = yy9 at *
   clear xF
   obtain rfl := dd0
   obtain rfl := dd1
   have hp2 := dd2
   obtain rfl := dd3
   obtain rfl := dd4
   have hp5 := dd5
   obtain rfl := dd6
   have hp7 := dd7
   obtain rfl := dd8
   obtain rfl := dd9
   have hRE := Lib.hid hR
   clear hR
   have HR16 : Hid (Below WS.heap.size WS w16) := HR15.out.trans (hRE.out.mono HR15.out.size)
   clear hRE
   go_wp2_with fail
   go_roundw
   case rel => exact ⟨kk + 1, by go_num, by omega, HR16⟩
   case measure => simp [intOf]; omega
  ·
   have hk4 : ¬ (kk : Int) < 4 := by omega
   have HRW : Hid (Below w.heap.size w wr) := HBWS.out.trans (HR.out.mono HBWS.out.size)
   have HMR : Hid (∀ W, Below wr.heap.size wr W → MX W) := fun W hW => HMX.out W (HB9S.out.trans ((HR.out.trans (hW.mono HR.out.size)).mono HB9S.out.size))
   have HRDJ : Hid (∀ W, Below wr.heap.size wr W → Calls Tryz.prog 29 #[.agg #[.slice ja0 jn0 jc0, .slice ja1 jn1 jc1, .slice ja2 jn2 jc2, .slice ja3 jn3 jc3]] W (Said true W)) := fun W hW => by
    obtain ⟨_, _, _, _, _, _, _, _, _, _, _, _, e, q1, q2, q3⟩ := HBJ.out W (HR.out.trans (hW.mono HR.out.size))
    simp only [Value.agg.injEq, Array.mk.injEq, List.cons.injEq, and_true] at e
    obtain ⟨i1, i2, i3, i4⟩ := e
    rw [← i1] at q1
    rw [← i2] at q2
    rw [← i3, ← i4] at q3
    exact rdelta_yes _ _ _ _ _ _ _ W q1.at q2.at q3.at HRJ.out (by have q4 := HNUM.out.1; omega) (HMR.out W hW)
   have HJBA : Hid (∀ W, Below wr.heap.size wr W → Calls Tryz.prog 21 #[.agg #[.slice ba0 bn0 bc0, .slice ba1 bn1 bc1, .slice ba2 bn2 bc2, .slice ba3 bn3 bc3], .agg #[.slice aa0 an0 ac0, .slice aa1 an1 ac1, .slice aa2 an2 ac2, .slice aa3 an3 ac3]] W fun e w' => ∃ v', e = .returned v' ∧ JnV (newOf ([], []) (t.l 1)) ((t.l 1).map Ent.d) (t.c 1) (newOf ([], []) (s.l 0)) ((s.l 0).map Ent.d) (s.c 0) v' w' ∧ Below W.heap.size W w') := fun W hW => by
    have hw := HR.out.trans (hW.mono HR.out.size)
    refine (djoin_any (newOf ([], []) (t.l 1)) (newOf ([], []) (s.l 0)) ((t.l 1).map Ent.d) ((s.l 0).map Ent.d) (t.c 1) (s.c 0) _ _ W (HBB.out W hw).1 (HBA.out W hw).1 HRB.out HRA.out (by have := HBD.out; omega) (by have := HBD.out; omega) (by have := HBD.out; omega) (by have := HBD.out; omega) (HMR.out W hW)).mono ?_
    rintro e w' ⟨v', R2, cj2, rfl, q1, q2, q3, q4⟩
    exact ⟨_, rfl, ⟨R2, cj2, q1, q2, q3⟩, q4⟩
   have HLS2 : Hid (∀ W v, Below wr.heap.size wr W → JnV (newOf ([], []) (t.l 1)) ((t.l 1).map Ent.d) (t.c 1) (newOf ([], []) (s.l 0)) ((s.l 0).map Ent.d) (s.c 0) v W → Calls Tryz.prog 12 #[.agg #[.slice ja0 jn0 jc0, .slice ja1 jn1 jc1, .slice ja2 jn2 jc2, .slice ja3 jn3 jc3], v] W (Said true W)) := fun W v hW ⟨R2, cj2, q1, q2, q3⟩ => by
    obtain ⟨i1, i2, i3⟩ := HJ.out.swap q1 HAG.out
    rw [← i1, ← i2, ← i3] at q3
    exact lsame_yes _ _ _ _ _ W (HBJ.out W (HR.out.trans (hW.mono HR.out.size))) q3
   have HAW2 : Hid (∀ W, Below wr.heap.size wr W → Calls Tryz.prog 11 #[] W (Said true W)) := fun W hW => HAW.out W (HRW.out.trans (hW.mono HRW.out.size))
   go_wp2_with fail
   refine wp_flow 12 (fun _ => 1000) (fun ww => RowKit.Below wr.heap.size wr ww) (fun _ w w' => (fun (w w' : World) => RowKit.Below w.heap.size w w') w w') (fun kF vF wF => match kF with | 0 => (vF = .agg #[.slice ja0 jn0 jc0, .slice ja1 jn1 jc1, .slice ja2 jn2 jc2, .slice ja3 jn3 jc3]) | 1 => (vF = .bool true) | 2 => (vF = .bool true) | 3 => (vF = .agg #[.slice ja0 jn0 jc0, .slice ja1 jn1 jc1, .slice ja2 jn2 jc2, .slice ja3 jn3 jc3]) | 4 => (vF = .agg #[.slice ba0 bn0 bc0, .slice ba1 bn1 bc1, .slice ba2 bn2 bc2, .slice ba3 bn3 bc3]) | 5 => (vF = .agg #[.slice aa0 an0 ac0, .slice aa1 an1 ac1, .slice aa2 an2 ac2, .slice aa3 an3 ac3]) | 6 => (JnV (newOf ([], []) (t.l 1)) ((t.l 1).map Ent.d) (t.c 1) (newOf ([], []) (s.l 0)) ((s.l 0).map Ent.d) (s.c 0) vF wF) | 7 => (vF = .bool true) | 8 => (vF = .bool true) | 9 => (vF = .bool true) | 10 => (vF = .bool true) | 11 => (vF = .bool true) | _ => True) (fun _ _ _ _ => True) (by kernel_rfl) (by kernel_rfl) ?_ ?_ ?_ ?_ ?_
   ·
    exact (Below.refl _ _).drew
   ·
    intro iF wF1 wF2 hR hT; exact hR.trans (hT.mono hR.size)
   ·
    intro kF hkF iF hiF hne hdd hanc hdan vF wF1 wF2 h hT
    rcases (by omega : kF = 0 ∨ kF = 1 ∨ kF = 2 ∨ kF = 3 ∨ kF = 4 ∨ kF = 5 ∨ kF = 6 ∨ kF = 7 ∨ kF = 8 ∨ kF = 9 ∨ kF = 10 ∨ kF = 11) with rfl | rfl | rfl | rfl | rfl | rfl | rfl | rfl | rfl | rfl | rfl | rfl
    iterate 6 exact h
    ·
     have h : (JnV (newOf ([], []) (t.l 1)) ((t.l 1).map Ent.d) (t.c 1) (newOf ([], []) (s.l 0)) ((s.l 0).map Ent.d) (s.c 0) vF wF1) := h
     show (JnV (newOf ([], []) (t.l 1)) ((t.l 1).map Ent.d) (t.c 1) (newOf ([], []) (s.l 0)) ((s.l 0).map Ent.d) (s.c 0) vF wF2)
     have hT : (fun (w w' : World) => RowKit.Below w.heap.size w w') wF1 wF2 := hT
     simp only at hT
     exact (jnV_kept _ _ _ _ _ _).on h hT
    iterate 5 exact h
   ·
    generalize hAF : fillOf _ _ _ = AF
    replace hAF := fun x => congrFun hAF x
    simp only [take_succ_cons, take_zero, fillOf, Act.put, setIfInBounds_toArray, set_cons_zero, set_cons_succ, Nat.reduceAdd, Nat.zero_add] at hAF
    refine .cons ?_ (.cons ?_ (.cons ?_ (.cons ?_ (.cons ?_ (.cons ?_ (.cons ?_ (.cons ?_ (.cons ?_ (.cons ?_ (.cons ?_ (.cons ?_ (.nil))))))))))))
    all_goals
     intro xF w17 hR hd K hK
     first | simp only [← hAF, Act.put, setIfInBounds_toArray, set_cons_zero, set_cons_succ] at hK ⊢ | simp only [← hAF, Act.put] at hK ⊢
     clear hAF
     try simp only [Nat.zero_add, Nat.reduceAdd] at hK ⊢
    ·
     clear hd
     have v9 := HXJ.out _ (HR.out.trans (hR.mono HR.out.size))
     have v90 := boxc v9 0 _ rfl
     have v91 := boxc v9 1 _ rfl
     have v92 := boxc v9 2 _ rfl
     have v93 := boxc v9 3 _ rfl
     rw [if_pos (by rfl)]
     go_simp
     exact hK.out _ _ (Below.refl _ _) (rfl) (fun _ _ _ => ⟨trivial, trivial⟩)
    ·
     have dd0 := hd 0 (by kernel_rfl)
     clear hd
     try generalize xF 0 = yy0 at *
     obtain rfl := dd0
     rw [if_pos (by rfl)]
     go_simp
     (go_at_call 29; (with_reducible refine (HRDJ.out _ hR).mono ?_); rintro e wK ⟨rfl, hbK⟩)
     try go_wp2_with fail
     exact hK.out _ _ (hbK) (rfl) (fun _ _ _ => ⟨trivial, trivial⟩)
    ·
     have dd1 := hd 1 (by kernel_rfl)
     clear hd
     try generalize xF 1 = yy1 at *
     obtain rfl := dd1
     rw [if_pos (by rfl)]
     go_simp
     exact hK.out _ _ (Below.refl _ _) (rfl) (fun _ _ _ => ⟨trivial, trivial⟩)
    ·
     have dd2 := hd 2 (by kernel_rfl)
     clear hd
     try generalize xF 2 = yy2 at *
     obtain rfl := dd2
     have v9 := HXJ.out _ (HR.out.trans (hR.mono HR.out.size))
     have v90 := boxc v9 0 _ rfl
     have v91 := boxc v9 1 _ rfl
     have v92 := boxc v9 2 _ rfl
     have v93 := boxc v9 3 _ rfl
     rw [if_pos (by rfl)]
     go_simp
     exact hK.out _ _ (Below.refl _ _) (rfl) (fun _ _ _ => ⟨trivial, trivial⟩)
    ·
     have dd2 := hd 2 (by kernel_rfl)
     clear hd
     try generalize xF 2 = yy2 at *
     obtain rfl := dd2
     have v9 := (HBB.out _ (HR.out.trans (hR.mono HR.out.size))).2
     have v90 := boxc v9 0 _ rfl
     have v91 := boxc v9 1 _ rfl
     have v92 := boxc v9 2 _ rfl
     have v93 := boxc v9 3 _ rfl
     rw [if_pos (by rfl)]
     go_simp
     exact hK.out _ _ (Below.refl _ _) (rfl) (fun _ _ _ => ⟨trivial, trivial⟩)
    ·
     have dd2 := hd 2 (by kernel_rfl)
     clear hd
     try generalize xF 2 = yy2 at *
     obtain rfl := dd2
     have v9 := (HBA.out _ (HR.out.trans (hR.mono HR.out.size))).2
     have v90 := boxc v9 0 _ rfl
     have v91 := boxc v9 1 _ rfl
     have v92 := boxc v9 2 _ rfl
     have v93 := boxc v9 3 _ rfl
     rw [if_pos (by rfl)]
     go_simp
     exact hK.out _ _ (Below.refl _ _) (rfl) (fun _ _ _ => ⟨trivial, trivial⟩)
    ·
     have dd2 := hd 2 (by kernel_rfl)
     have dd4 := hd 4 (by kernel_rfl)
     have dd5 := hd 5 (by kernel_rfl)
     clear hd
     try generalize xF 2 = yy2 at *
     try generalize xF 4 = yy4 at *
     try generalize xF 5 = yy5 at *
     obtain rfl := dd2
     obtain rfl := dd4
     obtain rfl := dd5
     rw [if_pos (by rfl)]
     go_simp
     (go_at_call 21; (with_reducible refine (HJBA.out _ hR).mono ?_); rintro e wK ⟨vK, rfl, hpK, hbK⟩)
     try go_wp2_with fail
     exact hK.out _ _ (hbK) (hpK) (fun _ _ _ => ⟨trivial, trivial⟩)
    ·
     have dd2 := hd 2 (by kernel_rfl)
     have dd3 := hd 3 (by kernel_rfl)
     have dd6 : (JnV (newOf ([], []) (t.l 1)) ((t.l 1).map Ent.d) (t.c 1) (newOf ([], []) (s.l 0)) ((s.l 0).map Ent.d) (s.c 0) (xF 6) w17) := hd 6 (by kernel_rfl)
     clear hd
     try generalize xF 2 = yy2 at *
     try generalize xF 3 = yy3 at *
     try generalize xF 6 = yy6 at *
     obtain rfl := dd2
     obtain rfl := dd3
     have hp6 := dd6
     rw [if_pos (by rfl)]
     go_simp
     (go_at_call 12; (with_reducible refine (HLS2.out _ _ hR hp6).mono ?_); rintro e wK ⟨rfl, hbK⟩)
     try go_wp2_with fail
     exact hK.out _ _ (hbK) (rfl) (fun _ _ _ => ⟨trivial, trivial⟩)
    ·
     have dd2 := hd 2 (by kernel_rfl)
     have dd7 := hd 7 (by kernel_rfl)
     clear hd
     try generalize xF 2 = yy2 at *
     try generalize xF 7 = yy7 at *
     obtain rfl := dd2
     obtain rfl := dd7
     rw [if_pos (by rfl)]
     go_simp
     exact hK.out _ _ (Below.refl _ _) (rfl) (fun _ _ _ => ⟨trivial, trivial⟩)
    ·
     have dd8 := hd 8 (by kernel_rfl)
     clear hd
     try generalize xF 8 = yy8 at *
     obtain rfl := dd8
     rw [if_pos (by rfl)]
     go_simp
     exact hK.out _ _ (Below.refl _ _) (rfl) (fun _ _ _ => ⟨trivial, trivial⟩)
    ·
     have dd9 := hd 9 (by kernel_rfl)
     clear hd
     try generalize xF 9 = yy9 at *
     obtain rfl := dd9
     rw [if_pos (by rfl)]
     go_simp
     (go_at_call 11; (with_reducible refine (HAW2.out _ hR).mono ?_); rintro e wK ⟨rfl, hbK⟩)
     try go_wp2_with fail
     exact hK.out _ _ (hbK) (rfl) (fun _ _ _ => ⟨trivial, trivial⟩)
    ·
     have dd9 := hd 9 (by kernel_rfl)
     have dd10 := hd 10 (by kernel_rfl)
     clear hd
     try generalize xF 9 = yy9 at *
     try generalize xF 10 = yy10 at *
     obtain rfl := dd9
     obtain rfl := dd10
     rw [if_pos (by rfl)]
     go_simp
     exact hK.out _ _ (Below.refl _ _) (rfl) (fun _ _ _ => ⟨trivial, trivial⟩)
   intro xF w17 hR hF hP
   clear hP
   have dd0 := hF 0 (by omega) (by decide)
   have dd1 := hF 1 (by omega) (by decide)
   have dd2 := hF 2 (by omega) (by decide)
   have dd3 := hF 3 (by omega) (by decide)
   have dd4 := hF 4 (by omega) (by decide)
   have dd5 := hF 5 (by omega) (by decide)
   have dd6 : (JnV (newOf ([], []) (t.l 1)) ((t.l 1).map Ent.d) (t.c 1) (newOf ([], []) (s.l 0)) ((s.l 0).map Ent.d) (s.c 0) (xF 6) w17) := hF 6 (by omega) (by decide)
   have dd7 := hF 7 (by omega) (by decide)
   have dd8 := hF 8 (by omega) (by decide)
   have dd9 := hF 9 (by omega) (by decide)
   have dd10 := hF 10 (by omega) (by decide)
   have dd11 := hF 11 (by omega) (by decide)
   clear hF
   simp only [take_succ_cons, take_zero, drop_succ_cons, drop_zero, fillOf, Act.put, setIfInBounds_toArray, set_cons_zero, set_cons_succ, Nat.reduceAdd, Nat.zero_add]
   try generalize xF 0 = yy0 at *
   try generalize xF 1 = yy1 at *
   try generalize xF 2 = yy2 at *
   try generalize xF 3 = yy3 at *
   try generalize xF 4 = yy4 at *
   try generalize xF 5 = yy5 at *
   try generalize xF 6 = yy6 at *
   try generalize xF 7 = yy7 at *
   try generalize xF 8 = yy8 at *
   try generalize xF 9 = yy9 at *
   try generalize xF 10 = yy10 at *
   try generalize xF 11 = yy11 at *
   clear xF
   obtain rfl := dd0
   obtain rfl := dd1
   obtain rfl := dd2
   obtain rfl := dd3
   obtain rfl := dd4
   obtain rfl := dd5
   have hp6 := dd6
   obtain rfl := dd7
   obtain rfl := dd8
   obtain rfl := dd9
   obtain rfl := dd10
   obtain rfl := dd11
   have hRE := Lib.hid hR
   clear hR
   have HRX : Hid (Below w.heap.size w w17) := HRW.out.trans (hRE.out.mono HRW.out.size)
   clear hRE
   go_wp2_with fail
   go_ret
   exact ⟨rfl, HRX.out⟩
end Go.Proofs.YtonknpdalemjkaaGreat

