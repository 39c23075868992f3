/- texts put together: DelJoin. -/
import Derived.Test.YtonknpdalemjkaaGreatDe00
import Derived.Test.YtonknpdalemjkaaGreatDe01
import Derived.Test.YtonknpdalemjkaaGreatDe02
import Derived.Test.YtonknpdalemjkaaGreatDe03
import Derived.Test.YtonknpdalemjkaaGreatDe04
import Derived.Test.YtonknpdalemjkaaGreatDe05
import Derived.Test.YtonknpdalemjkaaGreatDe06
import Derived.Test.YtonknpdalemjkaaGreatDe07
import Derived.Test.YtonknpdalemjkaaGreatDe08
import Derived.Test.YtonknpdalemjkaaGreatDe09
import Derived.Test.YtonknpdalemjkaaGreatDe10
import Derived.Test.YtonknpdalemjkaaGreatDe11
import Derived.Test.YtonknpdalemjkaaGreatDe12
import Derived.Test.YtonknpdalemjkaaGreatDe13
import Derived.Test.YtonknpdalemjkaaGreatDe14
import Derived.Test.YtonknpdalemjkaaGreatDe15
import Derived.Test.YtonknpdalemjkaaGreatDe16
import Derived.Test.YtonknpdalemjkaaGreatDe17
import Derived.Test.YtonknpdalemjkaaGreatDe18
import Derived.Test.YtonknpdalemjkaaGreatDe19
import Derived.Test.YtonknpdalemjkaaGreatDe20
import Derived.Test.YtonknpdalemjkaaGreatDe21
import Derived.Test.YtonknpdalemjkaaGreatDe22
import Derived.Test.YtonknpdalemjkaaGreatDe23
import Derived.Test.YtonknpdalemjkaaGreatDe24
import Derived.Test.YtonknpdalemjkaaGreatDn00
import Derived.Test.YtonknpdalemjkaaGreatDn01
import Derived.Test.YtonknpdalemjkaaGreatDn11
import Derived.Test.YtonknpdalemjkaaGreatDn23
import Derived.Test.YtonknpdalemjkaaGreatDn25
import Derived.Test.YtonknpdalemjkaaGreatDn26
import Derived.Test.YtonknpdalemjkaaGreatDn27
import Derived.Test.YtonknpdalemjkaaGreatDn28
import Derived.Test.YtonknpdalemjkaaGreatDn29
namespace Go.Proofs.YtonknpdalemjkaaGreat
open Go Go.RowKit Go.ChangeShapes cl
def ChgE (B : Nat) (L : List Ent) (A : List Dot) (c : dm.Ctx) (v : Value) (w : World) : Prop := ∃ a0 n0 c0 a1 n1 c1 a2 n2 c2 a3 n3 c3, v = .agg #[.slice a0 n0 c0, .slice a1 n1 c1, .slice a2 n2 c2, .slice a3 n3 c3] ∧ EntO B w (.slice a0 n0 c0) L ∧ DotO B w (.slice a1 n1 c1) A ∧ OwnC B w (.agg #[.slice a2 n2 c2, .slice a3 n3 c3]) c
theorem chgE_kept (B : Nat) (L : List Ent) (A : List Dot) (c : dm.Ctx) : Kept (ChgE B L A c) :=
 ⟨fun ⟨a0, n0, c0, a1, n1, c1, a2, n2, c2, a3, n3, c3, e, h1, h2, h3⟩ hb => ⟨a0, n0, c0, a1, n1, c1, a2, n2, c2, a3, n3, c3, e, h1.on hb, h2.on hb, h3.on hb⟩, fun ⟨a0, n0, c0, a1, n1, c1, a2, n2, c2, a3, n3, c3, e, h1, h2, h3⟩ hk q1 q2 => ⟨a0, n0, c0, a1, n1, c1, a2, n2, c2, a3, n3, c3, e, h1.kt hk q1, h2.kt hk q2, h3.kt hk q2⟩⟩
set_option maxHeartbeats 12800000 in
set_option maxRecDepth 100000 in
theorem djoin_any (La Lb : List Ent) (Aa Ab : List Dot) (ca cb : dm.Ctx) (va vb : Value) (w : World) (ha : ChgE 0 La Aa ca va w) (hb : ChgE 0 Lb Ab cb vb w) (hra : RDel La Aa ca) (hrb : RDel Lb Ab cb) (hAa : Aa.length ≤ 1000) (hAb : Ab.length ≤ 1000) (hca : ca.2.length ≤ 1000) (hcb : cb.2.length ≤ 1000) (hm : MX w) :
  Calls Tryz.prog 21 #[va, vb] w fun e w' => ∃ v R cj, e = .returned v ∧ JD La Aa ca Lb Ab cb R cj ∧ R.length ≤ 2000 ∧ ChgE 0 (jdL La Lb (jdA Aa Ab ca cb R)) (jdA Aa Ab ca cb R) cj v w' ∧ Below w.heap.size w w' := by
 obtain ⟨aa0, an0, ac0, aa1, an1, ac1, aa2, an2, ac2, aa3, an3, ac3, rfl, a1, a2, a3⟩ := ha
 obtain ⟨ba0, bn0, bc0, ba1, bn1, bc1, ba2, bn2, bc2, ba3, bn3, bc3, rfl, b1, b2, b3⟩ := hb
 obtain ⟨q1, hq1⟩ : ∃ b, b = w.heap.size + 1 := ⟨_, rfl⟩
 obtain ⟨q2, hq2⟩ : ∃ b, b = w.heap.size + 1 + 1 := ⟨_, rfl⟩
 obtain ⟨WA, hWA⟩ : ∃ W, W = w.alloc (.cells #[.slice aa0 an0 ac0, .slice aa1 an1 ac1, .slice aa2 an2 ac2, .slice aa3 an3 ac3] 29) := ⟨_, rfl⟩
 obtain ⟨WB, hWB⟩ : ∃ W, W = WA.alloc (.cells #[.slice ba0 bn0 bc0, .slice ba1 bn1 bc1, .slice ba2 bn2 bc2, .slice ba3 bn3 bc3] 29) := ⟨_, rfl⟩
 obtain ⟨W3, hW3⟩ : ∃ W, W = WB.alloc (.cells #[.slice none 0 0, .slice none 0 0, .slice none 0 0, .slice none 0 0] 29) := ⟨_, rfl⟩
 have sA : WA.heap.size = w.heap.size + 1 := by rw [hWA]; simp
 have sB : WB.heap.size = w.heap.size + 2 := by rw [hWB]; simp [sA]
 have s3 : W3.heap.size = w.heap.size + 3 := by rw [hW3]; simp [sB]
 have bA : Below w.heap.size w WA := by rw [hWA]; exact below1
 have bB : Below WA.heap.size WA WB := by rw [hWB]; exact below1
 have bC : Below WB.heap.size WB W3 := by rw [hW3]; exact below1
 have bb2 : Below WA.heap.size WA W3 := bB.trans (bC.mono bB.size)
 have bb3 : Below w.heap.size w W3 := bA.trans (bb2.mono bA.size)
 have x0 : W3.heap[w.heap.size]? = some (.cells #[.slice aa0 an0 ac0, .slice aa1 an1 ac1, .slice aa2 an2 ac2, .slice aa3 an3 ac3] 29 (0, 0)) := (bb2.block _ (by omega)).trans (by rw [hWA]; exact heap_alloc_new w _)
 have x1 : W3.heap[q1]? = some (.cells #[.slice ba0 bn0 bc0, .slice ba1 bn1 bc1, .slice ba2 bn2 bc2, .slice ba3 bn3 bc3] 29 (0, 0)) := (bC.block _ (by omega)).trans (by rw [hWB, hq1, ← sA]; exact heap_alloc_new WA _)
 have x2 : W3.heap[q2]? = some (.cells #[.slice none 0 0, .slice none 0 0, .slice none 0 0, .slice none 0 0] 29 (0, 0)) := by rw [hW3, hq2, ← sA, show WA.heap.size + 1 = WB.heap.size by omega]; exact heap_alloc_new WB _
 have HEA : Hid (∀ W, Below w.heap.size w W → Ents W W.heap.size (.slice aa0 an0 ac0) La ∧ Dots W W.heap.size (.slice aa1 an1 ac1) Aa ∧ CtxAt W W.heap.size (.agg #[.slice aa2 an2 ac2, .slice aa3 an3 ac3]) ca) := fun W hW => ⟨(a1.on hW).at, (a2.on hW).at, (a3.on hW).at⟩
 have HEB : Hid (∀ W, Below w.heap.size w W → Ents W W.heap.size (.slice ba0 bn0 bc0) Lb ∧ Dots W W.heap.size (.slice ba1 bn1 bc1) Ab ∧ CtxAt W W.heap.size (.agg #[.slice ba2 bn2 bc2, .slice ba3 bn3 bc3]) cb) := fun W hW => ⟨(b1.on hW).at, (b2.on hW).at, (b3.on hW).at⟩
 have HRA : Hid (∀ W, Below w.heap.size w W → Calls Tryz.prog 29 #[.agg #[.slice aa0 an0 ac0, .slice aa1 an1 ac1, .slice aa2 an2 ac2, .slice aa3 an3 ac3]] W (Said true W)) := fun W hW => rdelta_yes La Aa ca _ _ _ _ W (HEA.out W hW).1 (HEA.out W hW).2.1 (HEA.out W hW).2.2 hra (by omega) (MX.next hm hW)
 have HRB : Hid (∀ W, Below w.heap.size w W → Calls Tryz.prog 29 #[.agg #[.slice ba0 bn0 bc0, .slice ba1 bn1 bc1, .slice ba2 bn2 bc2, .slice ba3 bn3 bc3]] W (Said true W)) := fun W hW => rdelta_yes Lb Ab cb _ _ _ _ W (HEB.out W hW).1 (HEB.out W hW).2.1 (HEB.out W hW).2.2 hrb (by omega) (MX.next hm hW)
 have HJN : Hid (∀ W, Below w.heap.size w W → Calls Tryz.prog 45 #[.agg #[.slice aa2 an2 ac2, .slice aa3 an3 ac3], .agg #[.slice ba2 bn2 bc2, .slice ba3 bn3 bc3]] W (CtxO (fun e => dm.Knows ca e ∨ dm.Knows cb e) (ca.2.length + cb.2.length) W)) := fun W hW => join_own ca cb _ _ W (HEA.out W hW).2.2 (HEB.out W hW).2.2 hra.set.right hrb.set.right (by omega) (by omega)
 have HRS : Hid (∀ W, Below w.heap.size w W → Calls Tryz.prog 46 #[.slice aa1 an1 ac1, .slice ba1 bn1 bc1] W fun e w' => ∃ a n c R, e = .returned (.slice a n c) ∧ n = R.length ∧ DotO W.heap.size w' (.slice a n c) R ∧ UpD R ∧ (∀ d, d ∈ R ↔ d ∈ Aa ∨ d ∈ Ab) ∧ R.length ≤ 200000 ∧ Below W.heap.size W w') := fun W hW => rising_any Aa Ab _ _ _ _ _ _ W (HEA.out W hW).2.1 (HEB.out W hW).2.1 hra.up hrb.up (by omega) (by omega)
 have HSA : Hid (∀ W x y, Below w.heap.size w W → Calls Tryz.prog 47 #[.agg #[.slice aa0 an0 ac0, .slice aa1 an1 ac1, .slice aa2 an2 ac2, .slice aa3 an3 ac3], .agg #[.int .i64 x, .int .i64 y]] W (Said (spF Aa ca (x, y)) W)) := fun W x y hW => spares_any Aa ca x y _ _ _ _ _ _ _ _ _ _ _ _ W (HEA.out W hW).2.1 (HEA.out W hW).2.2
 have HSB : Hid (∀ W x y, Below w.heap.size w W → Calls Tryz.prog 47 #[.agg #[.slice ba0 bn0 bc0, .slice ba1 bn1 bc1, .slice ba2 bn2 bc2, .slice ba3 bn3 bc3], .agg #[.int .i64 x, .int .i64 y]] W (Said (spF Ab cb (x, y)) W)) := fun W x y hW => spares_any Ab cb x y _ _ _ _ _ _ _ _ _ _ _ _ W (HEB.out W hW).2.1 (HEB.out W hW).2.2
 have HBA : Hid (∀ W x y, Below w.heap.size w W → Calls Tryz.prog 40 #[.agg #[.slice aa0 an0 ac0, .slice aa1 an1 ac1, .slice aa2 an2 ac2, .slice aa3 an3 ac3], .agg #[.int .i64 x, .int .i64 y]] W fun e w' => ∃ y1 b, e = .returned (.tuple #[eval' y1, .bool b]) ∧ BrP La (x, y) y1 b ∧ Below W.heap.size W w') := fun W x y hW => brought_any La x y _ _ _ _ _ _ _ _ _ _ _ _ W (HEA.out W hW).1
 have HBB : Hid (∀ W x y, Below w.heap.size w W → Calls Tryz.prog 40 #[.agg #[.slice ba0 bn0 bc0, .slice ba1 bn1 bc1, .slice ba2 bn2 bc2, .slice ba3 bn3 bc3], .agg #[.int .i64 x, .int .i64 y]] W fun e w' => ∃ y1 b, e = .returned (.tuple #[eval' y1, .bool b]) ∧ BrP Lb (x, y) y1 b ∧ Below W.heap.size W w') := fun W x y hW => brought_any Lb x y _ _ _ _ _ _ _ _ _ _ _ _ W (HEB.out W hW).1
 have HRDA := Lib.hid hra
 have HRDB := Lib.hid hrb
 have HAL : Hid (Aa.length ≤ 1000 ∧ Ab.length ≤ 1000) := ⟨hAa, hAb⟩
 have z0 := boxc x0 0 _ rfl
 have z1 := boxc x0 1 _ rfl
 have z2 := boxc x0 2 _ rfl
 have z3 := boxc x0 3 _ rfl
 have X0 := Lib.hid x0
 have X1 := Lib.hid x1
 have X2 := Lib.hid x2
 have HB3 := Lib.hid bb3
 have H1 := Lib.hid hq1
 have H2 := Lib.hid hq2
 have HS3 : Hid (W3.heap.size = w.heap.size + 3) := s3
 have HW3 : Hid (W3 = ((w.alloc (.cells #[.slice aa0 an0 ac0, .slice aa1 an1 ac1, .slice aa2 an2 ac2, .slice aa3 an3 ac3] 29)).alloc (.cells #[.slice ba0 bn0 bc0, .slice ba1 bn1 bc1, .slice ba2 bn2 bc2, .slice ba3 bn3 bc3] 29)).alloc (.cells #[.slice none 0 0, .slice none 0 0, .slice none 0 0, .slice none 0 0] 29)) := by show _ = _; rw [hW3, hWB, hWA]
 rw [hW3, hWB, hWA] at z0 z1 z2 z3
 clear a1 a2 a3 b1 b2 b3 sA sB s3 bA bB bC bb2 bb3 x0 x1 x2 hWA hWB hW3 hq1 hq2 hra hrb hAa hAb hca hcb hm
 go_enter Tryz.func21, Tryz.ntmps21
 go_wp2_with fail
 rw [← HW3.out, ← H2.out, ← H1.out]
 clear z0 z1 z2 z3
 (with_reducible refine (HRA.out _ HB3.out).mono ?_)
 rintro e w4 ⟨rfl, hb4⟩
 have HB34 := Lib.hid hb4
 have HB4 : Hid (Below w.heap.size w w4) := HB3.out.trans (hb4.mono HB3.out.size)
 have y1 := (hb4.block _ (lt_of_block X1.out)).trans X1.out
 have k0 := boxc y1 0 _ rfl
 have k1 := boxc y1 1 _ rfl
 have k2 := boxc y1 2 _ rfl
 have k3 := boxc y1 3 _ rfl
 clear y1 hb4
 go_wp2_with fail
 clear k0 k1 k2 k3
 (with_reducible refine (HRB.out _ HB4.out).mono ?_)
 rintro e w5 ⟨rfl, hb5⟩
 have HB35 : Hid (Below W3.heap.size W3 w5) := HB34.out.trans (hb5.mono HB34.out.size)
 have HB5 : Hid (Below w.heap.size w w5) := HB4.out.trans (hb5.mono HB4.out.size)
 have y0 := (HB35.out.block _ (lt_of_block X0.out)).trans X0.out
 have y1 := (HB35.out.block _ (lt_of_block X1.out)).trans X1.out
 have k0 := boxc y0 2 _ rfl
 have k1 := boxc y0 3 _ rfl
 have k2 := boxc y1 2 _ rfl
 have k3 := boxc y1 3 _ rfl
 clear y0 y1 hb5 HB34 HB4
 go_wp2_with fail
 clear k0 k1 k2 k3
 (with_reducible refine (HJN.out _ HB5.out).mono ?_)
 rintro e w6 ⟨vj, cj, rfl, hoj, hij, hb6⟩
 obtain ⟨t1, m1, u1, t2, m2, u2, ej⟩ := hoj.form
 obtain rfl := ej
 obtain ⟨bd, hbd⟩ : ∃ b, b = w6.heap.size := ⟨_, rfl⟩
 obtain ⟨W7, hW7⟩ : ∃ W, W = w6.alloc (.cells #[.slice none 0 0, .slice none 0 0, .slice t1 m1 u1, .slice t2 m2 u2] 29) := ⟨_, rfl⟩
 have hb67 : Below w6.heap.size w6 W7 := by rw [hW7]; exact below1
 have HB37 : Hid (Below W3.heap.size W3 W7) := HB35.out.trans ((hb6.trans (hb67.mono hb6.size)).mono HB35.out.size)
 have HB7 : Hid (Below w.heap.size w W7) := HB3.out.trans (HB37.out.mono HB3.out.size)
 have xd : W7.heap[bd]? = some (.cells #[.slice none 0 0, .slice none 0 0, .slice t1 m1 u1, .slice t2 m2 u2] 29 (0, 0)) := by rw [hW7, hbd]; exact heap_alloc_new w6 _
 have XD := Lib.hid xd
 have HCJ := Lib.hid (hoj.on hb67)
 have HIJ := Lib.hid hij
 have y0 := (HB37.out.block _ (lt_of_block X0.out)).trans X0.out
 have y1 := (HB37.out.block _ (lt_of_block X1.out)).trans X1.out
 have k0 := boxc y0 1 _ rfl
 have k1 := boxc y1 1 _ rfl
 have HDL : Hid (W3.heap.size ≤ bd) := by show _ ≤ _; have := (HB35.out.trans (hb6.mono HB35.out.size)).size; omega
 have n0 : ¬ w.heap.size = w6.heap.size := by have := HS3.out; have := HDL.out; omega
 have n1 : ¬ q1 = w6.heap.size := by have := H1.out; have := HS3.out; have := HDL.out; omega
 have HW7 := Lib.hid hW7
 have HBD := Lib.hid hbd
 rw [hW7] at k0 k1
 clear y0 y1 hoj hij hb6 hb67 xd hW7 hbd HB35 HB5
 go_wp2_with fail
 rw [← HW7.out, ← HBD.out]
 clear k0 k1 n0 n1
 (with_reducible refine (HRS.out _ HB7.out).mono ?_)
 rintro e wC ⟨ra, nR, rc, R, rfl, hnR, hoR, hupR, hmR, hlR, hbC⟩
 have HJD : Hid (JD La Aa ca Lb Ab cb R cj) := ⟨HRDA.out, HRDB.out, hupR, hmR, _, HIJ.out⟩
 have HNR := Lib.hid hnR
 have hR2 : nR ≤ 2000 := by
  rw [hnR]
  have := nodup_len (a := R) (b := Aa ++ Ab) (hupR.imp fun {x y} h e => by rw [e] at h; exact dm.dless_irrefl _ h) (fun d hd => List.mem_append.2 ((hmR d).1 hd))
  rw [List.length_append] at this
  have := HAL.out
  omega
 have XC := Lib.hid ((hbC.block _ (lt_of_block XD.out)).trans XD.out)
 have HRO := Lib.hid hoR
 have HCC := Lib.hid (HCJ.out.on hbC)
 have HBC : Hid (Below w.heap.size w wC) := HB7.out.trans (hbC.mono HB7.out.size)
 have HBC3 : Hid (Below W3.heap.size W3 wC) := HB37.out.trans (hbC.mono HB37.out.size)
 have hbdC : bd < wC.heap.size := lt_of_block XC.out
 have HGB : Hid (∀ ww, wC.grownBy ww (some bd) → Below w.heap.size w ww) := fun ww hw => HBC.out.grown hw HBC.out.size (fun j hj => by cases hj; have := HDL.out; have := HS3.out; omega)
 have HGX : Hid (∀ ww, wC.grownBy ww (some bd) → ww.heap[w.heap.size]? = some (.cells #[.slice aa0 an0 ac0, .slice aa1 an1 ac1, .slice aa2 an2 ac2, .slice aa3 an3 ac3] 29 (0, 0)) ∧ ww.heap[q1]? = some (.cells #[.slice ba0 bn0 bc0, .slice ba1 bn1 bc1, .slice ba2 bn2 bc2, .slice ba3 bn3 bc3] 29 (0, 0)) ∧ ww.heap[q2]? = some (.cells #[.slice none 0 0, .slice none 0 0, .slice none 0 0, .slice none 0 0] 29 (0, 0))) := fun ww hw => by
  have l0 := HS3.out
  have l1 := H1.out
  have l2 := H2.out
  have l3 := HDL.out
  have l4 := HBC3.out.size
  refine ⟨(hw.block _ (by omega) (by intro e; cases e; omega)).trans ((HBC3.out.block _ (by omega)).trans X0.out), (hw.block _ (by omega) (by intro e; cases e; omega)).trans ((HBC3.out.block _ (by omega)).trans X1.out), (hw.block _ (by omega) (by intro e; cases e; omega)).trans ((HBC3.out.block _ (by omega)).trans X2.out)⟩
 have HKT : Hid (∀ ww, wC.grownBy ww (some bd) → Kt 29 wC ww) := fun ww hw => Kt.of_grown hw XC.out
 have HRD : Hid (∀ ww, wC.grownBy ww (some bd) → Dots ww ww.heap.size (.slice ra nR rc) R) := fun ww hw => (DotO.kt HRO.out (HKT.out ww hw) (by decide)).at
 clear hoR hbC hnR hupR hmR hlR HCJ HBC3 HB37 HB7
 go_wp2_with fail
 go_loopw [33] (fun i wr => ∃ (k q m : Nat) (a a' : Option Addr) (cq cq' : Nat), i = .int .i64 (k : Int) ∧ k ≤ nR ∧ q ≤ k ∧ m ≤ k ∧ Hid (q = (jdL La Lb (jdA Aa Ab ca cb (R.take k))).length) ∧ Hid (m = (jdA Aa Ab ca cb (R.take k)).length) ∧ Hid (wr.heap[bd]? = some (.cells #[.slice a q cq, .slice a' m cq', .slice t1 m1 u1, .slice t2 m2 u2] 29 (0, 0))) ∧
  Hid (wr.ownsRow wC.heap.size 54 5 (.slice a q cq) q (ecells (jdL La Lb (jdA Aa Ab ca cb (R.take k))))) ∧ Hid (wr.ownsRow wC.heap.size 51 2 (.slice a' m cq') m (dcells (jdA Aa Ab ca cb (R.take k)))) ∧ Hid (wC.grownBy wr (some bd))) (fun i _ => nR - (intOf i).toNat)
 case atStart => exact ⟨0, 0, 0, none, none, 0, 0, rfl, Nat.zero_le _, Nat.le_refl _, Nat.le_refl _, rfl, rfl, XC.out, World.ownsRow_nil _ _ _ _, World.ownsRow_nil _ _ _ _, ⟨rfl, rfl, rfl, Nat.le_refl _, fun _ _ _ => rfl⟩⟩
 case round =>
  obtain ⟨k, q, m, a, a', cq, cq', rfl, hk, hqk, hmk, HQ, HM, HX, HO, HA, HG⟩ := hrel
  have hz : wC.heap.size ≤ wr.heap.size := HG.out.size
  by_cases hlt : k < nR
  ·
   have hkI : (k : Int) < (nR : Int) := by omega
   obtain ⟨bb, off, rfl, hbB, p0, p1⟩ := Dots.get (HRD.out wr HG.out) HNR.out hlt
   obtain ⟨⟨xa, xb⟩, hx⟩ : ∃ x, x = R.getD k (0, 0) := ⟨_, rfl⟩
   rw [← hx] at p0 p1
   simp only at p0 p1
   have HXT : Hid (R.take (k + 1) = R.take k ++ [(xa, xb)]) := by
    show _ = _
    rw [hx]; exact take_one R k (0, 0) (by rw [← HNR.out]; exact hlt)
   obtain ⟨g1, hg1⟩ : ∃ b, b = wr.heap.size := ⟨_, rfl⟩
   obtain ⟨w1, hw1⟩ : ∃ W, W = wr.alloc (.cells #[.int .i64 xa, .int .i64 xb] 51) := ⟨_, rfl⟩
   have hb1 : Below wr.heap.size wr w1 := by rw [hw1]; exact below1
   have HG1 : Hid (wC.grownBy w1 (some bd)) := grown_trans HG.out (grown_below' hb1)
   have x1 : w1.heap[g1]? = some (.cells #[.int .i64 xa, .int .i64 xb] 51 (0, 0)) := by rw [hw1, hg1]; exact heap_alloc_new wr _
   have XX1 := Lib.hid x1
   have HX1 := Lib.hid ((hb1.block _ (lt_of_block HX.out)).trans HX.out)
   have HO1 := Lib.hid (own_stay HO.out hb1)
   have HA1 := Lib.hid (own_stay HA.out hb1)
   have HNB : Hid (∀ j, (Value.slice a' m cq').ownBlock = some j → j ≠ g1) := fun j hj => by
    have := (HA.out.lt j hj).2
    omega
   have v0 := (HGX.out w1 HG1.out).1
   have d0 := boxc v0 0 _ rfl
   have d1 := boxc v0 1 _ rfl
   have d2 := boxc v0 2 _ rfl
   have d3 := boxc v0 3 _ rfl
   have n0 : ¬ w.heap.size = wr.heap.size := by have := HBC.out.size; have := HDL.out; have := HS3.out; omega
   have HW1 := Lib.hid hw1
   have HGE := Lib.hid hg1
   rw [hw1] at d0 d1 d2 d3
   clear hx hw1 hb1 x1 v0 hg1 HX HO HA hz
   go_wp2_with fail
   rw [← HW1.out, ← HGE.out]
   clear d0 d1 d2 d3 p0 p1 n0
   (with_reducible refine (HSA.out w1 xa xb (HGB.out w1 HG1.out)).mono ?_)
   rintro e w2 ⟨rfl, hb2⟩
   have HG2 : Hid (wC.grownBy w2 (some bd)) := grown_trans HG1.out (grown_below' hb2)
   have HX2 := Lib.hid ((hb2.block _ (lt_of_block HX1.out)).trans HX1.out)
   have XX2 := Lib.hid ((hb2.block _ (lt_of_block XX1.out)).trans XX1.out)
   have HO2 := Lib.hid (own_stay HO1.out hb2)
   have HA2 := Lib.hid (own_stay HA1.out hb2)
   clear hb2 HX1 XX1 HO1 HA1 HG1 HW1
   cases hs1 : spF Aa ca (xa, xb)
   ·
    have HT : Hid (jdA Aa Ab ca cb (R.take (k + 1)) = jdA Aa Ab ca cb (R.take k)) := by show _ = _; rw [HXT.out, jdA_snoc, hs1]; rfl
    clear hs1
    go_wp2_with fail
    go_roundw
    case rel => exact ⟨k + 1, q, m, a, a', cq, cq', by go_num, by omega, by omega, by omega, by rw [HT.out]; exact HQ, by rw [HT.out]; exact HM, HX2, by rw [HT.out]; exact HO2, by rw [HT.out]; exact HA2, HG2⟩
    case measure => simp [intOf]; omega
   have v1 := (HGX.out w2 HG2.out).2.1
   have d0 := boxc v1 0 _ rfl
   have d1 := boxc v1 1 _ rfl
   have d2 := boxc v1 2 _ rfl
   have d3 := boxc v1 3 _ rfl
   have e0 := boxc XX2.out 0 _ rfl
   have e1 := boxc XX2.out 1 _ rfl
   have HS1 := Lib.hid hs1
   clear v1 hs1
   go_wp2_with fail
   clear d0 d1 d2 d3 e0 e1
   (with_reducible refine (HSB.out w2 xa xb (HGB.out w2 HG2.out)).mono ?_)
   rintro e w3 ⟨rfl, hb3⟩
   have HG3 : Hid (wC.grownBy w3 (some bd)) := grown_trans HG2.out (grown_below' hb3)
   have HX3 := Lib.hid ((hb3.block _ (lt_of_block HX2.out)).trans HX2.out)
   have XX3 := Lib.hid ((hb3.block _ (lt_of_block XX2.out)).trans XX2.out)
   have HO3 := Lib.hid (own_stay HO2.out hb3)
   have HA3 := Lib.hid (own_stay HA2.out hb3)
   clear hb3 HX2 XX2 HO2 HA2 HG2
   cases hs2 : spF Ab cb (xa, xb)
   ·
    have HT : Hid (jdA Aa Ab ca cb (R.take (k + 1)) = jdA Aa Ab ca cb (R.take k)) := by show _ = _; rw [HXT.out, jdA_snoc, HS1.out, hs2]; rfl
    clear hs2
    go_wp2_with fail
    go_roundw
    case rel => exact ⟨k + 1, q, m, a, a', cq, cq', by go_num, by omega, by omega, by omega, by rw [HT.out]; exact HQ, by rw [HT.out]; exact HM, HX3, by rw [HT.out]; exact HO3, by rw [HT.out]; exact HA3, HG3⟩
    case measure => simp [intOf]; omega
   have HT : Hid (jdA Aa Ab ca cb (R.take (k + 1)) = jdA Aa Ab ca cb (R.take k) ++ [(xa, xb)]) := by show _ = _; rw [HXT.out, jdA_snoc, HS1.out, hs2]; rfl
   have e0 := boxc XX3.out 0 _ rfl
   have e1 := boxc XX3.out 1 _ rfl
   have i1 := boxc HX3.out 1 _ rfl
   have hz3 : wC.heap.size ≤ w3.heap.size := HG3.out.size
   clear hs2 HS1
   go_wp2_with (at_builtin; refine app1g (.tmp 48) (.tmp 50) 23 rfl rfl wC.heap.size Tryz.underlying23 infoDot rfl (by decide) (by decide) HA3.out rfl rfl rfl (by intro u hu; simp at hu; rcases hu with rfl | rfl <;> rfl) (by omega) hz3 ?_)
   intro v' w4 hown hg4
   obtain ⟨a4, c4, rfl⟩ := own_slice hown
   have hbL : Below w3.heap.size w3 (w3.alloc (.cells #[.int .i64 xa, .int .i64 xb] 51)) := below1
   have hoL := own_stay HA3.out hbL
   have hkU : Kt 51 w3 w4 := (Kt.of_below hbL).trans (Kt.append hoL hg4)
   have hgU : w3.grownBy w4 (Value.slice a' m cq').ownBlock := grown_trans (grown_below' hbL) hg4
   have x4 := blk_kt HX3.out hkU (by decide)
   have f1 := boxf x4 1
   have f2 := boxc x4 1 _ rfl
   have hxx : (Value.slice a' m cq').ownBlock ≠ some g1 := fun e => HNB.out g1 e rfl
   have XX4 := Lib.hid ((hgU.block _ (lt_of_block XX3.out) (fun e => hxx e.symm)).trans XX3.out)
   have HG4 : Hid (wC.grownBy w4 (some bd)) := grown_far HG3.out hgU (fun j hj => (HA3.out.lt j hj).1)
   obtain ⟨w5, hw5⟩ : ∃ W, W = w4.setCell ⟨bd, 1, none⟩ (.slice a4 (m + 1) c4) := ⟨_, rfl⟩
   have hk5 : Kt 29 w4 w5 := by rw [hw5]; exact Kt.set x4 1 _
   have HG5 : Hid (wC.grownBy w5 (some bd)) := by show World.grownBy _ _ _; rw [hw5]; exact grown_trans HG4.out (set1_grown _)
   have HX5 : Hid (w5.heap[bd]? = some (.cells #[.slice a q cq, .slice a4 (m + 1) c4, .slice t1 m1 u1, .slice t2 m2 u2] 29 (0, 0))) := by show _ = _; rw [hw5]; exact heap_setCell_same _ bd 1 _ _ _ x4
   have XX5 := Lib.hid (blk_kt XX4.out hk5 (by decide))
   have HA5 : Hid (w5.ownsRow wC.heap.size 51 2 (.slice a4 (m + 1) c4) (m + 1) (dcells (jdA Aa Ab ca cb (R.take (k + 1))))) := by
    show World.ownsRow _ _ _ _ _ _ _
    rw [HT.out, dcells_app]
    exact own_kt hown hk5 (by decide)
   have HO5 := Lib.hid (own_kt (own_kt HO3.out hkU (by decide)) hk5 (by decide))
   have HM5 : Hid (m + 1 = (jdA Aa Ab ca cb (R.take (k + 1))).length) := by show _ = _; rw [HT.out, List.length_append, ← HM.out]; rfl
   have v0 := (HGX.out w5 HG5.out).1
   have d0 := boxc v0 0 _ rfl
   have d1 := boxc v0 1 _ rfl
   have d2 := boxc v0 2 _ rfl
   have d3 := boxc v0 3 _ rfl
   have j0 := boxc XX5.out 0 _ rfl
   have j1 := boxc XX5.out 1 _ rfl
   have HW5 := Lib.hid hw5
   rw [hw5] at d0 d1 d2 d3 j0 j1
   clear hown hg4 hbL hoL hkU hgU x4 hxx hw5 hk5 v0 e0 e1 i1 hz3 HX3 XX3 HO3 HA3 HG3 XX4 HG4
   go_wp2_with fail
   rw [← HW5.out]
   clear f1 f2 d0 d1 d2 d3 j0 j1
   (with_reducible refine (HBA.out w5 xa xb (HGB.out w5 HG5.out)).mono ?_)
   rintro e w6 ⟨y, b, rfl, hbr, hb6⟩
   unfold eval'
   obtain ⟨g6, hg6⟩ : ∃ b, b = w6.heap.size := ⟨_, rfl⟩
   obtain ⟨w7, hw7⟩ : ∃ W, W = w6.alloc (.cells #[.string y.s, .int .i64 y.d.1, .int .i64 y.d.2, .int .i64 y.t, .slice none 0 0] 54) := ⟨_, rfl⟩
   have hb7 : Below w5.heap.size w5 w7 := hb6.trans (by rw [hw7]; exact below1.mono hb6.size)
   have y7 : w7.heap[g6]? = some (.cells #[.string y.s, .int .i64 y.d.1, .int .i64 y.d.2, .int .i64 y.t, .slice none 0 0] 54 (0, 0)) := by rw [hw7, hg6]; exact heap_alloc_new w6 _
   have HG7 : Hid (wC.grownBy w7 (some bd)) := grown_trans HG5.out (grown_below' hb7)
   have HX7 := Lib.hid ((hb7.block _ (lt_of_block HX5.out)).trans HX5.out)
   have XX7 := Lib.hid ((hb7.block _ (lt_of_block XX5.out)).trans XX5.out)
   have HA7 := Lib.hid (own_stay HA5.out hb7)
   have HO7 := Lib.hid (own_stay HO5.out hb7)
   have Y7 := Lib.hid y7
   have HW7 := Lib.hid hw7
   have HG6 := Lib.hid hg6
   have hz7 : wC.heap.size ≤ w7.heap.size := HG7.out.size
   have hg7s : g6 + 1 = w7.heap.size := by rw [hw7, hg6]; simp
   have HG7S := Lib.hid hg7s
   have hq1l : q1 < w6.heap.size := Nat.lt_of_lt_of_le (lt_of_block (HGX.out w5 HG5.out).2.1) hb6.size
   have hg1l : g1 < w6.heap.size := Nat.lt_of_lt_of_le (lt_of_block XX5.out) hb6.size
   have hbdl : bd < w6.heap.size := Nat.lt_of_lt_of_le (lt_of_block HX5.out) hb6.size
   clear hb6 HX5 XX5 HA5 HO5 HG5 HW5
   cases b
   ·
    have hbn := brF_none hbr
    have HBN := Lib.hid hbn
    clear hbr hbn y7 hb7 hg7s
    have v1 := (HGX.out w7 HG7.out).2.1
    have d0 := boxc v1 0 _ rfl
    have d1 := boxc v1 1 _ rfl
    have d2 := boxc v1 2 _ rfl
    have d3 := boxc v1 3 _ rfl
    have j0 := boxc XX7.out 0 _ rfl
    have j1 := boxc XX7.out 1 _ rfl
    have n1 : ¬ q1 = w6.heap.size := by omega
    have n2 : ¬ g1 = w6.heap.size := by omega
    rw [hw7] at d0 d1 d2 d3 j0 j1
    clear hw7 hg6 v1
    go_wp2_with fail
    rw [← HW7.out, ← HG6.out]
    clear d0 d1 d2 d3 j0 j1 n1 n2
    (with_reducible refine (HBB.out w7 xa xb (HGB.out w7 HG7.out)).mono ?_)
    rintro e w8 ⟨y2, b, rfl, hbr, hb8⟩
    unfold eval'
    obtain ⟨g8, hg8⟩ : ∃ b, b = w8.heap.size := ⟨_, rfl⟩
    obtain ⟨w9, hw9⟩ : ∃ W, W = w8.alloc (.cells #[.string y2.s, .int .i64 y2.d.1, .int .i64 y2.d.2, .int .i64 y2.t, .slice none 0 0] 54) := ⟨_, rfl⟩
    have hb9 : Below w7.heap.size w7 w9 := hb8.trans (by rw [hw9]; exact below1.mono hb8.size)
    have HG9 : Hid (wC.grownBy w9 (some bd)) := grown_trans HG7.out (grown_below' hb9)
    have HX9 := Lib.hid ((hb9.block _ (lt_of_block HX7.out)).trans HX7.out)
    have HA9 := Lib.hid (own_stay HA7.out hb9)
    have HO9 := Lib.hid (own_stay HO7.out hb9)
    have HW9 := Lib.hid hw9
    have HG8 := Lib.hid hg8
    have hz9 : wC.heap.size ≤ w9.heap.size := HG9.out.size
    have hg9s : g8 + 1 = w9.heap.size := by rw [hw9, hg8]; simp
    have HG9S := Lib.hid hg9s
    have hbd8 : bd < w8.heap.size := Nat.lt_of_lt_of_le (lt_of_block HX7.out) hb8.size
    clear hb8 hb9 hg9s
    cases b
    ·
     have hbn := brF_none hbr
     have HT2 : Hid (jdL La Lb (jdA Aa Ab ca cb (R.take (k + 1))) = jdL La Lb (jdA Aa Ab ca cb (R.take k))) := by
      show _ = _
      rw [HT.out, jdL_snoc]
      unfold briF
      rw [HBN.out, hbn]; simp
     have HQ2 : Hid (q = (jdL La Lb (jdA Aa Ab ca cb (R.take (k + 1)))).length) := by show _ = _; rw [HT2.out]; exact HQ.out
     have HO2 : Hid (w9.ownsRow wC.heap.size 54 5 (.slice a q cq) q (ecells (jdL La Lb (jdA Aa Ab ca cb (R.take (k + 1)))))) := by show World.ownsRow _ _ _ _ _ _ _; rw [HT2.out]; exact HO9.out
     clear hbr hbn hw9 hg8
     go_wp2_with fail
     rw [← HW9.out]
     go_roundw
     case rel => exact ⟨k + 1, q, m + 1, a, a4, cq, c4, by go_num, by omega, by omega, by omega, HQ2, HM5, HX9, HO2, HA9, HG9⟩
     case measure => simp [intOf]; omega
    ·
     have hbs := brF_some HRDB.out.set.up hbr
     have HT2 : Hid (jdL La Lb (jdA Aa Ab ca cb (R.take (k + 1))) = jdL La Lb (jdA Aa Ab ca cb (R.take k)) ++ [y2]) := by
      show _ = _
      rw [HT.out, jdL_snoc]
      unfold briF
      rw [HBN.out, hbs]; rfl
     clear hbr hbs
     have i0 := boxc HX9.out 0 _ rfl
     rw [hw9] at i0
     have n3 : ¬ bd = w8.heap.size := by omega
     clear hw9 hg8
     go_wp2_with (at_builtin; rw [← HW9.out, ← HG8.out, HG9S.out]; refine app1g (.tmp 74) (.tmp 76) 22 rfl rfl wC.heap.size Tryz.underlying22 infoEnt rfl (by decide) (by decide) HO9.out rfl rfl rfl (by intro u hu; simp at hu; rcases hu with rfl | rfl | rfl | rfl | rfl <;> rfl) (by omega) hz9 ?_)
     intro v' wU hown hgU
     obtain ⟨aU, cU, rfl⟩ := own_slice hown
     have hbL : Below w9.heap.size w9 (w9.alloc (.cells #[.string y2.s, .int .i64 y2.d.1, .int .i64 y2.d.2, .int .i64 y2.t, .slice none 0 0] 54)) := below1
     have hoL := own_stay HO9.out hbL
     have hkU : Kt 54 w9 wU := (Kt.of_below hbL).trans (Kt.append hoL hgU)
     have hgUU : w9.grownBy wU (Value.slice a q cq).ownBlock := grown_trans (grown_below' hbL) hgU
     have xU := blk_kt HX9.out hkU (by decide)
     have f1 := boxf xU 0
     have f2 := boxc xU 0 _ rfl
     have HGU : Hid (wC.grownBy wU (some bd)) := grown_far HG9.out hgUU (fun j hj => (HO9.out.lt j hj).1)
     obtain ⟨wV, hwV⟩ : ∃ W, W = wU.setCell ⟨bd, 0, none⟩ (.slice aU (q + 1) cU) := ⟨_, rfl⟩
     have hkV : Kt 29 wU wV := by rw [hwV]; exact Kt.set xU 0 _
     have HGV : Hid (wC.grownBy wV (some bd)) := by show World.grownBy _ _ _; rw [hwV]; exact grown_trans HGU.out (set1_grown _)
     have HXV : Hid (wV.heap[bd]? = some (.cells #[.slice aU (q + 1) cU, .slice a4 (m + 1) c4, .slice t1 m1 u1, .slice t2 m2 u2] 29 (0, 0))) := by show _ = _; rw [hwV]; exact heap_setCell_same _ bd 0 _ _ _ xU
     have HOV : Hid (wV.ownsRow wC.heap.size 54 5 (.slice aU (q + 1) cU) (q + 1) (ecells (jdL La Lb (jdA Aa Ab ca cb (R.take (k + 1)))))) := by
      show World.ownsRow _ _ _ _ _ _ _
      rw [HT2.out, ecells_app]
      exact own_kt hown hkV (by decide)
     have HAV := Lib.hid (own_kt (own_kt HA9.out hkU (by decide)) hkV (by decide))
     have HQV : Hid (q + 1 = (jdL La Lb (jdA Aa Ab ca cb (R.take (k + 1)))).length) := by show _ = _; rw [HT2.out, List.length_append, ← HQ.out]; rfl
     have HWV := Lib.hid hwV
     clear hown hgU hbL hoL hkU hgUU xU hwV hkV i0 n3
     go_wp2_with fail
     rw [← HWV.out]
     go_roundw
     case rel => exact ⟨k + 1, q + 1, m + 1, aU, a4, cU, c4, by go_num, by omega, by omega, by omega, HQV, HM5, HXV, HOV, HAV, HGV⟩
     case measure => simp [intOf]; omega
   ·
    have hbs := brF_some HRDA.out.set.up hbr
    have HT2 : Hid (jdL La Lb (jdA Aa Ab ca cb (R.take (k + 1))) = jdL La Lb (jdA Aa Ab ca cb (R.take k)) ++ [y]) := by
     show _ = _
     rw [HT.out, jdL_snoc]
     unfold briF
     rw [hbs]; rfl
    clear hbr hbs y7 hb7
    have i0 := boxc HX7.out 0 _ rfl
    rw [hw7] at i0
    have n3 : ¬ bd = w6.heap.size := by omega
    clear hw7 hg6
    go_wp2_with (at_builtin; rw [← HW7.out, ← HG6.out, HG7S.out]; refine app1g (.tmp 61) (.tmp 63) 22 rfl rfl wC.heap.size Tryz.underlying22 infoEnt rfl (by decide) (by decide) HO7.out rfl rfl rfl (by intro u hu; simp at hu; rcases hu with rfl | rfl | rfl | rfl | rfl <;> rfl) (by omega) hz7 ?_)
    intro v' wU hown hgU
    obtain ⟨aU, cU, rfl⟩ := own_slice hown
    have hbL : Below w7.heap.size w7 (w7.alloc (.cells #[.string y.s, .int .i64 y.d.1, .int .i64 y.d.2, .int .i64 y.t, .slice none 0 0] 54)) := below1
    have hoL := own_stay HO7.out hbL
    have hkU : Kt 54 w7 wU := (Kt.of_below hbL).trans (Kt.append hoL hgU)
    have hgUU : w7.grownBy wU (Value.slice a q cq).ownBlock := grown_trans (grown_below' hbL) hgU
    have xU := blk_kt HX7.out hkU (by decide)
    have f1 := boxf xU 0
    have f2 := boxc xU 0 _ rfl
    have HGU : Hid (wC.grownBy wU (some bd)) := grown_far HG7.out hgUU (fun j hj => (HO7.out.lt j hj).1)
    obtain ⟨wV, hwV⟩ : ∃ W, W = wU.setCell ⟨bd, 0, none⟩ (.slice aU (q + 1) cU) := ⟨_, rfl⟩
    have hkV : Kt 29 wU wV := by rw [hwV]; exact Kt.set xU 0 _
    have HGV : Hid (wC.grownBy wV (some bd)) := by show World.grownBy _ _ _; rw [hwV]; exact grown_trans HGU.out (set1_grown _)
    have HXV : Hid (wV.heap[bd]? = some (.cells #[.slice aU (q + 1) cU, .slice a4 (m + 1) c4, .slice t1 m1 u1, .slice t2 m2 u2] 29 (0, 0))) := by show _ = _; rw [hwV]; exact heap_setCell_same _ bd 0 _ _ _ xU
    have HOV : Hid (wV.ownsRow wC.heap.size 54 5 (.slice aU (q + 1) cU) (q + 1) (ecells (jdL La Lb (jdA Aa Ab ca cb (R.take (k + 1)))))) := by
     show World.ownsRow _ _ _ _ _ _ _
     rw [HT2.out, ecells_app]
     exact own_kt hown hkV (by decide)
    have HAV := Lib.hid (own_kt (own_kt HA7.out hkU (by decide)) hkV (by decide))
    have HQV : Hid (q + 1 = (jdL La Lb (jdA Aa Ab ca cb (R.take (k + 1)))).length) := by show _ = _; rw [HT2.out, List.length_append, ← HQ.out]; rfl
    have HWV := Lib.hid hwV
    clear hown hgU hbL hoL hkU hgUU xU hwV hkV i0 n3
    go_wp2_with fail
    rw [← HWV.out]
    go_roundw
    case rel => exact ⟨k + 1, q + 1, m + 1, aU, a4, cU, c4, by go_num, by omega, by omega, by omega, HQV, HM5, HXV, HOV, HAV, HGV⟩
    case measure => simp [intOf]; omega
  ·
   obtain rfl : k = nR := by omega
   have HTK : Hid (R.take k = R) := List.take_of_length_le (by rw [← HNR.out]; exact Nat.le_refl _)
   have HC9 : Hid (OwnC 0 wr (.agg #[.slice t1 m1 u1, .slice t2 m2 u2]) cj) := (OwnC.kt HCC.out (HKT.out wr HG.out) (by decide)).low (Nat.zero_le _)
   have x2 := (HGX.out wr HG.out).2.2
   have i0 := boxc HX.out 0 _ rfl
   have i1 := boxc HX.out 1 _ rfl
   have i2 := boxc HX.out 2 _ rfl
   have i3 := boxc HX.out 3 _ rfl
   have f0 := boxf x2 0
   have f1 := boxf x2 1
   have f2 := boxf x2 2
   have f3 := boxf x2 3
   have c0 := boxc x2 0 _ rfl
   have c1 := boxc x2 1 _ rfl
   have c2 := boxc x2 2 _ rfl
   have c3 := boxc x2 3 _ rfl
   obtain ⟨w5, hw5⟩ : ∃ W, W = (((wr.setCell ⟨q2, 0, none⟩ (.slice a q cq)).setCell ⟨q2, 1, none⟩ (.slice a' m cq')).setCell ⟨q2, 2, none⟩ (.slice t1 m1 u1)).setCell ⟨q2, 3, none⟩ (.slice t2 m2 u2) := ⟨_, rfl⟩
   have r0 := heap_setCell_same _ q2 0 _ _ (.slice a q cq) x2
   have r1 := heap_setCell_same _ q2 1 _ _ (.slice a' m cq') r0
   have r2 := heap_setCell_same _ q2 2 _ _ (.slice t1 m1 u1) r1
   have r3 := heap_setCell_same _ q2 3 _ _ (.slice t2 m2 u2) r2
   have HT : Hid (w5.heap[q2]? = some (.cells #[.slice a q cq, .slice a' m cq', .slice t1 m1 u1, .slice t2 m2 u2] 29 (0, 0))) := by show _ = _; rw [hw5]; exact r3
   have hkt : Kt 29 wr w5 := by rw [hw5]; exact set4_kt x2 _ _ _ _
   have HCH : Hid (ChgE 0 (jdL La Lb (jdA Aa Ab ca cb R)) (jdA Aa Ab ca cb R) cj (.agg #[.slice a q cq, .slice a' m cq', .slice t1 m1 u1, .slice t2 m2 u2]) w5) := by
    have ho := own_kt HO.out hkt (by decide)
    have ha := own_kt HA.out hkt (by decide)
    have hq := HQ.out
    have hm := HM.out
    rw [HTK.out] at ho ha hq hm
    refine ⟨_, _, _, _, _, _, _, _, _, _, _, _, rfl, ?_, ?_, HC9.out.kt hkt (by decide)⟩
    ·
     unfold EntO
     rw [← hq]; exact own_base ho (Nat.zero_le _)
    ·
     unfold DotO
     rw [← hm]; exact own_base ha (Nat.zero_le _)
   have hq2w : w.heap.size ≤ q2 := by rw [H2.out]; omega
   have HB5 : Hid (Below w.heap.size w w5) := by
    show Below _ _ _
    rw [hw5]
    exact ((((HGB.out wr HG.out).setCell hq2w _).setCell hq2w _).setCell hq2w _).setCell hq2w _
   have HRL : Hid (R.length ≤ 2000) := by show _ ≤ _; rw [← HNR.out]; exact hR2
   have HW5 := Lib.hid hw5
   clear x2 hw5 r0 r1 r2 r3 hkt
   go_wp2_with fail
   rw [← HW5.out]
   have g0 := boxc HT.out 0 _ rfl
   have g1 := boxc HT.out 1 _ rfl
   have g2 := boxc HT.out 2 _ rfl
   have g3 := boxc HT.out 3 _ rfl
   exact bodyPost_ret (v := .agg #[.slice a q cq, .slice a' m cq', .slice t1 m1 u1, .slice t2 m2 u2]) (by simp [results, Tryz.results21, go_sem, g0, g1, g2, g3]) rfl ⟨_, R, cj, rfl, HJD.out, HRL.out, HCH.out, HB5.out⟩
end Go.Proofs.YtonknpdalemjkaaGreat

