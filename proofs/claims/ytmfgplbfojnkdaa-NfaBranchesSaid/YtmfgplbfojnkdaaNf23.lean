/- texts put together: NfAwk, NfSz, LawNfR, Close, RxArgs, ArgsRx. -/
import Derived.Test.YtmfgplbfojnkdaaNf00
import Derived.Test.YtmfgplbfojnkdaaNf01
import Derived.Test.YtmfgplbfojnkdaaNf09
import Derived.Test.YtmfgplbfojnkdaaNf22
import Derived.Carry
import Derived.ChangeArms
import Derived.Deep.DeepHandedRow
import Derived.Deep.Slices
import Derived.JoinedCond
import Derived.Laws.IdiomArrays
import Derived.Lib.LaidTab
import Derived.OpenShut
import Derived.ProofKit
import Derived.Test.YtmfgplbfojnkdaaRows
import Derived.WalkKit
import Derived.WideShapes
namespace Go.Proofs.Ytmfgplbfojnkdaa
open Go Go.RowKit Go.ChangeShapes cl rx
def Said (b : Bool) (w : World) (e : Ending) (w' : World) : Prop := e = .returned (.bool b) ∧ Below w.heap.size w w'
def tA : ByteArray := ⟨#[97, 40, 98, 124, 99, 41, 42, 100]⟩
def tB : ByteArray := ⟨#[40, 97, 123, 50, 48, 125, 41, 123, 50, 48, 125]⟩
def pA : Pat := (rf.parse [97, 40, 98, 124, 99, 41, 42, 100]).1
def pB : Pat := (rf.parse [40, 97, 123, 50, 48, 125, 41, 123, 50, 48, 125]).1
theorem code_A : nf.code 40 pA = 0 := by kernel_rfl
theorem code_B : nf.code 40 pB = 10 := by kernel_rfl
theorem run_A1 : nf.run (nf.made 40 pA).sz 0 1 (nf.made 40 pA).es [97, 98, 99, 98, 100] = true := by kernel_rfl
theorem run_A2 : nf.run (nf.made 40 pA).sz 0 1 (nf.made 40 pA).es [97, 100] = true := by kernel_rfl
theorem run_A3 : nf.run (nf.made 40 pA).sz 0 1 (nf.made 40 pA).es [97, 98, 99] = false := by kernel_rfl
theorem cls_A0 : (nf.made 40 pA).es.all (fun e => decide (e.cl.a < 18446744073709551616) && (decide (e.cl.b < 18446744073709551616) && (decide (e.cl.c < 18446744073709551616) && decide (e.cl.d < 18446744073709551616)))) = true := by kernel_rfl
theorem cls_A : ∀ e ∈ (nf.made 40 pA).es, e.cl.ok := fun e he => by
 have := List.all_eq_true.1 cls_A0 e he
 simp only [Bool.and_eq_true, decide_eq_true_eq] at this
 exact this
theorem sets_other {P : Nat} (k : Nat) (hk : k ≠ P) : ∀ (us : List Value) (o : Nat) (w : World), (w.setCells P o us).heap[k]? = w.heap[k]?
 | [], _, _ => rfl
 | u :: us, o, w => (sets_other k hk us (o + 1) _).trans (heap_setCell_other w ⟨P, o, none⟩ k u (fun e => hk (by rw [e])))
theorem sets_below {B P : Nat} (hB : B ≤ P) : ∀ (us : List Value) (o : Nat) (w : World), Below B w (w.setCells P o us)
 | [], _, w => Below.refl B w
 | _ :: us, o, _ => (below_set.mono hB).trans (sets_below hB us (o + 1) _)
set_option maxHeartbeats 1600000 in
set_option maxRecDepth 100000 in
theorem parsed_any (S : ByteArray) (w : World) : Calls Try.prog 21 #[.string S] w fun e w' => ∃ c, e = .returned (.agg (List.toArray c)) ∧ rxR 40 w' w'.heap.size c (rf.parse (kit.bytes S)).1 ∧ Below w.heap.size w w' := by
 have HPS : Hid (∀ W, Calls Try.prog 35 #[.string S] W (fun e w' => ∃ c, e = .returned (.tuple #[.agg (List.toArray c), .int .i64 (rf.parse (kit.bytes S)).2.1, .int .i64 (rf.parse (kit.bytes S)).2.2]) ∧ Fre W.heap.size w' (fun W => rxR 40 W W.heap.size c (rf.parse (kit.bytes S)).1) ∧ Below W.heap.size W w')) := fun W => rf_parse_any S W
 obtain ⟨z1, hz1⟩ : ∃ z, z = (rf.parse (kit.bytes S)).2.1 := ⟨_, rfl⟩
 obtain ⟨z2, hz2⟩ : ∃ z, z = (rf.parse (kit.bytes S)).2.2 := ⟨_, rfl⟩
 obtain ⟨p, hp⟩ : ∃ p, p = (rf.parse (kit.bytes S)).1 := ⟨_, rfl⟩
 rw [← hz1, ← hz2, ← hp] at HPS
 rw [← hp]
 obtain ⟨P, hP⟩ : ∃ P, P = w.heap.size := ⟨_, rfl⟩
 obtain ⟨w1, hw1⟩ : ∃ W, W = w.alloc (.cells #[.int .i64 0, .int .u64 0, .int .u64 0, .int .u64 0, .int .u64 0, .slice none 0 0, .int .i64 0, .int .i64 0] 27) := ⟨_, rfl⟩
 have b1 : Below w.heap.size w w1 := by rw [hw1]; exact below1
 have x1 : w1.heap[P]? = some (.cells #[.int .i64 0, .int .u64 0, .int .u64 0, .int .u64 0, .int .u64 0, .slice none 0 0, .int .i64 0, .int .i64 0] 27 (0, 0)) := by rw [hw1, hP]; exact heap_alloc_new w _
 have HB1 := Lib.hid b1
 have HX1 := Lib.hid x1
 have HW1 := Lib.hid hw1
 have HP := Lib.hid hP
 clear hz1 hz2 hp hP hw1 b1 x1
 go_enter Try.func21, Try.ntmps21
 go_wp2_with fail
 rw [← HW1.out, ← HP.out]
 (with_reducible refine (HPS.out w1).mono ?_)
 rintro en w2 ⟨c, rfl, hfr, hb2⟩
 obtain ⟨ko, kn, kc, rfl⟩ := rx_form (FreA.at hfr)
 have x2 := (hb2.block _ (lt_of_block HX1.out)).trans HX1.out
 have hPs : P < w1.heap.size := lt_of_block HX1.out
 have HFR := Lib.hid hfr
 have HB2 := Lib.hid hb2
 have HX2 := Lib.hid x2
 obtain ⟨w3, hw3⟩ : ∃ W, W = w2.alloc (.cells #[.int .i64 p.k, .int .u64 p.cl.a, .int .u64 p.cl.b, .int .u64 p.cl.c, .int .u64 p.cl.d, .slice ko kn kc, .int .i64 p.mn, .int .i64 p.mx] 27) := ⟨_, rfl⟩
 have b3 : Below w2.heap.size w2 w3 := by rw [hw3]; exact below1
 have x3 := (b3.block _ (lt_of_block x2)).trans x2
 have c0 := boxc x3 0 _ rfl
 have c1 := boxc x3 1 _ rfl
 have c2 := boxc x3 2 _ rfl
 have c3 := boxc x3 3 _ rfl
 have c4 := boxc x3 4 _ rfl
 have c5 := boxc x3 5 _ rfl
 have c6 := boxc x3 6 _ rfl
 have c7 := boxc x3 7 _ rfl
 have f0 := boxf x3 0
 have f1 := boxf x3 1
 have f2 := boxf x3 2
 have f3 := boxf x3 3
 have f4 := boxf x3 4
 have f5 := boxf x3 5
 have f6 := boxf x3 6
 have f7 := boxf x3 7
 rw [hw3] at c0 c1 c2 c3 c4 c5 c6 c7 f0 f1 f2 f3 f4 f5 f6 f7
 have HW3 := Lib.hid hw3
 have HB3 := Lib.hid b3
 have HX3 := Lib.hid x3
 clear hfr hb2 x2 hw3 b3 x3
 go_wp2
 rw [← HW3.out]
 obtain ⟨w9, hw9⟩ : ∃ W, W = ((((((((w3.setCell ⟨P, 0, none⟩ (.int .i64 p.k)).setCell ⟨P, 1, none⟩ (.int .u64 p.cl.a)).setCell ⟨P, 2, none⟩ (.int .u64 p.cl.b)).setCell ⟨P, 3, none⟩ (.int .u64 p.cl.c)).setCell ⟨P, 4, none⟩ (.int .u64 p.cl.d)).setCell ⟨P, 5, none⟩ (.slice ko kn kc)).setCell ⟨P, 6, none⟩ (.int .i64 p.mn)).setCell ⟨P, 7, none⟩ (.int .i64 p.mx)) := ⟨_, rfl⟩
 have x9 : w9.heap[P]? = some (.cells #[.int .i64 p.k, .int .u64 p.cl.a, .int .u64 p.cl.b, .int .u64 p.cl.c, .int .u64 p.cl.d, .slice ko kn kc, .int .i64 p.mn, .int .i64 p.mx] 27 (0, 0)) := by rw [hw9]; exact (heap_setCell_same _ P 7 _ _ _ (heap_setCell_same _ P 6 _ _ _ (heap_setCell_same _ P 5 _ _ _ (heap_setCell_same _ P 4 _ _ _ (heap_setCell_same _ P 3 _ _ _ (heap_setCell_same _ P 2 _ _ _ (heap_setCell_same _ P 1 _ _ _ (heap_setCell_same _ P 0 _ _ _ HX3.out))))))))
 have oth : ∀ k, k ≠ P → w9.heap[k]? = w3.heap[k]? := fun k hk => by
  rw [hw9]
  exact sets_other k hk [.int .i64 p.k, .int .u64 p.cl.a, .int .u64 p.cl.b, .int .u64 p.cl.c, .int .u64 p.cl.d, .slice ko kn kc, .int .i64 p.mn, .int .i64 p.mx] 0 w3
 have hsz : w9.heap.size = w3.heap.size := by rw [hw9]; simp
 have hb9 : Below P w3 w9 := by rw [hw9]; exact sets_below (Nat.le_refl P) [.int .i64 p.k, .int .u64 p.cl.a, .int .u64 p.cl.b, .int .u64 p.cl.c, .int .u64 p.cl.d, .slice ko kn kc, .int .i64 p.mn, .int .i64 p.mx] 0 w3
 have hrx : rxR 40 w9 w9.heap.size [.int .i64 p.k, .int .u64 p.cl.a, .int .u64 p.cl.b, .int .u64 p.cl.c, .int .u64 p.cl.d, .slice ko kn kc, .int .i64 p.mn, .int .i64 p.mx] p := HFR.out w9 (by rw [hsz]; exact HB3.out.size) (fun j hB hj _ => by
  rw [oth j (by omega)]; exact HB3.out.block j hj)
 have hbe : Below w.heap.size w w9 := by
  have h1 : Below w.heap.size w w3 := HB1.out.trans ((HB2.out.trans (HB3.out.mono HB2.out.size)).mono HB1.out.size)
  exact h1.trans (hb9.mono (by rw [HP.out]; exact Nat.le_refl _))
 have e0 := boxc x9 0 _ rfl
 have e1 := boxc x9 1 _ rfl
 have e2 := boxc x9 2 _ rfl
 have e3 := boxc x9 3 _ rfl
 have e4 := boxc x9 4 _ rfl
 have e5 := boxc x9 5 _ rfl
 have e6 := boxc x9 6 _ rfl
 have e7 := boxc x9 7 _ rfl
 rw [← hw9]
 clear hw9 oth hsz hb9 x9 c0 c1 c2 c3 c4 c5 c6 c7 f0 f1 f2 f3 f4 f5 f6 f7
 refine bodyPost_ret (v := .agg #[.int .i64 p.k, .int .u64 p.cl.a, .int .u64 p.cl.b, .int .u64 p.cl.c, .int .u64 p.cl.d, .slice ko kn kc, .int .i64 p.mn, .int .i64 p.mx]) ?_ rfl ⟨[.int .i64 p.k, .int .u64 p.cl.a, .int .u64 p.cl.b, .int .u64 p.cl.c, .int .u64 p.cl.d, .slice ko kn kc, .int .i64 p.mn, .int .i64 p.mx], rfl, hrx, hbe⟩
 simp only [results, Try.results21]
 go_simp
set_option maxHeartbeats 6400000 in
set_option maxRecDepth 100000 in
theorem awake_any (w : World) : Calls Try.prog 9 #[] w (Said true w) := by
 have HPA : Hid (Calls Try.prog 21 #[.string ⟨#[97, 40, 98, 124, 99, 41, 42, 100]⟩] w fun e w' => ∃ c, e = .returned (.agg (List.toArray c)) ∧ rxR 40 w' w'.heap.size c pA ∧ Below w.heap.size w w') := parsed_any tA w
 have HPB : Hid (∀ W, Calls Try.prog 21 #[.string ⟨#[40, 97, 123, 50, 48, 125, 41, 123, 50, 48, 125]⟩] W fun e w' => ∃ c, e = .returned (.agg (List.toArray c)) ∧ rxR 40 w' w'.heap.size c pB ∧ Below W.heap.size W w') := fun W => parsed_any tB W
 obtain ⟨sz, hsz⟩ : ∃ z, z = (nf.made 40 pA).sz := ⟨_, rfl⟩
 obtain ⟨es, hes⟩ : ∃ l, l = (nf.made 40 pA).es := ⟨_, rfl⟩
 have hr := nf.made_rgt code_A
 have r1 := run_A1
 have r2 := run_A2
 have r3 := run_A3
 have hcl := cls_A
 rw [← hsz, ← hes] at hr r1 r2 r3
 rw [← hes] at hcl
 obtain ⟨m, hm⟩ : ∃ m, m = es.length := ⟨_, rfl⟩
 have HZ := Lib.hid hsz
 have HE := Lib.hid hes
 have HM := Lib.hid hm
 have HR := Lib.hid hr
 have H1 := Lib.hid r1
 have H2 := Lib.hid r2
 have H3 := Lib.hid r3
 have HCL := Lib.hid hcl
 clear hr r1 r2 r3 hcl hsz hes hm
 go_enter Try.func9, Try.ntmps9
 go_wp2_with fail
 (with_reducible refine HPA.out.mono ?_)
 rintro en w1 ⟨c, rfl, hx1, hb1⟩
 have HBL := Lib.hid (nf_build 40 pA c w1 hx1)
 have HB1 := Lib.hid hb1
 clear hx1 hb1
 go_wp2_with fail
 (with_reducible refine HBL.out.mono ?_)
 rintro en w2 ⟨sl, rfl, ho2, hb2⟩
 rw [code_A, if_pos rfl, ← HZ.out]
 rw [← HE.out, ← HM.out] at ho2
 obtain ⟨eo, ec, rfl⟩ : ∃ eo ec, sl = .slice eo m ec := by
  rcases ho2.2 with ⟨rfl, h0⟩ | ⟨g, c, cur, rfl, _⟩
  ·
   exact ⟨none, 0, by rw [h0]⟩
  ·
   exact ⟨_, _, rfl⟩
 have HB2 := Lib.hid (HB1.out.trans (hb2.mono HB1.out.size))
 obtain ⟨P, hP⟩ : ∃ P, P = w2.heap.size := ⟨_, rfl⟩
 obtain ⟨w3, hw3⟩ : ∃ W, W = w2.alloc (.cells #[.int .i64 (sz : Int), .int .i64 0, .int .i64 1, .slice eo m ec] 32) := ⟨_, rfl⟩
 have b3 : Below w2.heap.size w2 w3 := by rw [hw3]; exact below1
 have x3 : w3.heap[P]? = some (.cells #[.int .i64 (sz : Int), .int .i64 0, .int .i64 1, .slice eo m ec] 32 (0, 0)) := by rw [hw3, hP]; exact heap_alloc_new w2 _
 have HC : Hid (∀ W, Below w3.heap.size w3 W → Cells W W.heap.size (.slice eo m ec) m 7 (ecells es)) := fun W hW => (Cells.own ho2).next (b3.trans (hW.mono b3.size))
 have HX : Hid (∀ W, Below w3.heap.size w3 W → W.heap[P]? = some (.cells #[.int .i64 (sz : Int), .int .i64 0, .int .i64 1, .slice eo m ec] 32 (0, 0))) := fun W hW => (hW.block _ (lt_of_block x3)).trans x3
 have HB3 := Lib.hid (HB2.out.trans (b3.mono HB2.out.size))
 have HP := Lib.hid hP
 have HW3 := Lib.hid hw3
 have HRN : Hid (∀ (S : ByteArray) (W : World) (r : Bool), S.size ≤ 10000 → nf.run sz 0 1 es (kit.bytes S) = r → Below w3.heap.size w3 W → Calls Try.prog 13 #[.agg #[.int .i64 (sz : Int), .int .i64 0, .int .i64 1, .slice eo m ec], .string S] W fun e w' => e = .returned (.bool r) ∧ Below W.heap.size W w') := fun S W r hS hr hW => by
  have := nf_run sz 0 1 es eo m ec S W HR.out HM.out (HC.out W hW) HCL.out hS
  rw [hr] at this
  exact this
 clear ho2 hb2 hP hw3 b3 x3 HBL
 go_wp2_with fail
 rw [← HW3.out, ← HP.out]
 (with_reducible refine (HPB.out w3).mono ?_)
 rintro en w4 ⟨c4, rfl, hx4, hb4⟩
 have HBL := Lib.hid (nf_build 40 pB c4 w4 hx4)
 have HB4 := Lib.hid hb4
 clear hx4 hb4
 go_wp2_with fail
 (with_reducible refine HBL.out.mono ?_)
 rintro en w5 ⟨sl5, rfl, ho5, hb5⟩
 rw [code_B, if_neg (by decide)]
 obtain ⟨ao5, n5, c5, rfl⟩ : ∃ ao5 n5 c5, sl5 = .slice ao5 n5 c5 := by
  rcases ho5.2 with ⟨rfl, _⟩ | ⟨g, c, cur, rfl, _⟩
  ·
   exact ⟨_, _, _, rfl⟩
  ·
   exact ⟨_, _, _, rfl⟩
 obtain ⟨z5, hz5⟩ : ∃ z, z = (nf.made 40 pB).sz := ⟨_, rfl⟩
 rw [← hz5]
 obtain ⟨w6, hw6⟩ : ∃ W, W = w5.alloc (.cells #[.int .i64 (z5 : Int), .int .i64 0, .int .i64 0, .slice ao5 n5 c5] 32) := ⟨_, rfl⟩
 have b6 : Below w5.heap.size w5 w6 := by rw [hw6]; exact below1
 have HB6 : Hid (Below w3.heap.size w3 w6) := HB4.out.trans ((hb5.trans (b6.mono hb5.size)).mono HB4.out.size)
 have x6 := HX.out _ HB6.out
 have c0 := boxc x6 0 _ rfl
 have c1 := boxc x6 1 _ rfl
 have c2 := boxc x6 2 _ rfl
 have c3 := boxc x6 3 _ rfl
 rw [hw6] at c0 c1 c2 c3
 have HW6 := Lib.hid hw6
 have HR1 := Lib.hid (HRN.out ⟨#[97, 98, 99, 98, 100]⟩ w6 true (by decide) H1.out HB6.out)
 clear ho5 hb5 hz5 hw6 b6 x6 HBL
 go_wp2_with fail
 rw [← HW6.out]
 (with_reducible refine HR1.out.mono ?_)
 rintro en w7 ⟨rfl, hb7⟩
 have HB7 := Lib.hid (HB6.out.trans (hb7.mono HB6.out.size))
 have x7 := HX.out _ HB7.out
 have d0 := boxc x7 0 _ rfl
 have d1 := boxc x7 1 _ rfl
 have d2 := boxc x7 2 _ rfl
 have d3 := boxc x7 3 _ rfl
 have HR2 := Lib.hid (HRN.out ⟨#[97, 100]⟩ w7 true (by decide) H2.out HB7.out)
 clear c0 c1 c2 c3 x7 hb7 HR1
 go_wp2_with fail
 (with_reducible refine HR2.out.mono ?_)
 rintro en w8 ⟨rfl, hb8⟩
 have HB8 := Lib.hid (HB7.out.trans (hb8.mono HB7.out.size))
 have x8 := HX.out _ HB8.out
 have c0 := boxc x8 0 _ rfl
 have c1 := boxc x8 1 _ rfl
 have c2 := boxc x8 2 _ rfl
 have c3 := boxc x8 3 _ rfl
 have HR3 := Lib.hid (HRN.out ⟨#[97, 98, 99]⟩ w8 false (by decide) H3.out HB8.out)
 clear d0 d1 d2 d3 x8 hb8 HR2
 go_wp2_with fail
 (with_reducible refine HR3.out.mono ?_)
 rintro en w9 ⟨rfl, hb9⟩
 have HB9 := Lib.hid (HB8.out.trans (hb9.mono HB8.out.size))
 have x9 := HX.out _ HB9.out
 have d0 := boxc x9 0 _ rfl
 have d1 := boxc x9 1 _ rfl
 have d2 := boxc x9 2 _ rfl
 have d3 := boxc x9 3 _ rfl
 have HR4 : Hid (Calls Try.prog 15 #[.agg #[.int .i64 (sz : Int), .int .i64 0, .int .i64 1, .slice eo m ec]] w9 fun e w' => e = .returned (.bool true) ∧ Below w9.heap.size w9 w') := nf_right sz 0 1 es eo m ec w9 HR.out HM.out (HC.out w9 HB9.out)
 clear c0 c1 c2 c3 x9 hb9 HR3
 go_wp2_with fail
 (with_reducible refine HR4.out.mono ?_)
 rintro en w10 ⟨rfl, hb10⟩
 have HB10 := Lib.hid (HB3.out.trans ((HB9.out.trans (hb10.mono HB9.out.size)).mono HB3.out.size))
 clear hb10 d0 d1 d2 d3
 go_wp2
 go_ret
 exact ⟨rfl, HB10.out⟩
end Go.Proofs.Ytmfgplbfojnkdaa
namespace Go.Proofs.Ytmfgplbfojnkdaa
open Go Go.RowKit Go.ChangeShapes cl rx
def SzR (w : World) (e : Ending) (w' : World) : Prop := ∃ (z : Int) (b : Bool), e = .returned (.tuple #[.int .i64 z, .bool b]) ∧ 0 ≤ z ∧ z ≤ 2000 ∧ Below w.heap.size w w'
set_option maxHeartbeats 3200000 in
set_option maxRecDepth 100000 in
theorem size_z (e : Nat) (x : Pat) (c : List Value) (w : World) (h : rxR e w w.heap.size c x) : Calls Try.prog 20 #[.agg c.toArray, .int .i64 0] w (SzR w) := by
 obtain ⟨ko, kn, kc, rfl⟩ := rx_form h
 clear h
 go_enter Try.func20, Try.ntmps20
 go_wp2
 go_ret2
 exact ⟨0, false, rfl, by omega, by omega, below1⟩
set_option maxHeartbeats 6400000 in
set_option maxRecDepth 100000 in
theorem size_of (e : Nat) (z : Int) (hz : 0 < z ∧ z ≤ 1000) (HR : ∀ (x : Pat) (c : List Value) (w : World), rxR e w w.heap.size c x → Calls Try.prog 20 #[.agg c.toArray, .int .i64 (z - 1)] w (SzR w))
  (y : Pat) (c : List Value) (w : World) (h0 : rxR (e + 1) w w.heap.size c y) : Calls Try.prog 20 #[.agg c.toArray, .int .i64 z] w (SzR w) := by
 obtain ⟨ao, m, cap, rfl, h⟩ := h0
 obtain ⟨hm, hnc, hnm⟩ : m = y.ks.length ∧ m ≤ cap ∧ m ≤ maxLen := by
  obtain ⟨_, _, e, h1, h2⟩ := h.form
  simp only [Value.slice.injEq] at e
  obtain ⟨rfl, rfl, rfl⟩ := e
  exact ⟨rfl, h1, h2⟩
 unfold maxLen at hnm
 obtain ⟨l, hl⟩ : ∃ l, l = y.ks := ⟨_, rfl⟩
 rw [← hl] at h hm
 obtain ⟨W2, hW2⟩ : ∃ W, W = w.alloc (.cells #[.int .i64 y.k, .int .u64 y.cl.a, .int .u64 y.cl.b, .int .u64 y.cl.c, .int .u64 y.cl.d, .slice ao m cap, .int .i64 y.mn, .int .i64 y.mx] 27) := ⟨_, rfl⟩
 have b2 : Below w.heap.size w W2 := by rw [hW2]; exact below1
 have x2 : W2.heap[w.heap.size]? = some (.cells #[.int .i64 y.k, .int .u64 y.cl.a, .int .u64 y.cl.b, .int .u64 y.cl.c, .int .u64 y.cl.d, .slice ao m cap, .int .i64 y.mn, .int .i64 y.mx] 27) := by rw [hW2]; exact heap_alloc_new _ _
 have c5 := boxc x2 5 _ rfl
 rw [hW2] at c5
 have hzw : IntKind.i64.wrap (z - 1) = z - 1 := IntWalk.i64_in _ (by omega)
 have z0 : ¬ z = 0 := by omega
 have z1 : (z == 0) = false := by simp [z0]
 have B2 := Lib.hid b2
 have HW2 := Lib.hid hW2
 have HL := Lib.hid h
 have HM := Lib.hid hm
 have HH := Lib.hid HR
 clear h hm HR hl b2 x2 hW2
 by_cases g1 : 70 < m
 ·
  have g1i : (70 : Int) < (m : Int) := by omega
  go_enter Try.func20, Try.ntmps20
  go_wp2
  rw [← HW2.out]
  go_ret2
  exact ⟨0, false, rfl, by omega, by omega, B2.out⟩
 have g1i : ¬ (70 : Int) < (m : Int) := by omega
 go_enter Try.func20, Try.ntmps20
 go_wp2
 clear c5
 rw [← HW2.out]
 go_loopw [6, 22, 42] (fun n i _ wr => ∃ k : Nat, i = .int .i64 k ∧ k ≤ m ∧ (∃ s : Nat, n = .int .i64 s ∧ s ≤ 2000) ∧ Below w.heap.size w wr) (fun _ i _ _ => m - (intOf i).toNat)
 case atStart => exact ⟨0, rfl, Nat.zero_le _, ⟨1, rfl, by omega⟩, B2.out⟩
 case round =>
  obtain ⟨k, rfl, hk, ⟨s, rfl, hs⟩, hbl⟩ := hrel
  have HBL := Lib.hid hbl
  by_cases hlt : k < m
  ·
   have hkI : (k : Int) < (m : Int) := by omega
   obtain ⟨x, hx⟩ : ∃ x, x = l.getD k default := ⟨_, rfl⟩
   obtain ⟨ba, oa, c, rfl, hbB, hcl, hR, hC⟩ := (HL.out.next (rxR_steady e) hbl).get HM.out hlt default
   rw [← hx] at hR
   have HLT := Lib.hid hlt
   obtain ⟨ko, kn, kc, rfl⟩ := rx_form hR
   have z0 : wr.cell? ⟨ba, oa + k * 8, none⟩ = _ := hC 0 _ rfl
   have z1 := hC 1 _ rfl
   have z2 := hC 2 _ rfl
   have z3 := hC 3 _ rfl
   have z4 := hC 4 _ rfl
   have z5 := hC 5 _ rfl
   have z6 := hC 6 _ rfl
   have z7 := hC 7 _ rfl
   obtain ⟨W4, hW4⟩ : ∃ W, W = wr.alloc (.cells #[.int .i64 x.k, .int .u64 x.cl.a, .int .u64 x.cl.b, .int .u64 x.cl.c, .int .u64 x.cl.d, .slice ko kn kc, .int .i64 x.mn, .int .i64 x.mx] 27) := ⟨_, rfl⟩
   have b4 : Below wr.heap.size wr W4 := by rw [hW4]; exact below1
   have HRI := Lib.hid (HH.out x _ W4 (rxR_steady e _ _ _ _ _ _ hR b4 b4.size))
   have B4 := Lib.hid (hbl.trans (b4.mono hbl.size))
   have x4 : W4.heap[wr.heap.size]? = some (.cells #[.int .i64 x.k, .int .u64 x.cl.a, .int .u64 x.cl.b, .int .u64 x.cl.c, .int .u64 x.cl.d, .slice ko kn kc, .int .i64 x.mn, .int .i64 x.mx] 27) := by rw [hW4]; exact heap_alloc_new _ _
   have y0 := boxc x4 0 _ rfl
   have y1 := boxc x4 1 _ rfl
   have y2 := boxc x4 2 _ rfl
   have y3 := boxc x4 3 _ rfl
   have y4 := boxc x4 4 _ rfl
   have y5 := boxc x4 5 _ rfl
   have y6 := boxc x4 6 _ rfl
   have y7 := boxc x4 7 _ rfl
   rw [hW4] at y0 y1 y2 y3 y4 y5 y6 y7
   have HW4 := Lib.hid hW4
   clear hR hC hx hcl hbB hbl b4 x4 hW4 hlt
   go_wp2_with fail
   rw [← HW4.out]
   (with_reducible refine HRI.out.mono ?_)
   rintro e6 w6 ⟨zz, b, rfl, hz2, hz3, b6⟩
   have B6 := Lib.hid (B4.out.trans (b6.mono B4.out.size))
   obtain ⟨zn, rfl⟩ : ∃ n : Nat, zz = (n : Int) := ⟨zz.toNat, by omega⟩
   clear b6 y0 y1 y2 y3 y4 y5 y6 y7
   cases b with
   | false =>
    go_wp2
    go_ret2
    exact ⟨0, false, rfl, by omega, by omega, B6.out⟩
   | true =>
    by_cases g3 : 300 < s + zn
    ·
     have g3i : (300 : Int) < (s : Int) + (zn : Int) := by omega
     go_wp2
     go_ret2
     exact ⟨0, false, rfl, by omega, by omega, B6.out⟩
    ·
     have g3i : ¬ (300 : Int) < (s : Int) + (zn : Int) := by omega
     go_wp2
     go_roundw
     case rel => exact ⟨k + 1, by go_num, by have := HLT.out; omega, ⟨s + zn, by go_num, by omega⟩, B6.out⟩
     case measure => simp [intOf]; have := HLT.out; omega
  ·
   obtain rfl : k = m := by omega
   clear hbl
   have hkI : ¬ (k : Int) < (k : Int) := by omega
   go_wp2
   go_ret2
   exact ⟨s, true, rfl, by omega, by omega, HBL.out⟩
theorem size_rx : ∀ (r e : Nat) (z : Int) (x : Pat) (c : List Value) (w : World), z = (r : Int) → r ≤ 1000 → rxR e w w.heap.size c x → Calls Try.prog 20 #[.agg c.toArray, .int .i64 z] w (SzR w)
 | 0, e, z, x, c, w, hz, _, h => by
  obtain rfl : z = 0 := by omega
  exact size_z e x c w h
 | r + 1, 0, _, _, _, _, _, _, h => h.elim
 | r + 1, e + 1, z, x, c, w, hz, hd, h => size_of e z (by omega) (fun x c w hx => size_rx r e (z - 1) x c w (by omega) (by omega) hx) x c w h
end Go.Proofs.Ytmfgplbfojnkdaa
namespace Go.Proofs.Ytmfgplbfojnkdaa
open Go Go.RowKit Go.ChangeShapes cl rx
def AnyB (w : World) (e : Ending) (w' : World) : Prop := ∃ b, e = .returned (.bool b) ∧ Below w.heap.size w w'
set_option maxHeartbeats 1600000 in
set_option maxRecDepth 100000 in
theorem good_any (e : Nat) (x : Pat) (c : List Value) (w : World) (h : rxR e w w.heap.size c x) : Calls Try.prog 8 #[.agg c.toArray] w (AnyB w) := by
 obtain ⟨ko, kn, kc, rfl⟩ := rx_form h
 obtain ⟨w1, hw1⟩ : ∃ W, W = w.alloc (.cells #[.int .i64 x.k, .int .u64 x.cl.a, .int .u64 x.cl.b, .int .u64 x.cl.c, .int .u64 x.cl.d, .slice ko kn kc, .int .i64 x.mn, .int .i64 x.mx] 27) := ⟨_, rfl⟩
 have b1 : Below w.heap.size w w1 := by rw [hw1]; exact below1
 have x1 : w1.heap[w.heap.size]? = some (.cells #[.int .i64 x.k, .int .u64 x.cl.a, .int .u64 x.cl.b, .int .u64 x.cl.c, .int .u64 x.cl.d, .slice ko kn kc, .int .i64 x.mn, .int .i64 x.mx] 27 (0, 0)) := by rw [hw1]; exact heap_alloc_new w _
 have HSZ := Lib.hid (size_rx 60 e 60 x _ w1 rfl (by omega) (rxR_steady e _ _ _ _ _ _ h b1 b1.size))
 have HB1 := Lib.hid b1
 have HW1 := Lib.hid hw1
 have c0 := boxc x1 0 _ rfl
 have c1 := boxc x1 1 _ rfl
 have c2 := boxc x1 2 _ rfl
 have c3 := boxc x1 3 _ rfl
 have c4 := boxc x1 4 _ rfl
 have c5 := boxc x1 5 _ rfl
 have c6 := boxc x1 6 _ rfl
 have c7 := boxc x1 7 _ rfl
 rw [hw1] at c0 c1 c2 c3 c4 c5 c6 c7
 clear h b1 x1 hw1
 go_enter Try.func8, Try.ntmps8
 go_wp2_with fail
 rw [← HW1.out]
 (with_reducible refine HSZ.out.mono ?_)
 rintro en w2 ⟨z, b, rfl, _, _, hb2⟩
 have HB2 := Lib.hid (HB1.out.trans (hb2.mono HB1.out.size))
 clear hb2 c0 c1 c2 c3 c4 c5 c6 c7
 go_wp2
 go_ret
 exact ⟨b, rfl, HB2.out⟩
set_option maxHeartbeats 12800000 in
set_option maxRecDepth 100000 in
theorem law_nright (e : Nat) (x : Pat) (c : List Value) (w : World) (h : rxR e w w.heap.size c x) : Calls Try.prog 6 #[.agg c.toArray] w (Said true w) := by
 obtain ⟨ko, kn, kc, rfl⟩ := rx_form h
 obtain ⟨P, hP⟩ : ∃ P, P = w.heap.size := ⟨_, rfl⟩
 obtain ⟨w1, hw1⟩ : ∃ W, W = w.alloc (.cells #[.int .i64 x.k, .int .u64 x.cl.a, .int .u64 x.cl.b, .int .u64 x.cl.c, .int .u64 x.cl.d, .slice ko kn kc, .int .i64 x.mn, .int .i64 x.mx] 27) := ⟨_, rfl⟩
 have b1 : Below w.heap.size w w1 := by rw [hw1]; exact below1
 have x1 : w1.heap[P]? = some (.cells #[.int .i64 x.k, .int .u64 x.cl.a, .int .u64 x.cl.b, .int .u64 x.cl.c, .int .u64 x.cl.d, .slice ko kn kc, .int .i64 x.mn, .int .i64 x.mx] 27 (0, 0)) := by rw [hw1, hP]; exact heap_alloc_new w _
 have HRX : Hid (∀ W, Below w1.heap.size w1 W → rxR e W W.heap.size [.int .i64 x.k, .int .u64 x.cl.a, .int .u64 x.cl.b, .int .u64 x.cl.c, .int .u64 x.cl.d, .slice ko kn kc, .int .i64 x.mn, .int .i64 x.mx] x) := fun W hW => by
  have hb := b1.trans (hW.mono b1.size)
  exact rxR_steady e _ _ _ _ _ _ h hb hb.size
 have HX : Hid (∀ W, Below w1.heap.size w1 W → W.heap[P]? = some (.cells #[.int .i64 x.k, .int .u64 x.cl.a, .int .u64 x.cl.b, .int .u64 x.cl.c, .int .u64 x.cl.d, .slice ko kn kc, .int .i64 x.mn, .int .i64 x.mx] 27 (0, 0))) := fun W hW => (hW.block _ (lt_of_block x1)).trans x1
 have HG := Lib.hid (good_any e x _ w1 (HRX.out w1 (Below.refl _ _)))
 have HB1 := Lib.hid b1
 have HW1 := Lib.hid hw1
 have HP := Lib.hid hP
 have c0 := boxc x1 0 _ rfl
 have c1 := boxc x1 1 _ rfl
 have c2 := boxc x1 2 _ rfl
 have c3 := boxc x1 3 _ rfl
 have c4 := boxc x1 4 _ rfl
 have c5 := boxc x1 5 _ rfl
 have c6 := boxc x1 6 _ rfl
 have c7 := boxc x1 7 _ rfl
 rw [hw1, hP] at c0 c1 c2 c3 c4 c5 c6 c7
 clear h b1 x1 hw1 hP
 go_enter Try.func6, Try.ntmps6
 go_wp2_with fail
 rw [← HW1.out, ← HP.out]
 (with_reducible refine HG.out.mono ?_)
 rintro en w2 ⟨g, rfl, hb2⟩
 have HB2 := Lib.hid hb2
 have x2 := HX.out _ hb2
 clear hb2 c0 c1 c2 c3 c4 c5 c6 c7
 cases g
 ·
  clear x2
  go_wp2_with fail
  (with_reducible refine (awake_any _).mono ?_)
  rintro en w3 ⟨rfl, hb3⟩
  have HB3 := Lib.hid (HB1.out.trans ((HB2.out.trans (hb3.mono HB2.out.size)).mono HB1.out.size))
  clear hb3
  go_wp2
  go_ret
  exact ⟨rfl, HB3.out⟩
 ·
  have HBL := Lib.hid (nf_build e x _ w2 (HRX.out w2 HB2.out))
  have d0 := boxc x2 0 _ rfl
  have d1 := boxc x2 1 _ rfl
  have d2 := boxc x2 2 _ rfl
  have d3 := boxc x2 3 _ rfl
  have d4 := boxc x2 4 _ rfl
  have d5 := boxc x2 5 _ rfl
  have d6 := boxc x2 6 _ rfl
  have d7 := boxc x2 7 _ rfl
  clear x2
  go_wp2_with fail
  (with_reducible refine HBL.out.mono ?_)
  rintro en w3 ⟨sl, rfl, ho3, hb3⟩
  clear d0 d1 d2 d3 d4 d5 d6 d7 HBL
  have HB3 := Lib.hid (HB2.out.trans (hb3.mono HB2.out.size))
  obtain ⟨es, hes⟩ : ∃ l, l = (nf.made e x).es := ⟨_, rfl⟩
  obtain ⟨sz, hsz⟩ : ∃ z, z = (nf.made e x).sz := ⟨_, rfl⟩
  obtain ⟨m, hm⟩ : ∃ m, m = es.length := ⟨_, rfl⟩
  rw [← hes, ← hm] at ho3
  rw [← hsz]
  obtain ⟨eo, ec, rfl⟩ : ∃ eo ec, sl = .slice eo m ec := by
   rcases ho3.2 with ⟨rfl, h0⟩ | ⟨g, c, cur, rfl, _⟩
   ·
    exact ⟨none, 0, by rw [h0]⟩
   ·
    exact ⟨_, _, rfl⟩
  have HO3 := Lib.hid ho3
  have HM := Lib.hid hm
  have HES := Lib.hid hes
  have HSZ := Lib.hid hsz
  clear ho3 hm hes hsz hb3
  obtain ⟨Q, hQ⟩ : ∃ Q, Q = w3.heap.size := ⟨_, rfl⟩
  by_cases hcd : nf.code e x = 0
  ·
   have hr := nf.made_rgt hcd
   have hE := nf.made_edges hcd
   rw [← HES.out, ← HSZ.out] at hr hE
   rw [hcd, if_pos rfl]
   obtain ⟨w4, hw4⟩ : ∃ W, W = w3.alloc (.cells #[.int .i64 (sz : Int), .int .i64 0, .int .i64 1, .slice eo m ec] 32) := ⟨_, rfl⟩
   have b4 : Below w3.heap.size w3 w4 := by rw [hw4]; exact below1
   have x4 : w4.heap[Q]? = some (.cells #[.int .i64 (sz : Int), .int .i64 0, .int .i64 1, .slice eo m ec] 32 (0, 0)) := by rw [hw4, hQ]; exact heap_alloc_new w3 _
   have HC : Hid (∀ W, Below w4.heap.size w4 W → Cells W W.heap.size (.slice eo m ec) m 7 (ecells es)) := fun W hW => (Cells.own HO3.out).next (b4.trans (hW.mono b4.size))
   have HXN : Hid (∀ W, Below w4.heap.size w4 W → W.heap[Q]? = some (.cells #[.int .i64 (sz : Int), .int .i64 0, .int .i64 1, .slice eo m ec] 32 (0, 0))) := fun W hW => (hW.block _ (lt_of_block x4)).trans x4
   have HR4 : Hid (Calls Try.prog 15 #[.agg #[.int .i64 (sz : Int), .int .i64 0, .int .i64 1, .slice eo m ec]] w4 fun e w' => e = .returned (.bool true) ∧ Below w4.heap.size w4 w') := nf_right sz 0 1 es eo m ec w4 hr HM.out (HC.out w4 (Below.refl _ _))
   have h400 : (sz : Int) ≤ 400 := by have := hr.top; omega
   have h400b : ¬ (400 : Int) < (sz : Int) := by omega
   have hm16 : m ≤ 1600 := by rw [HM.out]; exact hr.len
   have HEG := Lib.hid hE
   have HB4 := Lib.hid (HB1.out.trans ((HB3.out.trans (b4.mono HB3.out.size)).mono HB1.out.size))
   have c0 := boxc x4 0 _ rfl
   have c1 := boxc x4 1 _ rfl
   have c2 := boxc x4 2 _ rfl
   have c3 := boxc x4 3 _ rfl
   rw [hw4, hQ] at c0 c1 c2 c3
   have HW4 := Lib.hid hw4
   have HQ := Lib.hid hQ
   clear hr hE hw4 b4 x4 hQ hcd
   go_wp2_with fail
   rw [← HW4.out, ← HQ.out]
   (with_reducible refine HR4.out.mono ?_)
   rintro en w5 ⟨rfl, hb5⟩
   have HB5 := Lib.hid hb5
   have x5 := HXN.out _ hb5
   have d0 := boxc x5 0 _ rfl
   have d1 := boxc x5 1 _ rfl
   have d2 := boxc x5 2 _ rfl
   have d3 := boxc x5 3 _ rfl
   clear c0 c1 c2 c3 x5 hb5
   go_wp2
   go_loopw [47] (fun i wr => ∃ (j : Nat), i = .int .i64 j ∧ j ≤ m ∧ Hid (Below w4.heap.size w4 wr)) (fun i _ => m - (intOf i).toNat)
   case atStart => exact ⟨0, rfl, by omega, HB5.out⟩
   case round =>
    clear d0 d1 d2 d3
    obtain ⟨j, rfl, hj, HB⟩ := hrel
    by_cases hjt : j < m
    ·
     have hjI : (j : Int) < (m : Int) := by omega
     obtain ⟨eb, eof, rfl, heb, t0, t1, t2, t3, t4, t5, t6⟩ := ec_get (HC.out _ HB.out) HM.out hjt
     have hjl : j < es.length := by rw [← HM.out]; exact hjt
     obtain ⟨d, hd⟩ : ∃ d, d = es.getD j default := ⟨_, rfl⟩
     have hdm : d ∈ es := by rw [hd, List.getD_eq_getElem?_getD, List.getElem?_eq_getElem hjl]; exact List.getElem_mem _
     rw [← hd] at t0 t1 t2 t3 t4 t5 t6
     have hg := HEG.out d hdm
     have hf1 : ¬ (d.fr : Int) = 1 := by have := hg.nf; omega
     have hf2 : ((d.fr : Int) == 1) = false := by simpa using hf1
     have ht1 : ¬ (d.to : Int) = 0 := by have := hg.ns; omega
     have ht2 : ((d.to : Int) == 0) = false := by simpa using ht1
     have hf3 : ¬ d.fr = 1 := by have := hg.nf; omega
     have ht3 : ¬ d.to = 0 := by have := hg.ns; omega
     have HB6 := Lib.hid (HB.out.alloc HB.out.size (.cells #[.int .i64 d.fr, .int .i64 d.to, .bool d.fre, .int .u64 d.cl.a, .int .u64 d.cl.b, .int .u64 d.cl.c, .int .u64 d.cl.d] 42))
     have n6 := HXN.out _ HB6.out
     have c0 := boxc n6 0 _ rfl
     have c1 := boxc n6 1 _ rfl
     have c2 := boxc n6 2 _ rfl
     clear hd hdm hjl hg n6
     go_wp2
     go_roundw
     case rel => exact ⟨j + 1, by go_num, by omega, HB6⟩
     case measure => simp [intOf]; omega
    ·
     have hjn : m = j := by omega
     subst hjn
     go_wp2_with fail
     (with_reducible refine (awake_any _).mono ?_)
     rintro en w6 ⟨rfl, hb6⟩
     have HB6 := Lib.hid (HB4.out.trans ((HB.out.trans (hb6.mono HB.out.size)).mono HB4.out.size))
     clear hb6
     go_wp2
     go_ret
     exact ⟨rfl, HB6.out⟩
  ·
   rw [if_neg hcd]
   obtain ⟨cd, hcd2⟩ : ∃ z, z = nf.code e x := ⟨_, rfl⟩
   have HBO : Hid (decide (cd = 10) = okF 48 x) := by
    show _ = _
    rw [hcd2]
    unfold nf.code
    by_cases ho : okF 48 x = false
    ·
     rw [if_pos ho, ho]; rfl
    ·
     rw [if_neg ho]
     have ho2 : okF 48 x = true := by simpa using ho
     rw [ho2]
     have := hcd
     unfold nf.code at this
     rw [if_neg ho] at this
     split
     ·
      rfl
     ·
      rename_i hh
      rw [if_neg hh] at this
      exact absurd rfl this
   rw [← hcd2] at hcd ⊢
   have hcd3 : (cd != 0) = true := by simpa using hcd
   have hcd4 : (cd == 0) = false := by simpa using hcd
   obtain ⟨w4, hw4⟩ : ∃ W, W = w3.alloc (.cells #[.int .i64 (sz : Int), .int .i64 0, .int .i64 0, .slice eo m ec] 32) := ⟨_, rfl⟩
   have b4 : Below w3.heap.size w3 w4 := by rw [hw4]; exact below1
   have HB4 : Hid (Below w1.heap.size w1 w4) := HB3.out.trans (b4.mono HB3.out.size)
   have HRT := Lib.hid (rx_right_any e x _ w4 (HRX.out w4 HB4.out))
   obtain ⟨B, hB⟩ : ∃ B, B = okF 48 x := ⟨_, rfl⟩
   rw [← hB] at HRT HBO
   have x4 := HX.out _ HB4.out
   have c0 := boxc x4 0 _ rfl
   have c1 := boxc x4 1 _ rfl
   have c2 := boxc x4 2 _ rfl
   have c3 := boxc x4 3 _ rfl
   have c4 := boxc x4 4 _ rfl
   have c5 := boxc x4 5 _ rfl
   have c6 := boxc x4 6 _ rfl
   have c7 := boxc x4 7 _ rfl
   rw [hw4] at c0 c1 c2 c3 c4 c5 c6 c7
   have HW4 := Lib.hid hw4
   clear hw4 b4 x4 hB hcd2 hQ
   have hfin : ∀ w5 : World, Below w4.heap.size w4 w5 → Below w.heap.size w w5 := fun w5 h5 => HB1.out.trans ((HB4.out.trans (h5.mono HB4.out.size)).mono HB1.out.size)
   have HFIN := Lib.hid hfin
   clear hfin
   by_cases h10 : cd = 10
   ·
    have hBt : B = true := by rw [← HBO.out]; simp [h10]
    subst hBt
    subst h10
    clear hcd hcd3 hcd4
    go_wp2_with fail
    rw [← HW4.out]
    (with_reducible refine HRT.out.mono ?_)
    rintro en w5 ⟨rfl, hb5⟩
    have HB5 := Lib.hid hb5
    clear hb5 c0 c1 c2 c3 c4 c5 c6 c7
    go_wp2_with fail
    (with_reducible refine (awake_any _).mono ?_)
    rintro en w6 ⟨rfl, hb6⟩
    have HB6 := Lib.hid (HFIN.out _ (HB5.out.trans (hb6.mono HB5.out.size)))
    clear hb6
    go_wp2
    go_ret
    exact ⟨rfl, HB6.out⟩
   ·
    have hBf : B = false := by rw [← HBO.out]; simp [h10]
    subst hBf
    have h10b : (cd == 10) = false := by simpa using h10
    go_wp2_with fail
    rw [← HW4.out]
    (with_reducible refine HRT.out.mono ?_)
    rintro en w5 ⟨rfl, hb5⟩
    have HB5 := Lib.hid hb5
    clear hb5 c0 c1 c2 c3 c4 c5 c6 c7
    go_wp2_with fail
    (with_reducible refine (awake_any _).mono ?_)
    rintro en w6 ⟨rfl, hb6⟩
    have HB6 := Lib.hid (HFIN.out _ (HB5.out.trans (hb6.mono HB5.out.size)))
    clear hb6
    go_wp2
    go_ret
    exact ⟨rfl, HB6.out⟩
end Go.Proofs.Ytmfgplbfojnkdaa
namespace Go.Proofs.Ytmfgplbfojnkdaa.close
open Go.RowKit Go.WideShapes Go.ChangeShapes
section
variable {H : Type} {enc : TypeId × Value → H} {P : Program}
theorem trodAll_stays (hl : laidOutB P = true) {W W' : World} (hb : Below W.heap.size W W') :
  ∀ (ts : List TypeId) (vs : List Value) (ds : List (DataW H)) (ps : List MemPlace), (∀ t ∈ ts, P.readableRec t = true ∧ t < P.types.size) → (∀ x ∈ ps, x.block < W.heap.size) →
   DataW.TrodAll enc P W 0 (fun _ => true) true ts vs ds ps → DataW.TrodAll enc P W' 0 (fun b => decide (b < W.heap.size)) true ts vs ds ps := by
 intro ts
 induction ts with
 | nil =>
  intro vs ds ps _ _ h
  obtain ⟨rfl, rfl, rfl⟩ := trodAll_nil h
  exact rfl
 | cons t ts ih =>
  intro vs ds ps ht hlt h
  obtain ⟨v, vs', d, ds', p, q, rfl, rfl, rfl, h0, r0⟩ := trodAll_cons h
  have h1 := ht t (List.mem_cons_self ..)
  exact ⟨p, q, Below.trod hl h1.1 h1.2 h0 hb (fun x hx => hlt x (List.mem_append_left _ hx)),
   ih _ _ _ (fun u hu => ht u (List.mem_cons_of_mem _ hu)) (fun x hx => hlt x (List.mem_append_right _ hx)) r0, rfl⟩
theorem law_post (hl : laidOutB P = true) {f : Func} {s : ChangeSpec} {apart fresh handsOn : Bool} {W W' : World} {args : Array Value} {ds gs : List (DataW H)} {before : List MemPlace} {tb : TypeId}
  (hts : ∀ t ∈ f.params.toList, P.readableRec t = true ∧ t < P.types.size) (hvars : s.vars = []) (hrt : f.resultTypes = #[tb]) (hb4 : P.underlying tb = some .bool)
  (hW : DataW.Whole enc P f.params.toList s.vars apart W args.toList ds gs before) (hs : s.fn H (ds ++ gs) = { results := [.lit (.bool true)], args := ds, vars := [] })
  (hb : Below W.heap.size W W') : s.post enc P f apart fresh handsOn false W args (.bool true) W' := by
 have hlt : ∀ p ∈ before, p.block < W.heap.size := fun p hp => hW.lt p hp
 have hW' := hW
 obtain ⟨p, q, hA, hV, rfl, _, _⟩ := hW'
 rw [hvars] at hV
 obtain ⟨rfl, rfl⟩ := trodVars_none hV
 refine ⟨ds, [], p ++ [], [], p, [], hW, ?_, ?_, ?_, World.keptBut_mono (fun x hx => ⟨hx, Or.inr (Or.inl (by simpa using hx))⟩) (hb.frame (· ∈ p ++ [])), fun h => by cases h⟩
 ·
  rw [hs, hrt]
  exact trodAll_cons_mk (shut_bool hb4 true) trodAll_mk0
 ·
  rw [hs]
  exact trodAll_stays hl hb _ _ _ _ hts (fun x hx => hlt x (List.mem_append_left _ hx)) hA
 ·
  rw [hs, hvars]
  exact rfl
end
end Go.Proofs.Ytmfgplbfojnkdaa.close
namespace Go.Proofs.Ytmfgplbfojnkdaa
open Go Go.RowKit Go.WideShapes Go.ChangeShapes cl rx
section
variable {H : Type} {enc : TypeId × Value → H} {W : World}
set_option maxRecDepth 100000 in
theorem wf_u64 {n : Int} (h : (Lit.int .u64 n).wf = true) : 0 ≤ n ∧ n < 18446744073709551616 := by
 have : 0 ≤ n ∧ n ≤ 18446744073709551615 := by simpa [Lit.wf, IntKind.min, IntKind.max, IntKind.signed, IntKind.bits] using h
 omega
set_option maxRecDepth 100000 in
theorem cls_cells : (Try.prog).cellsOf 24 = 4 := by kernel_rfl
set_option maxRecDepth 100000 in
theorem wrd_cells : (Try.prog).cellsOf 22 = 1 := by kernel_rfl
end
end Go.Proofs.Ytmfgplbfojnkdaa
namespace Go.Proofs.Ytmfgplbfojnkdaa
open Go Go.RowKit Go.WideShapes Go.ChangeShapes cl rx
section
variable {H : Type} {enc : TypeId × Value → H} {W : World}
set_option maxRecDepth 100000 in
theorem rx_ci : Try.prog.cellsOf 3 = 1 := by kernel_rfl
set_option maxRecDepth 100000 in
theorem rx_cs : Try.prog.cellsOf 25 = 1 := by kernel_rfl
set_option maxRecDepth 100000 in
theorem rx_cr : Try.prog.cellsOf 27 = 8 := by kernel_rfl
def rxE : Rel Pat := fun w B c x => ∃ d, rxR d w B c x
set_option maxRecDepth 100000 in
theorem rxrows_sup {w : World} {B : Nat} {v : Value} {l : List Pat} (h : RowsAt 8 rxE w B v l) : ∃ d, RowsAt 8 (rxR d) w B v l := by
 obtain ⟨cs, h0, h1, h2⟩ := h
 have key : ∀ n, ∃ d, ∀ (j : Nat) (c : List Value) (x : Pat), j < n → cs[j]? = some c → l[j]? = some x → rxR d w B c x := by
  intro n
  induction n with
  | zero => exact ⟨0, fun j c x hj => absurd hj (Nat.not_lt_zero _)⟩
  | succ n ih =>
   obtain ⟨d, hd⟩ := ih
   by_cases hn : n < cs.length
   ·
    have hn2 : n < l.length := by omega
    obtain ⟨_, e, he⟩ := h1 n cs[n] l[n] (List.getElem?_eq_getElem hn) (List.getElem?_eq_getElem hn2)
    refine ⟨max d e, fun j c x hj hc hx => ?_⟩
    by_cases hjn : j = n
    ·
     subst hjn
     rw [List.getElem?_eq_getElem hn] at hc
     rw [List.getElem?_eq_getElem hn2] at hx
     cases hc; cases hx
     exact rxR_le (Nat.le_max_right _ _) he
    ·
     exact rxR_le (Nat.le_max_left _ _) (hd j c x (by omega) hc hx)
   ·
    refine ⟨d, fun j c x hj hc hx => hd j c x ?_ hc hx⟩
    have := (List.getElem?_eq_some_iff.1 hc).1
    omega
 obtain ⟨d, hd⟩ := key cs.length
 exact ⟨d, cs, h0, fun j c x hc hx => ⟨(h1 j c x hc hx).1, hd j c x (List.getElem?_eq_some_iff.1 hc).1 hc hx⟩, h2⟩
set_option maxRecDepth 100000 in
theorem rxkids_open {n : Nat} {v : Value} {x : DataW H × List MemPlace}
  (hel : ∀ (f : Nat) (cs : List Value) (y : DataW H × List MemPlace), f < n → cs.length = 8 → DataW.trod enc Try.prog W 0 (fun _ => true) true f 27 cs = some y → ∃ a : Pat, rxE W W.heap.size cs a)
  (h : DataW.trod enc Try.prog W 0 (fun _ => true) true n 25 [v] = some x) : ∃ l : List Pat, RowsAt 8 rxE W W.heap.size v l := by
 rcases DataW.trod_slice Try.underlying25 h with ⟨hcs, _⟩ | ⟨a, len, cap, elems, rest, f, hf, hcs, _, _, hle, hmax, hel2, hcell, _, _⟩
 ·
  obtain rfl := (List.cons.inj hcs).1
  exact ⟨[], RowsAt.nil _ _⟩
 ·
  obtain rfl := (List.cons.inj hcs).1
  rw [rx_cr] at hcell
  have each : ∀ i, i < len → ∃ z : List Value × Pat, z.1.length = 8 ∧ (∀ j, j < 8 → W.cell? (a.add (i * 8 + j)) = z.1[j]?) ∧ rxE W W.heap.size z.1 z.2 := fun i hi => by
   have hc := hcell i hi
   rw [List.getElem?_eq_getElem (by omega)] at hc
   obtain ⟨cs', h1, h2⟩ := Option.bind_eq_some_iff.1 hc
   obtain ⟨_, hlen, hcc⟩ := World.cells?_some h1
   obtain ⟨y, hy⟩ := hel f cs' _ (by omega) hlen h2
   refine ⟨(cs', y), hlen, fun j hj => ?_, hy⟩
   have := hcc j (by omega)
   rwa [Deep.add_add] at this
  obtain ⟨f2, hf2⟩ := Deep.choose_lt each
  have hl : ((List.range len).map fun i => (f2 i).2).length = len := by simp
  have hl1 : ((List.range len).map fun i => (f2 i).1).length = len := by simp
  have hall : ∀ c ∈ (List.range len).map (fun i => (f2 i).1), c.length = 8 := by
   intro c hc
   obtain ⟨i, hi, rfl⟩ := List.mem_map.1 hc
   exact (hf2 i (List.mem_range.1 hi)).1
  refine ⟨(List.range len).map fun i => (f2 i).2, (List.range len).map fun i => (f2 i).1, by rw [hl, hl1], fun j c y hc hy => ?_, ⟨by rw [flat_len _ hall, hl1, hl], some a, cap, by rw [hl], ⟨(fun e => by cases e), by rw [hl]; exact hle⟩, by rw [hl]; omega, fun hp => ?_⟩⟩
  ·
   have hj : j < len := by have := (List.getElem?_eq_some_iff.1 hc).1; omega
   simp only [List.getElem?_map, List.getElem?_range hj, Option.map_some, Option.some.injEq] at hc hy
   subst hc
   subst hy
   exact ⟨(hf2 j hj).1, (hf2 j hj).2.2⟩
  ·
   rw [hl] at hp
   obtain ⟨b, off, spot⟩ := a
   have hcell2 : ∀ (j : Nat) u, ((List.range len).map fun i => (f2 i).1).flatten[j]? = some u → W.cell? ((⟨b, off, spot⟩ : Addr).add j) = some u := by
    intro j u hu
    have hjl : j < len * 8 := by
     have := (List.getElem?_eq_some_iff.1 hu).1
     rw [flat_len _ hall, hl1] at this; exact this
    have hq : j / 8 < len := by omega
    have := (hf2 (j / 8) hq).2.1 (j % 8) (by omega)
    rw [show j / 8 * 8 + j % 8 = j by omega] at this
    rw [this]
    have hfg := flat_get _ hall (j / 8) (f2 (j / 8)).1 (j % 8) (by simp [hq]) (by omega)
    rw [show j / 8 * 8 + j % 8 = j by omega] at hfg
    rw [← hfg]; exact hu
   have h0 : (((List.range len).map fun i => (f2 i).1).flatten)[0]? = some ((((List.range len).map fun i => (f2 i).1).flatten)[0]'(by rw [flat_len _ hall, hl1]; omega)) := List.getElem?_eq_getElem _
   have hz := hcell2 0 _ h0
   have hspot : spot = none := by simpa [Addr.add] using World.cell?_spot hz
   subst hspot
   refine ⟨b, off, rfl, ?_, fun j u hu => ?_⟩
   ·
    have hz := hz
    rw [Addr.add_lit] at hz
    exact World.block_lt_of_cell? _ _ hz
   ·
    have := hcell2 j u hu
    rwa [Addr.add_lit] at this
set_option maxRecDepth 100000 in
theorem rx_open : ∀ (fuel : Nat) (cs : List Value) (x : DataW H × List MemPlace), cs.length = 8 → DataW.trod enc Try.prog W 0 (fun _ => true) true fuel 27 cs = some x → ∃ a : Pat, rxE W W.heap.size cs a := by
 intro fuel
 induction fuel using Nat.strongRecOn with
 | _ fuel ih =>
  intro cs x hl h
  obtain ⟨xs, n, hn, _, _, hxl, hp⟩ := DataW.trod_struct Try.underlying27 h
  match cs, hl with
  | [c0, c1, c2, c3, c4, c5, c6, c7], _ =>
   have g0 := hp 0 _ rfl
   have g1 := hp 1 _ rfl
   have g2 := hp 2 _ rfl
   have g3 := hp 3 _ rfl
   have g4 := hp 4 _ rfl
   have hx : ∀ i, i < 5 → ∃ y, xs[i]? = some y := fun i hi => ⟨_, List.getElem?_eq_getElem (by rw [hxl]; exact hi)⟩
   obtain ⟨y0, e0⟩ := hx 0 (by omega)
   obtain ⟨y1, e1⟩ := hx 1 (by omega)
   obtain ⟨y2, e2⟩ := hx 2 (by omega)
   obtain ⟨y3, e3⟩ := hx 3 (by omega)
   obtain ⟨y4, e4⟩ := hx 4 (by omega)
   rw [e0] at g0
   rw [e1] at g1
   rw [e2] at g2
   rw [e3] at g3
   rw [e4] at g4
   simp [rx_ci, rx_cs, cls_cells] at g0 g1 g2 g3 g4
   obtain ⟨k, ek, _, _⟩ := DataW.trod_int Try.underlying3 g0
   obtain ⟨mn, em, _, _⟩ := DataW.trod_int Try.underlying3 g3
   obtain ⟨mx, ex, _, _⟩ := DataW.trod_int Try.underlying3 g4
   simp only [List.cons.injEq, and_true] at ek em ex
   subst ek; subst em; subst ex
   obtain ⟨z0, z1, z2, z3, m, hx, hy0, hy1, hy2, hy3⟩ := trod_array4 Try.underlying24 wrd_cells g1
   obtain ⟨x0, f0, rfl, w0⟩ := DataW.trod_int Try.underlying22 hy0
   obtain ⟨x1, f1, rfl, w1⟩ := DataW.trod_int Try.underlying22 hy1
   obtain ⟨x2, f2, rfl, w2⟩ := DataW.trod_int Try.underlying22 hy2
   obtain ⟨x3, f3, rfl, w3⟩ := DataW.trod_int Try.underlying22 hy3
   simp at f0 f1 f2 f3
   subst f0 f1 f2 f3
   have v0 := wf_u64 w0
   have v1 := wf_u64 w1
   have v2 := wf_u64 w2
   have v3 := wf_u64 w3
   obtain ⟨ks, hK⟩ := rxkids_open (n := n) (fun f cs y hf hl hy => ih f (by omega) cs y hl hy) g2
   obtain ⟨d, hK⟩ := rxrows_sup hK
   obtain ⟨ko, kc, rfl, _⟩ := hK.form
   refine ⟨.mk k ⟨x0.toNat, x1.toNat, x2.toNat, x3.toNat⟩ ks mn mx, d + 1, ko, _, kc, ?_, hK⟩
   simp only [Pat.k, Pat.cl, Pat.mn, Pat.mx, Int.toNat_of_nonneg v0.1, Int.toNat_of_nonneg v1.1, Int.toNat_of_nonneg v2.1, Int.toNat_of_nonneg v3.1]
set_option maxRecDepth 100000 in
theorem open_rx {r : Reach} {b0 : Nat} {v : Value} {d : DataW H} {ps : List MemPlace} (hval : Value.okWide Try.prog W r b0 27 v) (hd : DataW.Trod enc Try.prog W 0 (fun _ => true) true 27 v d ps) : ∃ (e : Nat) (c : List Value) (x : Pat), v = .agg c.toArray ∧ rxR e W W.heap.size c x := by
 obtain ⟨cs, rfl, hsz⟩ := okWide_struct Try.underlying27 hval
 rw [rx_cr] at hsz
 obtain ⟨fuel, hf⟩ := hd
 obtain ⟨x, e, hx⟩ := rx_open fuel cs.toList _ (by rw [Array.length_toList]; exact hsz) hf
 exact ⟨e, cs.toList, x, by rw [Array.toArray_toList], hx⟩
end
end Go.Proofs.Ytmfgplbfojnkdaa
