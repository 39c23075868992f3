/- the document's cursors: the least number of a cursor that is not below one; Now; All. -/
import Derived.Test.YtojngbobecdpeaaCrIn
import Derived.Test.YtojngbobecdpeaaCrLeast
namespace Go.Proofs.Ytojngbobecdpeaa
open Go Go.RowKit Go.ChangeShapes at_ pm cl
set_option maxHeartbeats 3200000 in
set_option maxRecDepth 100000 in
theorem rfrom_cu (e : Nat) (n : Int) (x : Cur) (c : List Value) (w : World) (h : curR e w w.heap.size c x) (ok : x.Ok) : Calls Try.prog 35 #[.agg c.toArray, .int .i64 n] w (LstA (Cur.lst x.nums n) w) := by
  have HL : Hid (∀ n W, Below w.heap.size w W → Calls Try.prog 48 #[.agg c.toArray, .int .i64 n] W (LstA (Cur.lst x.uni n) W)) := fun n W hW => rleast_cu n e x c W (curR_steady e _ _ _ _ _ _ h hW hW.size) ok
  have HI : Hid (∀ n W, Below w.heap.size w W → Calls Try.prog 49 #[.agg c.toArray, .int .i64 n] W (Said (has x.nums n) W)) := fun n W hW => rin_cu n e x c W (curR_steady e _ _ _ _ _ _ h hW hW.size) ok
  have HGU := Lib.hid ok.uni
  have HGN := Lib.hid ok.gd
  obtain ⟨lo, ln, lc, ko, kn, kc, rfl⟩ := cur_form h
  obtain ⟨W2, hW2⟩ : ∃ W, W = w.alloc (.cells #[.int .i64 x.k, .slice lo ln lc, .int .i64 x.a, .slice ko kn kc] 25) := ⟨_, rfl⟩
  have b2 : Below w.heap.size w W2 := by rw [hW2]; exact below1
  obtain ⟨q0, hq0⟩ : ∃ q, q = w.heap.size := ⟨_, rfl⟩
  have x2 : W2.heap[q0]? = some (.cells #[.int .i64 x.k, .slice lo ln lc, .int .i64 x.a, .slice ko kn kc] 25) := by rw [hW2, hq0]; exact heap_alloc_new _ _
  have X2 := Lib.hid x2
  have HW2 := Lib.hid hW2
  have HQ0 := Lib.hid hq0
  have B2 := Lib.hid b2
  obtain ⟨r, hr⟩ : ∃ r, r = Cur.lst x.nums n := ⟨_, rfl⟩
  rw [← hr]
  have HRR := Lib.hid hr
  clear h ok hW2 hq0 b2 x2 hr
  go_enter Try.func35, Try.ntmps35
  go_wp2
  rw [← HW2.out, ← HQ0.out]
  go_loopw [1] (fun nv wr => ∃ z : Int, nv = .int .i64 z ∧ Hid (Cur.lst x.nums z = r) ∧ Below W2.heap.size W2 wr) (fun nv _ => x.uni.countP (fun t => decide (intOf nv ≤ t)))
  case atStart => exact ⟨n, rfl, HRR.out.symm, Below.refl _ _⟩
  case round =>
    obtain ⟨z, rfl, HZ, hbl⟩ := hrel
    have HBL := Lib.hid hbl
    have BW := Lib.hid (B2.out.trans (hbl.mono B2.out.size))
    have XR := (hbl.block _ (lt_of_block X2.out)).trans X2.out
    have c0 := boxc XR 0 _ rfl
    have c1 := boxc XR 1 _ rfl
    have c2 := boxc XR 2 _ rfl
    have c3 := boxc XR 3 _ rfl
    have HC := Lib.hid (HL.out z wr BW.out)
    have HF := Lib.hid (Cur.lst_first (z := z) HGN.out.1 HGU.out.1.1 HGU.out.2)
    have HU := Lib.hid (fun t (h : Cur.lst x.uni z = some t) => HGU.out.1.2 t (Cur.lst_some HGU.out.1.1 h).1)
    obtain ⟨s, hs⟩ : ∃ s, s = Cur.lst x.uni z := ⟨_, rfl⟩
    rw [← hs] at HC HF HU
    clear hbl hs XR
    go_wp2_with fail
    (with_reducible refine HC.out.mono ?_)
    rintro e3 w3 ⟨rfl, b3⟩
    have B3 := Lib.hid (HBL.out.trans (b3.mono HBL.out.size))
    have C3 := Lib.hid (BW.out.trans (b3.mono BW.out.size))
    have X3 := (B3.out.block _ (lt_of_block X2.out)).trans X2.out
    clear b3 c0 c1 c2 c3 HC
    cases s with
    | none =>
      have HN : Hid (r = none) := by show _ = _; rw [← HZ.out]; exact HF.out.1 rfl
      simp only [Option.getD_none, Option.isSome_none]
      go_wp2
      refine bodyPost_ret (v := .tuple #[.int .i64 0, .bool false]) (by simp [results, Try.results35, go_sem]) rfl ?_
      rw [HN.out]; exact ⟨rfl, C3.out⟩
    | some y =>
      have hyb := HU.out y rfl
      simp only [Option.getD_some, Option.isSome_some]
      have c0 := boxc X3 0 _ rfl
      have c1 := boxc X3 1 _ rfl
      have c2 := boxc X3 2 _ rfl
      have c3 := boxc X3 3 _ rfl
      have HC := Lib.hid (HI.out y w3 C3.out)
      obtain ⟨g, hg⟩ : ∃ g, g = has x.nums y := ⟨_, rfl⟩
      rw [← hg] at HC
      have HG := Lib.hid hg
      obtain ⟨hy0, hy1⟩ := hyb
      have hyw : IntKind.i64.wrap (y + 1) = y + 1 := IntWalk.i64_in _ (by omega)
      clear hg X3
      go_wp2_with fail
      (with_reducible refine HC.out.mono ?_)
      rintro e4 w4 ⟨rfl, b4⟩
      have B4 := Lib.hid (B3.out.trans (b4.mono B3.out.size))
      have C4 := Lib.hid (C3.out.trans (b4.mono C3.out.size))
      clear b4 c0 c1 c2 c3
      cases g with
      | true =>
        have HN : Hid (r = some y) := by show _ = _; rw [← HZ.out]; exact (HF.out.2 y rfl).1 (has_iff.1 HG.out.symm)
        go_wp2
        refine bodyPost_ret (v := .tuple #[.int .i64 y, .bool true]) (by simp [results, Try.results35, go_sem]) rfl ?_
        rw [HN.out]; exact ⟨rfl, C4.out⟩
      | false =>
        have HN := Lib.hid ((HF.out.2 y rfl).2 (has_not.1 HG.out.symm))
        have HZ2 : Hid (Cur.lst x.nums (y + 1) = r) := by show _ = _; rw [← HN.out.1]; exact HZ.out
        go_wp2
        go_roundw
        case rel => exact ⟨y + 1, rfl, HZ2, B4.out⟩
        case measure => exact HN.out.2
set_option maxHeartbeats 3200000 in
set_option maxRecDepth 100000 in
theorem rnow_cu (d : Nat) (x : Cur) (c : List Value) (w : World) (h : curR d w w.heap.size c x) : Calls Try.prog 11 #[.agg c.toArray] w (LstA x.now w) := by
  have HR : Hid (∀ W, Below w.heap.size w W → Calls Try.prog 13 #[.agg c.toArray] W (Said (x.right 8) W)) := fun W hW => rright_cu d x c W (curR_steady d _ _ _ _ _ _ h hW hW.size)
  have HL : Hid (x.right 8 = true → ∀ W, Below w.heap.size w W → Calls Try.prog 35 #[.agg c.toArray, .int .i64 0] W (LstA (Cur.lst x.nums 0) W)) := fun hr W hW => rfrom_cu d 0 x c W (curR_steady d _ _ _ _ _ _ h hW hW.size) ⟨8, hr⟩
  unfold Cur.now
  obtain ⟨b, hb⟩ : ∃ b, b = x.right 8 := ⟨_, rfl⟩
  rw [← hb] at HR HL ⊢
  obtain ⟨lo, ln, lc, ko, kn, kc, rfl⟩ := cur_form h
  obtain ⟨W2, hW2⟩ : ∃ W, W = w.alloc (.cells #[.int .i64 x.k, .slice lo ln lc, .int .i64 x.a, .slice ko kn kc] 25) := ⟨_, rfl⟩
  have b2 : Below w.heap.size w W2 := by rw [hW2]; exact below1
  obtain ⟨q0, hq0⟩ : ∃ q, q = w.heap.size := ⟨_, rfl⟩
  have x2 : W2.heap[q0]? = some (.cells #[.int .i64 x.k, .slice lo ln lc, .int .i64 x.a, .slice ko kn kc] 25) := by rw [hW2, hq0]; exact heap_alloc_new _ _
  have X2 := Lib.hid x2
  have HW2 := Lib.hid hW2
  have HQ0 := Lib.hid hq0
  have B2 := Lib.hid b2
  have HR2 := Lib.hid (HR.out _ b2)
  clear h hW2 hq0 b2 x2 hb
  cases b with
  | false =>
    rw [if_neg (by decide)]
    go_enter Try.func11, Try.ntmps11
    go_wp2_with fail
    rw [← HW2.out, ← HQ0.out]
    (with_reducible refine HR2.out.mono ?_)
    rintro e w3 ⟨rfl, b3⟩
    have B3 := Lib.hid (B2.out.trans (b3.mono B2.out.size))
    clear b3
    go_wp2
    refine bodyPost_ret (v := .tuple #[.int .i64 0, .bool false]) (by simp [results, Try.results11, go_sem]) rfl ⟨rfl, B3.out⟩
  | true =>
    rw [if_pos rfl]
    obtain ⟨r, hr⟩ : ∃ r, r = Cur.lst x.nums 0 := ⟨_, rfl⟩
    rw [← hr] at HL ⊢
    clear hr
    go_enter Try.func11, Try.ntmps11
    go_wp2_with fail
    rw [← HW2.out, ← HQ0.out]
    (with_reducible refine HR2.out.mono ?_)
    rintro e w3 ⟨rfl, b3⟩
    have B3 := Lib.hid (B2.out.trans (b3.mono B2.out.size))
    have X3 := Lib.hid ((b3.block _ (lt_of_block X2.out)).trans X2.out)
    have HC := Lib.hid (HL.out (by first | rfl | trivial) _ B3.out)
    have c0 := boxc X3.out 0 _ rfl
    have c1 := boxc X3.out 1 _ rfl
    have c2 := boxc X3.out 2 _ rfl
    have c3 := boxc X3.out 3 _ rfl
    clear b3
    go_wp2_with fail
    (with_reducible refine HC.out.mono ?_)
    rintro e w4 ⟨rfl, b4⟩
    have B4 := Lib.hid (B3.out.trans (b4.mono B3.out.size))
    clear b4
    go_wp2
    refine bodyPost_ret (v := .tuple #[.int .i64 (r.getD 0), .bool r.isSome]) (by simp [results, Try.results11, go_sem]) rfl ⟨rfl, B4.out⟩
set_option maxHeartbeats 3200000 in
set_option maxRecDepth 100000 in
theorem rall_cu (d : Nat) (x : Cur) (c : List Value) (w : World) (h : curR d w w.heap.size c x) : Calls Try.prog 21 #[.agg c.toArray] w (Owned x.allN w) := by
  have HR : Hid (∀ W, Below w.heap.size w W → Calls Try.prog 13 #[.agg c.toArray] W (Said (x.right 8) W)) := fun W hW => rright_cu d x c W (curR_steady d _ _ _ _ _ _ h hW hW.size)
  have HL : Hid (x.right 8 = true → ∀ n W, Below w.heap.size w W → Calls Try.prog 35 #[.agg c.toArray, .int .i64 n] W (LstA (Cur.lst x.nums n) W)) := fun hr n W hW => rfrom_cu d n x c W (curR_steady d _ _ _ _ _ _ h hW hW.size) ⟨8, hr⟩
  have HGD : Hid (x.right 8 = true → Cur.Gd x.nums) := fun hr => Cur.right_gd 8 x hr
  unfold Cur.allN
  obtain ⟨b, hb⟩ : ∃ b, b = x.right 8 := ⟨_, rfl⟩
  rw [← hb] at HR HL HGD ⊢
  obtain ⟨lo, ln, lc, ko, kn, kc, rfl⟩ := cur_form h
  obtain ⟨W2, hW2⟩ : ∃ W, W = w.alloc (.cells #[.int .i64 x.k, .slice lo ln lc, .int .i64 x.a, .slice ko kn kc] 25) := ⟨_, rfl⟩
  have b2 : Below w.heap.size w W2 := by rw [hW2]; exact below1
  obtain ⟨q0, hq0⟩ : ∃ q, q = w.heap.size := ⟨_, rfl⟩
  have x2 : W2.heap[q0]? = some (.cells #[.int .i64 x.k, .slice lo ln lc, .int .i64 x.a, .slice ko kn kc] 25) := by rw [hW2, hq0]; exact heap_alloc_new _ _
  have X2 := Lib.hid x2
  have HW2 := Lib.hid hW2
  have HQ0 := Lib.hid hq0
  have B2 := Lib.hid b2
  have HR2 := Lib.hid (HR.out _ b2)
  clear h hW2 hq0 b2 x2 hb
  cases b with
  | false =>
    rw [if_neg (by decide)]
    go_enter Try.func21, Try.ntmps21
    go_wp2_with fail
    rw [← HW2.out, ← HQ0.out]
    (with_reducible refine HR2.out.mono ?_)
    rintro e w3 ⟨rfl, b3⟩
    have B3 := Lib.hid (B2.out.trans (b3.mono B2.out.size))
    clear b3
    go_wp2
    go_ret
    exact ⟨_, rfl, World.ownsRow_nil _ _ _ _, B3.out⟩
  | true =>
    rw [if_pos rfl]
    obtain ⟨L, hL⟩ : ∃ L, L = x.nums := ⟨_, rfl⟩
    rw [← hL] at HL HGD ⊢
    replace HGD := Lib.hid (HGD.out (by first | rfl | trivial))
    replace HL := Lib.hid (HL.out (by first | rfl | trivial))
    clear hL
    go_enter Try.func21, Try.ntmps21
    go_wp2_with fail
    rw [← HW2.out, ← HQ0.out]
    (with_reducible refine HR2.out.mono ?_)
    rintro e w3 ⟨rfl, b3⟩
    have B3 := Lib.hid (B2.out.trans (b3.mono B2.out.size))
    have C3 := Lib.hid b3
    clear b3
    have HS3 : Hid (w.heap.size ≤ w3.heap.size) := B3.out.size
    have XW := Lib.hid ((C3.out.block _ (lt_of_block X2.out)).trans X2.out)
    go_wp2
    go_loopw [3, 4] (fun v nv wr => ∃ (k : Nat) (z : Int) (ao : Option Addr) (cap : Nat), nv = .int .i64 z ∧ Hid (Cur.lst L z = L[k]?) ∧ k ≤ L.length ∧ v = .slice ao k cap ∧ Hid (wr.ownsRow w3.heap.size 3 1 v k (i64s (L.take k))) ∧ Below w3.heap.size w3 wr) (fun v _ _ => L.length - lenOf v)
    case atStart => exact ⟨0, 0, none, 0, rfl, Cur.lst_zero HGD.out, Nat.zero_le _, rfl, World.ownsRow_nil _ _ _ _, Below.refl _ _⟩
    case round =>
      obtain ⟨k, z, ao, cap, rfl, HZ, hk, rfl, HO, hbl⟩ := hrel
      have HBL := Lib.hid hbl
      have BW := Lib.hid (B3.out.trans (hbl.mono B3.out.size))
      have XR := Lib.hid ((hbl.block _ (lt_of_block XW.out)).trans XW.out)
      have c0 := boxc XR.out 0 _ rfl
      have c1 := boxc XR.out 1 _ rfl
      have c2 := boxc XR.out 2 _ rfl
      have c3 := boxc XR.out 3 _ rfl
      have HC := Lib.hid (HL.out z wr BW.out)
      obtain ⟨s, hs⟩ : ∃ s, s = Cur.lst L z := ⟨_, rfl⟩
      have HS : Hid (s = L[k]?) := by show _ = _; rw [hs]; exact HZ.out
      rw [← hs] at HC
      clear hbl hs
      go_wp2_with fail
      (with_reducible refine HC.out.mono ?_)
      rintro e4 w4 ⟨rfl, b4⟩
      have B4 := Lib.hid (HBL.out.trans (b4.mono HBL.out.size))
      have C4 := Lib.hid (BW.out.trans (b4.mono BW.out.size))
      have O4 := Lib.hid (own_stay HO.out b4)
      clear b4 c0 c1 c2 c3 HC HO
      cases s with
      | none =>
        have hkl : k = L.length := by
          have := HS.out
          rcases Nat.lt_or_ge k L.length with h | h
          · rw [List.getElem?_eq_getElem h] at this; cases this
          · omega
        have HKL := Lib.hid hkl
        simp only [Option.getD_none, Option.isSome_none]
        clear hkl hk
        go_wp2
        go_ret
        refine ⟨_, rfl, ?_, C4.out⟩
        have hO := at_.base_le O4.out HS3.out
        rw [List.take_of_length_le (by rw [HKL.out]; exact Nat.le_refl _)] at hO
        rw [← HKL.out]; exact hO
      | some y =>
        have hkl : k < L.length := by
          have := HS.out
          rcases Nat.lt_or_ge k L.length with h | h
          · exact h
          · rw [List.getElem?_eq_none h] at this; cases this
        have hyE : y = L.getD k 0 := by
          have := HS.out
          rw [List.getElem?_eq_getElem hkl] at this
          rw [Option.some.inj this]; simp [List.getD, hkl]
        obtain ⟨hy0, hy1⟩ : 0 ≤ y ∧ y ≤ 1099511627776 := HGD.out.2 y (by rw [hyE]; exact mem_get hkl)
        have hlen := Cur.gd_len HGD.out
        have HTK : Hid (i64s (L.take (k + 1)) = i64s (L.take k) ++ [.int .i64 y]) := by
          show _ = _
          rw [take_snoc hkl, i64s_app, ← hyE]; rfl
        have HNX : Hid (Cur.lst L (y + 1) = L[k + 1]?) := by show _ = _; rw [hyE]; exact Cur.lst_next HGD.out.1 hkl
        have hkb : (k + 1) * 8 ≤ 140737488355328 := by omega
        have hszr := B4.out.size
        have hyw : IntKind.i64.wrap (y + 1) = y + 1 := IntWalk.i64_in _ (by omega)
        simp only [Option.getD_some, Option.isSome_some]
        clear hyE hlen
        go_wp2_with (at_builtin; refine kit.app1 (.tmp 19) (.tmp 21) 22 rfl rfl w3.heap.size Try.underlying22 infoInt rfl (by decide) (by decide) O4.out rfl rfl rfl (by intro u hu; simp at hu; subst hu; rfl) hkb hszr ?_)
        intro v' w5 hown' hb5
        obtain ⟨ao5, cap5, rfl⟩ := own_slice hown'
        have HO5 : Hid (w5.ownsRow w3.heap.size 3 1 (.slice ao5 (k + 1) cap5) (k + 1) (i64s (L.take (k + 1)))) := by
          show World.ownsRow _ _ _ _ _ _ _
          rw [HTK.out]; exact hown'
        have B5 := Lib.hid (B4.out.trans hb5)
        clear hown' hb5
        go_wp2
        go_roundw
        case rel => exact ⟨k + 1, y + 1, ao5, cap5, rfl, HNX, by omega, rfl, HO5, B5.out⟩
        case measure => simp [lenOf]; omega
end Go.Proofs.Ytojngbobecdpeaa
