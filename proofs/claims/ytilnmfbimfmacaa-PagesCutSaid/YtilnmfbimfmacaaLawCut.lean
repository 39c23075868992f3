/- PagesCut, walked. -/
import Derived.Test.YtilnmfbimfmacaaPgAt
namespace Go.Proofs.Ytilnmfbimfmacaa
open Go.RowKit Go.ChangeShapes Go.Joins cl pg

theorem later3 {W W' : World} {v0 : Value} {a : ByteArray} {m : Bool} {t : TypeId} (hb : Below (W.heap.size + 1) (W.alloc (.cells #[v0, .string a, .bool m] t)) W') :
    W'.cell? ⟨W.heap.size, 0, none⟩ = some v0 ∧ W'.cell? ⟨W.heap.size, 1, none⟩ = some (.string a) ∧ W'.cell? ⟨W.heap.size, 2, none⟩ = some (.bool m) := ⟨later hb rfl, later hb rfl, later hb rfl⟩
theorem pages_eq {ps qs : List (Value × Pg)} {l : List Pg} (h : ps.map (·.2) = l) (g : qs.map (·.2) = l) : ps.length = qs.length ∧ ∀ (j : Nat) lv lu p q, ps[j]? = some (lv, p) → qs[j]? = some (lu, q) → p = q := by
  refine ⟨by have := congrArg List.length (h.trans g.symm); simpa using this, fun j lv lu p q hp hq => ?_⟩
  have h1 := map_get h hp
  have h2 := map_get g hq
  rw [h1] at h2
  exact Option.some.inj h2

set_option maxHeartbeats 6400000 in
set_option maxRecDepth 100000 in
theorem lawcut_any (l : List ByteArray) (v : Value) (a : ByteArray) (most : Int) (w : World) (h : Strs w w.heap.size v l) (hs : a.size ≤ 9223372036854775807) :
    Calls Try.prog 3 #[v, .string a, .int .i64 most] w (Said true w) := by
  have E0 := env1 h
  obtain ⟨ao, cap, rfl, _, _⟩ := h.form
  clear h
  have HRI := Lib.hid (crise E0 (.head _))
  by_cases h13 : 700 < a.size
  · go_enter Try.func3, Try.ntmps3
    go_wp2_with fail
    refine HRI.out.mono ?_
    rintro e w1 ⟨r, rfl, HOK, rfl⟩
    cases r <;>
    · go_wp2_with fail
      refine (awake_any _).mono ?_
      rintro e w1 ⟨rfl, hb⟩
      go_wp2
      go_ret
      exact ⟨rfl, hb⟩
  · go_enter Try.func3, Try.ntmps3
    go_wp2_with fail
    refine HRI.out.mono ?_
    rintro e w1 ⟨r, rfl, HOK, rfl⟩
    cases r with
    | false =>
      go_wp2_with fail
      refine (awake_any _).mono ?_
      rintro e w1 ⟨rfl, hb⟩
      go_wp2
      go_ret
      exact ⟨rfl, hb⟩
    | true =>
      have hok : okL l := HOK.out rfl
      clear HOK HRI
      obtain ⟨pg, hpg⟩ : ∃ pg, pg = cut l a most := ⟨_, rfl⟩
      obtain ⟨pl, pa, pm⟩ := pg
      go_wp2_with fail
      refine (ccut E0 (.head _) hok.1 hok.2.2.1 a most hpg.symm).mono ?_
      rintro e W1 ⟨v1, rfl, E1, _⟩
      go_wp2_with fail
      refine (crcut E1 (.tail _ (.head _)) hok.1 hok.2.2.1 a most hpg.symm).mono ?_
      rintro e W2 ⟨v2, rfl, E2, _⟩
      obtain ⟨q1, hq1⟩ : ∃ q, q = pl.length := ⟨_, rfl⟩
      obtain ⟨a1, c1, rfl⟩ := E2.form (.tail _ (.head _)) hq1
      obtain ⟨a2, c2, rfl⟩ := E2.form (.head _) hq1
      have HQ1 := Lib.hid hq1
      clear hpg hq1 E0 E1
      have E3 := (E2.alloc (.cells #[.slice a1 q1 c1, .string pa, .bool pm] 26)).alloc (.cells #[.slice a2 q1 c2, .string pa, .bool pm] 26)
      go_wp2_with fail
      refine (call1 E3 (.tail _ (.tail _ (.head _))) hok most).mono ?_
      rintro e W3 ⟨v3, ps, rfl, HM, hpa, E4, hb3⟩
      have hz3 := hb3.size
      simp only [World.size_alloc] at hz3
      go_wp2_with fail
      refine (crall1 E4 (.tail _ (.tail _ (.head _))) hok most).mono ?_
      rintro e W4 ⟨v4, qs, rfl, HM2, hpb, E5, hb4⟩
      have hpa4 := hpa.next hb4
      obtain ⟨hlen, heq⟩ := pages_eq HM.out HM2.out
      have HEQ := Lib.hid heq
      have hz4 := hb4.size
      have hA : Hid (∀ W : World, Below W4.heap.size W4 W → (W.cell? ⟨W2.heap.size, 0, none⟩ = some (.slice a1 q1 c1) ∧ W.cell? ⟨W2.heap.size, 1, none⟩ = some (.string pa) ∧ W.cell? ⟨W2.heap.size, 2, none⟩ = some (.bool pm)) ∧
          (W.cell? ⟨W2.heap.size + 1, 0, none⟩ = some (.slice a2 q1 c2) ∧ W.cell? ⟨W2.heap.size + 1, 1, none⟩ = some (.string pa) ∧ W.cell? ⟨W2.heap.size + 1, 2, none⟩ = some (.bool pm))) := fun W hb => by
        have h34 := hb3.trans (hb4.mono hb3.size)
        have h3W := h34.trans (hb.mono h34.size)
        refine ⟨later3 (((Below.refl _ _).alloc (by simp) _).trans (h3W.mono (by simp))), ?_⟩
        have := later3 (W := W2.alloc (.cells #[.slice a1 q1 c1, .string pa, .bool pm] 26)) (h3W.mono (by simp))
        simpa using this
      obtain ⟨n, hn⟩ : ∃ n, n = ps.length := ⟨_, rfl⟩
      have hn2 : n = qs.length := by rw [hn, hlen]
      have hn200 : n ≤ 9223372036854775807 := by
        obtain ⟨_, _, _, _, h9⟩ := hpa4.1.form
        rw [hn]; unfold maxLen at h9; exact h9
      obtain ⟨a3, c3, rfl⟩ := hpa4.form hn
      obtain ⟨a4, c4, rfl⟩ := hpb.form hn2
      have HPA := Lib.hid hpa4
      have HPB := Lib.hid hpb
      have HN := Lib.hid hn
      have HN2 := Lib.hid hn2
      have HE5 := Lib.hid E5
      have hbw : Below w.heap.size w W4 := E5.1
      have HOKL := Lib.hid hok
      have hg2 : W2.heap.size + 1 < W4.heap.size := by omega
      clear hn hn2 hpa hpa4 hpb hok E2 E3 E4 E5 hb3 hb4 hlen heq HM HM2
      go_wp2
      go_loopw [11, 42] (fun _ i wr => ∃ k q : Nat, i = .int .i64 k ∧ k ≤ n ∧ wr = W4.drewN q) (fun _ i _ => n - (intOf i).toNat)
      case atStart => exact ⟨0, 0, rfl, by omega, rfl⟩
      case round =>
        obtain ⟨k, q, rfl, hk, rfl⟩ := hrel
        by_cases hlt : k < n
        · obtain ⟨b3, o3, l3, p3, rfl, hB3, hj3, x0, x1, x2, hS3⟩ := HPA.out.get HN.out hlt
          obtain ⟨b4, o4, l4, p4, rfl, hB4, hj4, y0, y1, y2, hS4⟩ := HPB.out.get HN2.out hlt
          obtain rfl : p3 = p4 := HEQ.out k l3 l4 p3 p4 hj3 hj4
          obtain ⟨wr, hwr⟩ : ∃ x, x = W4.drewN q := ⟨_, rfl⟩
          have HWR := Lib.hid hwr
          have hS3' : Strs wr wr.heap.size l3 p3.list := by rw [hwr]; exact hS3
          have hS4' : Strs wr wr.heap.size l4 p3.list := by rw [hwr]; exact hS4
          replace x0 : wr.cell? ⟨b3, o3 + k * 3, none⟩ = some l3 := by rw [hwr]; exact x0
          replace x1 : wr.cell? ⟨b3, o3 + k * 3 + 1, none⟩ = some (.string p3.after) := by rw [hwr]; exact x1
          replace x2 : wr.cell? ⟨b3, o3 + k * 3 + 2, none⟩ = some (.bool p3.more) := by rw [hwr]; exact x2
          replace y0 : wr.cell? ⟨b4, o4 + k * 3, none⟩ = some l4 := by rw [hwr]; exact y0
          replace y1 : wr.cell? ⟨b4, o4 + k * 3 + 1, none⟩ = some (.string p3.after) := by rw [hwr]; exact y1
          replace y2 : wr.cell? ⟨b4, o4 + k * 3 + 2, none⟩ = some (.bool p3.more) := by rw [hwr]; exact y2
          rw [← hwr]
          have HTX : Hid (∀ j : Nat, Calls Try.prog 14 #[l3, l4] (wr.drewN j) (fun e W' => e = .returned (.bool true) ∧ ∃ m, W' = (wr.drewN j).drewN m)) := fun j => by
            have h9 := texts_q p3.list p3.list l3 l4 (wr.drewN j) hS3' hS4'
            rw [decide_eq_true rfl] at h9
            exact h9
          obtain ⟨ta, hta⟩ : ∃ t, t = p3.after := ⟨_, rfl⟩
          obtain ⟨tm, htm⟩ : ∃ t, t = p3.more := ⟨_, rfl⟩
          rw [← hta] at x1 y1
          rw [← htm] at x2 y2
          have hkI : (k : Int) < (n : Int) := by omega
          clear hj3 hj4 hS3 hS4 hS3' hS4' hta htm hwr
          go_wp2
          go_quiet ((go_at_call 14; exact Calls.quiet_of (HTX.out _)))
          go_wp2
          go_roundw
          case rel => exact ⟨k + 1, q + nq, by go_num, by omega, by rw [HWR.out, World.drewN_drewN]⟩
          case measure => simp [intOf]; omega
        · obtain ⟨⟨p0, p1, p2⟩, r0, r1, r2⟩ := hA.out (W4.drewN q) (below_drewN (Below.refl _ _) q)
          have E6 : Env w (W4.drewN q) _ := HE5.out.step (below_drewN (Below.refl _ _) q)
          have HOK1 := HOKL.out.1
          have HOK2 := HOKL.out.2.2.1
          have hz6 : (W4.drewN q).heap.size = W4.heap.size := rfl
          have hbq : Below W4.heap.size W4 (W4.drewN q) := below_drewN (Below.refl _ _) q
          obtain ⟨W6, hW6⟩ : ∃ W6, W6 = W4.drewN q := ⟨_, rfl⟩
          rw [← hW6] at p0 p1 p2 r0 r1 r2 E6 hz6 hbq ⊢
          clear hW6
          have hg6 : W2.heap.size + 1 < W6.heap.size := by omega
          go_wp2_with fail
          refine (ctexts E6 (.tail _ (.head _)) (.head _) rfl).mono ?_
          rintro e W7 ⟨rfl, E7, hb7⟩
          obtain ⟨⟨s0, s1, s2⟩, t0, t1, t2⟩ := hA.out W7 (hbq.trans (hb7.mono (by omega)))
          clear p0 p1 p2 r0 r1 r2 E6
          go_wp2_with fail
          refine (cskip E7 (.tail _ (.tail _ (.head _))) HOK1 HOK2 a).mono ?_
          rintro e W8 ⟨v8, rfl, E8, _⟩
          clear s0 s1 s2 t0 t1 t2 E7
          go_wp2_with fail
          refine (crskip E8 (.tail _ (.tail _ (.tail _ (.head _)))) HOK1 HOK2 a).mono ?_
          rintro e W9 ⟨v9, rfl, E9, _⟩
          go_wp2_with fail
          refine (ctexts E9 (.tail _ (.head _)) (.head _) rfl).mono ?_
          rintro e W10 ⟨rfl, E10, _⟩
          go_wp2_with fail
          refine (awake_any _).mono ?_
          rintro e w5 ⟨rfl, hb⟩
          have hfin := (E10.step hb).1
          go_wp2
          go_ret
          exact ⟨rfl, hfin⟩
end Go.Proofs.Ytilnmfbimfmacaa
