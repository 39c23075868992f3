/- The document's one and Decode by their contracts. -/
import Derived.Test.YtniphmfkccaccaaBlkRefMath
import Derived.Test.YtniphmfkccaccaaRefGet
namespace Go.Proofs.Ytniphmfkccaccaa
open Go.RowKit Go.ChangeShapes at_ cl

def OneP (r : Option (List Int × Int)) (m : Nat) (w : World) (e : Ending) (w' : World) : Prop :=
  (r = none ∧ e = .returned (.tuple #[.slice none 0 0, .int .i64 0, .int .i64 3]) ∧ Below w.heap.size w w') ∨
  (∃ (v : Value) (L : List Int) (p : Int), r = some (L, p) ∧ e = .returned (.tuple #[v, .int .i64 p, .int .i64 0]) ∧ L.length = m ∧ w'.ownsRow w.heap.size 3 1 v m (i64s L) ∧ Below w.heap.size w w')
theorem lit_own (w : World) (o : Obj) (u : Value) (e : TypeId) :
    ((w.alloc o).alloc (.cells #[u] e)).ownsRow w.heap.size e 1 (.slice (some ⟨w.heap.size + 1, 0, none⟩) 1 1) 1 [u] ∧ Below w.heap.size w ((w.alloc o).alloc (.cells #[u] e)) := by
  have hz : (w.alloc o).heap.size = w.heap.size + 1 := by simp
  have hb := (Below.refl w.heap.size w).alloc (Nat.le_refl _) o
  refine ⟨?_, hb.alloc (by omega) _⟩
  have := World.ownsRow_lit (base := w.heap.size) (e := e) (size := 1) (w.alloc o) #[u] 1 (by omega) (by simp [maxLen]) rfl
  rw [hz] at this
  exact this

set_option maxHeartbeats 6400000 in
set_option maxRecDepth 100000 in
theorem rone_any (D : ByteArray) (x a0 : Int) (m1 : Nat) (w : World) (hD : D.size ≤ 100000) (hm : m1 < 16) :
    Calls Try.prog 26 #[.string D, .agg #[.int .i64 x, .int .i64 a0], .int .i64 ((m1 : Int) + 1)] w (OneP (bm.oneF (kit.bytes D) x a0 m1) (m1 + 1) w) := by
  have HGET : Hid (∀ (a : Int) (W : World), Calls Try.prog 29 #[.string D, .int .i64 a] W (Trip (vm.get (kit.bytes D) a) W)) := fun a W => rget_any D a W hD
  obtain ⟨B, hB⟩ : ∃ B, B = kit.bytes D := ⟨_, rfl⟩
  rw [← hB] at HGET ⊢
  clear hB hD
  have HF : Hid (∀ W', bm.oneF B x a0 m1 = none → Below w.heap.size w W' → OneP (bm.oneF B x a0 m1) (m1 + 1) w (.returned (.tuple #[.slice none 0 0, .int .i64 0, .int .i64 3])) W') := fun W' h0 h => Or.inl ⟨h0, rfl, h⟩
  have HT : Hid (∀ W' v (K : List Int) (p : Int), bm.oneF B x a0 m1 = some (K, p) → W'.ownsRow w.heap.size 3 1 v (m1 + 1) (i64s K) → Below w.heap.size w W' → OneP (bm.oneF B x a0 m1) (m1 + 1) w (.returned (.tuple #[v, .int .i64 p, .int .i64 0])) W') := fun W' v K p h0 h1 h2 => Or.inr ⟨v, K, p, h0, rfl, (bm.one_len _ _ _ h0).1, h1, h2⟩
  have hb0 : Below w.heap.size w (w.alloc (.cells #[.int .i64 x, .int .i64 a0] 46)) := (Below.refl _ _).alloc (Nat.le_refl _) _
  by_cases hx : 0 ≤ x ∧ x ≤ 1099511627776
  case neg =>
    have HNO := Lib.hid (bm.one_bad (B := B) (a := a0) hx m1)
    by_cases hx0 : x < 0
    · clear hx
      go_enter Try.func26, Try.ntmps26
      go_wp2
      go_ret3
      exact HF.out _ HNO.out hb0
    · have hx1 : 1099511627776 < x := by omega
      clear hx
      go_enter Try.func26, Try.ntmps26
      go_wp2
      go_ret3
      exact HF.out _ HNO.out hb0
  have HZ : Hid (bm.oneF B x a0 0 = some ([x], a0)) := by show _ = _; rw [bm.oneF, if_pos hx]
  obtain ⟨hx0, hx1⟩ := hx
  have hnx0 : ¬ x < 0 := by omega
  have hnx1 : ¬ 1099511627776 < x := by omega
  go_enter Try.func26, Try.ntmps26
  go_wp2
  go_loopw [9, 10, 11, 12, 13, 29] (fun v u10 _ _ _ i wr => ∃ (j : Nat) (p : Int) (K : List Int) (ao : Option Addr) (cap : Nat), i = .int .i64 j ∧ j ≤ m1 ∧ v = .slice ao (j + 1) cap ∧ u10 = .int .i64 p ∧ Hid (bm.oneF B x a0 j = some (K, p)) ∧ Hid (wr.ownsRow w.heap.size 3 1 (.slice ao (j + 1) cap) (j + 1) (i64s K)) ∧ Below w.heap.size w wr) (fun _ _ _ _ _ i _ => m1 - (intOf i).toNat)
  case atStart =>
    exact ⟨0, a0, [x], _, _, rfl, by omega, rfl, rfl, HZ.out, (lit_own _ _ _ _).1, (lit_own _ _ _ _).2⟩
  case round =>
    obtain ⟨j, p, K, ao, cap, rfl, hj, rfl, rfl, HK, HO, hbl⟩ := hrel
    by_cases hlt : j < m1
    · have hjI : (j : Int) < (m1 : Int) := by omega
      obtain ⟨hlen, hl0, hl1⟩ := bm.one_len _ _ _ HK.out
      have hlas : K.getD j 0 = bm.las K := by unfold bm.las; rw [hlen, Nat.add_sub_cancel]
      have hat : At wr wr.heap.size (.slice ao (j + 1) cap) K := by have h := HO.out; rw [← hlen] at h ⊢; exact at_.own h
      obtain ⟨ao', cap', hv, hv1, hv2, hc⟩ := hat
      simp only [Value.slice.injEq] at hv
      obtain ⟨rfl, hv3, rfl⟩ := hv
      obtain ⟨b, o, rfl, hbB, hcell⟩ := hc (by omega)
      have ck := hcell j (by omega)
      rw [hlas] at ck
      have HSP := Lib.hid (bm.one_stop (B := B) (x := x) (a := a0) (p := p) (j := j) (L := K) HK.out)
      have HG := Lib.hid (HGET.out p)
      unfold Trip at HG
      have hgl := get_le B p
      obtain ⟨g, hg⟩ : ∃ g, g = vm.get B p := ⟨_, rfl⟩
      rw [← hg] at HG HSP hgl
      have HGG := Lib.hid hg
      obtain ⟨y, hy⟩ : ∃ y, y = bm.las K := ⟨_, rfl⟩
      rw [← hy] at ck hl0 hl1 HSP
      have HY := Lib.hid hy
      clear hg hy hcell hc hlen hlas hv1 hv2 hv3
      obtain ⟨gp, ga, gc⟩ := g
      simp only at HG HSP hgl
      have hz := hbl.size
      have HM : Hid (∃ i, m1 = j + 1 + i) := ⟨m1 - (j + 1), by omega⟩
      by_cases hc : gc = 0
      · subst hc
        by_cases hgy : (gp : Int) ≤ 1099511627775 - y
        · obtain ⟨z, hz0⟩ : ∃ z, y + (gp : Int) + 1 = z := ⟨_, rfl⟩
          have HST1 : Hid (bm.oneF B x a0 (j + 1) = some (K ++ [z], (ga : Int))) := by
            have h := bm.one_step (B := B) (x := x) (a := a0) (p := p) (j := j) (L := K) (d := gp) (q := ga) HK.out HGG.out.symm (by rw [← HY.out]; exact hgy)
            rw [← HY.out, hz0] at h
            exact h
          have hng : ¬ 1099511627775 - y < (gp : Int) := by omega
          have hz1 : 0 ≤ z := by omega
          have hz2 : z ≤ 1099511627776 := by omega
          go_wp2_with (first
            | (go_at_call 29; (with_reducible refine (HG.out _).mono ?_); rintro e w9 ⟨rfl, rfl⟩)
            | (at_builtin; refine kit.app1 (.tmp 49) (.tmp 59) 22 rfl rfl w.heap.size Try.underlying22 infoInt rfl (by decide) (by decide) HO.out rfl rfl rfl (by intro u hu; simp at hu; subst hu; rfl) (by omega) hz ?_))
          intro v' w5 hown' hb5
          have hbl5 := hbl.trans hb5
          have HO5 : Hid (w5.ownsRow w.heap.size 3 1 v' (j + 1 + 1) (i64s (K ++ [z]))) := by
            show World.ownsRow _ _ _ _ _ _ _
            rw [i64s_app]; exact hown'
          obtain ⟨a6, c6, rfl⟩ := own_slice hown'
          clear hown'
          go_wp2
          go_roundw
          case rel => exact ⟨j + 1, ga, K ++ [z], _, _, by go_num, by omega, rfl, rfl, HST1, HO5, hbl5⟩
          case measure => simp [intOf]; omega
        · have hng : 1099511627775 - y < (gp : Int) := by omega
          have HNO : Hid (bm.oneF B x a0 m1 = none) := by
            obtain ⟨i, hi⟩ := HM.out
            show _ = _
            rw [hi]
            exact HSP.out (fun h => hgy h.2) i
          clear hgy
          go_wp2_with (go_at_call 29; (with_reducible refine (HG.out _).mono ?_); rintro e w9 ⟨rfl, rfl⟩)
          go_ret3
          exact HF.out _ HNO.out hbl
      · have hcne : ((gc : Int) != 0) = true := by simp; omega
        have hcne2 : ((gc : Int) == 0) = false := by simp; omega
        have HNO : Hid (bm.oneF B x a0 m1 = none) := by
          obtain ⟨i, hi⟩ := HM.out
          show _ = _
          rw [hi]
          exact HSP.out (fun h => hc h.1) i
        clear hc
        go_wp2_with (go_at_call 29; (with_reducible refine (HG.out _).mono ?_); rintro e w9 ⟨rfl, rfl⟩)
        go_ret3
        exact HF.out _ HNO.out hbl
    · obtain rfl : j = m1 := by omega
      go_wp2
      go_ret3
      exact HT.out _ _ _ _ HK.out HO.out hbl
end Go.Proofs.Ytniphmfkccaccaa
