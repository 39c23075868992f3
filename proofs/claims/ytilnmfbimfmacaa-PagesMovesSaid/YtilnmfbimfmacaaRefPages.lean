/- the document's All. -/
import Derived.Test.YtilnmfbimfmacaaPages
namespace Go.Proofs.Ytilnmfbimfmacaa
open Go.RowKit Go.ChangeShapes Go.Joins cl pg

set_option maxHeartbeats 3200000 in
set_option maxRecDepth 100000 in
theorem rall_any (l : List ByteArray) (v : Value) (most : Int) (w : World) (h : Strs w w.heap.size v l) (hok : okL l) :
    Calls Try.prog 13 #[v, .int .i64 most] w (RetPages (all l most) w) := by
  by_cases hlow : most < 1
  · have HR : Hid (all l most = []) := all_low hlow
    rw [HR.out]
    go_enter Try.func13, Try.ntmps13
    go_wp2
    go_ret
    exact ⟨_, [], rfl, rfl, World.ownsRow_nil _ _ _ _, fun p hp => (by cases hp), Below.refl _ _⟩
  · obtain ⟨m, hm⟩ : ∃ m : Nat, most = (m : Int) := ⟨most.toNat, by omega⟩
    have hmp : 0 < m := by omega
    have HM := Lib.hid hm
    have HOK := Lib.hid hok
    have hl2 := hok.2.2.1
    have HC : Hid (∀ (W : World) (a : ByteArray), Below w.heap.size w W → Calls Try.prog 11 #[v, .string a, .int .i64 most] W (RetPage (cut l a most) W)) := fun W a hb =>
      rcut_any l v a most W ((h.below hb).mono hb.size) hok.1 hok.2.2.1
    have HB0 := Lib.hid (beh_empty hok)
    obtain ⟨n, hn⟩ : ∃ n, n = l.length := ⟨_, rfl⟩
    rw [← hn] at hl2
    have HN := Lib.hid hn
    clear hok h hm hn
    go_enter Try.func13, Try.ntmps13
    go_wp2
    go_loopg [5, 6, 7] (n + 1) (fun g vo va _ wr => ∃ (k : Nat) (a : ByteArray) (ps : List (Value × Pg)), va = .string a ∧ n + 1 - k ≤ g ∧ k ≤ n ∧ Hid (beh l a = min (k * m) n) ∧ Hid (k = 0 ∨ k * m < n) ∧ Hid (ps.map (·.2) = (List.range k).map (page l m)) ∧ Hid (wr.ownsRow w.heap.size 26 3 vo ps.length (pcells ps)) ∧ PgsOk wr w.heap.size ps ∧ Below w.heap.size w wr)
    case atStart => exact ⟨0, .empty, [], rfl, by omega, Nat.zero_le _, by rw [Nat.zero_mul, Nat.zero_min]; exact HB0.out, Or.inl rfl, rfl, World.ownsRow_nil _ _ _ _, fun p hp => (by cases hp), Below.refl _ _⟩
    case round =>
      obtain ⟨k, a, ps, rfl, hg, hkn, HB, HP, HR, HO, hpok, hbl⟩ := hrel
      have hpl : ps.length = k := by have := congrArg List.length HR.out; simpa using this
      have HPL := Lib.hid hpl
      have HPO := Lib.hid hpok
      clear hpl hpok
      by_cases hlt : k * m < n
      · have hb : beh l a = k * m := by rw [HB.out]; omega
        have hlt' : k * m < l.length := by rw [← HN.out]; exact hlt
        have HCP := Lib.hid (cut_at HM.out hmp hlt' hb)
        have HB' : Hid (beh l (page l m k).after = min ((k + 1) * m) n) := by rw [HN.out]; exact page_beh HOK.out.1 hmp hlt'
        have hlen := page_len hmp hlt'
        have hH := HC.out wr a hbl
        rw [HCP.out] at hH
        have hkm : k < n := by
          have : k ≤ k * m := Nat.le_mul_of_pos_right _ hmp
          omega
        obtain ⟨pg, hpg⟩ : ∃ pg, pg = page l m k := ⟨_, rfl⟩
        have HPG := Lib.hid hpg
        rw [← hpg] at HB' hlen hH
        obtain ⟨pl, pa, pm⟩ := pg
        obtain ⟨q, hq⟩ : ∃ q, q = pl.length := ⟨_, rfl⟩
        have HQ := Lib.hid hq
        simp only at hlen HB'
        rw [← hq, ← HN.out] at hlen
        obtain ⟨hl1, hl3⟩ := hlen
        have HLT := Lib.hid hlt
        clear hb hlt hlt' hpg hq
        go_wp2_with fail
        refine hH.mono ?_
        rintro e w2 ⟨v2, rfl, ho2, hb2⟩
        rw [← HQ.out] at ho2
        obtain ⟨a2, c2, rfl, hc2⟩ := (own_next (w := wr) ho2 HQ.out).form' HQ.out
        have hbl2 := hbl.trans (hb2.mono hbl.size)
        have HPO2 : Hid (PgsOk w2 w.heap.size (ps ++ [(.slice a2 q c2, ⟨pl, pa, pm⟩)])) := (HPO.out.next hb2).snoc (by
          have := ownsRow_le ho2 hbl.size
          rw [HQ.out] at this ⊢; exact this)
        have HO2 : Hid (w2.ownsRow w.heap.size 26 3 u5 ps.length (pcells ps)) := own_stay HO.out hb2
        have hsz2 := hbl2.size
        clear ho2 hH hb2
        go_wp2_with (at_builtin; refine app1g (.tmp 18) (.tmp 20) 28 rfl rfl w.heap.size Try.underlying28 infoPage rfl (by decide) (by decide) (HO2.out.alloc _) rfl (by rw [World.size_alloc]; rfl) rfl (by intro u hu; simp at hu; rcases hu with rfl | rfl | rfl <;> rfl) (by rw [HPL.out]; omega) (by rw [World.size_alloc]; omega) ?_)
        intro v' w5 hown' hg5
        have HO5 : Hid (w5.ownsRow w.heap.size 26 3 v' (ps ++ [(Value.slice a2 q c2, (⟨pl, pa, pm⟩ : Pg))]).length (pcells (ps ++ [(Value.slice a2 q c2, (⟨pl, pa, pm⟩ : Pg))]))) := by
          show World.ownsRow _ _ _ _ _ _ _
          rw [List.length_append, pcells_app]; exact hown'
        have HPO5 : Hid (PgsOk w5 w.heap.size (ps ++ [(Value.slice a2 q c2, (⟨pl, pa, pm⟩ : Pg))])) := ((HPO2.out.alloc _).alloc _).grown ((HO2.out.alloc _).alloc _) (by decide) hg5
        have hbl5 : Below w.heap.size w w5 := ((hbl2.alloc hsz2 _).alloc (by rw [World.size_alloc]; omega) _).grown hg5 (by simp; omega) (fun g hg => (HO2.out.lt g hg).1)
        have HR5 : Hid ((ps ++ [(Value.slice a2 q c2, (⟨pl, pa, pm⟩ : Pg))]).map (·.2) = (List.range (k + 1)).map (page l m)) := by
          show _ = _
          rw [range_snoc, List.map_append, HR.out, ← HPG.out]; rfl
        have p5 : w5.cell? ⟨w2.heap.size, 1, none⟩ = some (.string pa) := p_cell HO2.out hg5 rfl
        have p6 : w5.cell? ⟨w2.heap.size, 2, none⟩ = some (.bool pm) := p_cell HO2.out hg5 rfl
        have HPM : Hid (pm = decide ((k + 1) * m < l.length)) := by have := congrArg Pg.more HPG.out; exact this
        clear hown' hg5
        cases pm with
        | true =>
          have HP5 : Hid (k + 1 = 0 ∨ (k + 1) * m < n) := Or.inr (by rw [HN.out]; exact of_decide_eq_true HPM.out.symm)
          go_wp2
          go_roundg (n + 1 - (k + 1))
          case measure => omega
          case rel => exact ⟨k + 1, pa, _, rfl, Nat.le_refl _, hkm, HB', HP5, HR5, HO5, HPO5, hbl5⟩
        | false =>
          have HA : Hid ((List.range (k + 1)).map (page l m) = all l most) := all_pages HM.out hmp (by have := of_decide_eq_false HPM.out.symm; omega) (Or.inr (by have := HLT.out; rw [← HN.out]; simpa using this))
          go_wp2
          go_ret
          exact ⟨_, _, rfl, by rw [HR5.out, HA.out], HO5.out, HPO5.out, hbl5⟩
      · have hb : beh l a = l.length := by rw [HB.out, ← HN.out]; omega
        have HA : Hid ((List.range k).map (page l m) = all l most) := all_pages HM.out hmp (by rw [← HN.out]; omega) (by rcases HP.out with h | h; exact Or.inl h; omega)
        obtain ⟨e1, e2, e3⟩ := cut_end (most := most) hb
        have hH := HC.out wr a hbl
        have HEE := Lib.hid (show cut l a most = ⟨[], a, false⟩ by
          cases hc : cut l a most with
          | mk x y z => rw [hc] at e1 e2 e3; simp only at e1 e2 e3; rw [e1, e2, e3])
        rw [HEE.out] at hH
        clear hb e1 e2 e3
        go_wp2_with fail
        refine hH.mono ?_
        rintro e w2 ⟨v2, rfl, ho2, hb2⟩
        obtain ⟨a2, c2, rfl, hc2⟩ := (own_next (w := wr) (l := []) ho2 rfl).form' (n := 0) rfl
        have hbl2 := hbl.trans (hb2.mono hbl.size)
        have HPO2 := Lib.hid (HPO.out.next hb2)
        have HO2 : Hid (w2.ownsRow w.heap.size 26 3 u5 ps.length (pcells ps)) := own_stay HO.out hb2
        have hsz2 := hbl2.size
        clear ho2 hH hb2
        go_wp2
        go_ret
        exact ⟨_, ps, rfl, by rw [HR.out, HA.out], HO2.out.alloc _, HPO2.out.alloc _, hbl2.alloc hsz2 _⟩
end Go.Proofs.Ytilnmfbimfmacaa
