/- place.Groups by its contract; the law's long. -/
import Derived.Test.YthhkocbfeiccdaaLabels
import Derived.Test.YthhkocbfeiccdaaGrpMath
import Derived.Test.YthhkocbfeiccdaaAwk
import Derived.Lib.OwnBridge
import Derived.Sort.OwnSortedInts
import Derived.Lib.SmallJoins
namespace Go.Proofs.Ythhkocbfeiccdaa
open Go.RowKit Go.ChangeShapes Go.Joins at_ cl

def gsOf (l : List Lab) (g : Int) : List Int := l.map fun x => grp (kit.bytes x.1) g
def Fit (l : List Lab) : Prop := l.length ≤ 60 ∧ ∀ x ∈ l, x.1.size ≤ 1000
theorem gs_len (l : List Lab) (g : Int) : (gsOf l g).length = l.length := by simp [gsOf]
theorem gs_get {l : List Lab} {g : Int} {k : Nat} (hk : k < l.length) : (gsOf l g).getD k 0 = grp (kit.bytes (l.getD k (.empty, .empty)).1) g := by simp [gsOf, List.getD, hk]
theorem fit_get {l : List Lab} (h : Fit l) {k : Nat} (hk : k < l.length) : (l.getD k (.empty, .empty)).1.size ≤ 1000 := by
  have : l.getD k (.empty, .empty) ∈ l := by simp [List.getD, hk]
  exact h.2 _ this

/-- the library's sort at a slice of the call's own -/
theorem sort_own (g n c base : Nat) (zs : List Int) (w : World) (hn : n = zs.length) (h : w.ownsRow base 3 1 (.slice (some ⟨g, 0, none⟩) n c) n (i64s zs)) (hl : zs.length ≤ 1000) :
    Calls Try.prog 23 #[.slice (some ⟨g, 0, none⟩) n c] w fun e w' => e = .returned (.tuple #[]) ∧ w'.ownsRow base 3 1 (.slice (some ⟨g, 0, none⟩) n c) n (i64s (zs.mergeSort fun x y => decide (x ≤ y))) ∧ Below base w w' := by
  subst hn
  obtain ⟨g', c', e, hb, hg, hnc, hcm, _, hH⟩ := Lib.holds_of_ownsRow (enc := Value.int .i64) h (by intro e; cases e)
  simp only [Value.slice.injEq, Option.some.injEq, Addr.mk.injEq, and_true, true_and] at e
  obtain ⟨rfl, rfl⟩ := e
  refine (Try.slices_Sort_int g 0 c zs w hH hg (by omega)).mono ?_
  rintro e w' ⟨rfl, q, os, rfl⟩
  refine ⟨rfl, ?_, (Below.refl base w).grown (grownBy_sortedI _) (by omega) (fun k hk => by obtain rfl := Option.some.inj hk; exact hb)⟩
  rcases h.2 with ⟨e0, _⟩ | ⟨g', cap', cur, e0, hb', hg', hn', hm', hs', ht'⟩
  · cases e0
  · simp only [Value.slice.injEq, Option.some.injEq, Addr.mk.injEq, and_true, true_and] at e0
    obtain ⟨rfl, rfl⟩ := e0
    exact ownsRow_sortedI (by simp) hb' hg' hn' hm' hs'
theorem compact_own (g n c base : Nat) (zs : List Int) (w : World) (hn : n = zs.length) (h : w.ownsRow base 3 1 (.slice (some ⟨g, 0, none⟩) n c) n (i64s zs)) (hl : zs.length ≤ 1000) :
    Calls Try.prog 24 #[.slice (some ⟨g, 0, none⟩) n c] w fun e w' => ∃ v, e = .returned v ∧ w'.ownsRow base 3 1 v (Lib.compact zs).length (i64s (Lib.compact zs)) ∧ Below base w w' := by
  subst hn
  obtain ⟨g', c', e, hb, hg, hnc, hcm, _, hH⟩ := Lib.holds_of_ownsRow (enc := Value.int .i64) h (by intro e; cases e)
  simp only [Value.slice.injEq, Option.some.injEq, Addr.mk.injEq, and_true, true_and] at e
  obtain ⟨rfl, rfl⟩ := e
  have hcl : (Lib.compact zs).length ≤ zs.length := by
    unfold Lib.compact Lib.compactUpTo
    rw [List.length_map]
    refine Nat.le_trans (List.length_filter_le _ _) ?_
    simp
  refine (Try.slices_Compact_int g 0 c zs w hH (by omega) hnc).mono ?_
  rintro e w' ⟨rfl, q, rfl⟩
  refine ⟨_, rfl, ?_, Lib.below_putRow (Below.refl _ _) hb⟩
  have := Lib.ownsRow_putRow (q := q) (ys := Lib.compact zs ++ List.replicate (zs.length - (Lib.compact zs).length) 0) h (by simp; omega) hcl
  rw [List.take_left] at this
  exact this

theorem take_gs {l : List Lab} {g : Int} {k : Nat} (hk : k < l.length) : (0 : Int) :: (gsOf l g).take (k + 1) = (0 :: (gsOf l g).take k) ++ [grp (kit.bytes (l.getD k (.empty, .empty)).1) g] := by
  rw [List.take_succ_eq_append_getElem (by rw [gs_len]; exact hk)]
  have := gs_get (g := g) hk
  simp only [List.getD, List.getElem?_eq_getElem (show k < (gsOf l g).length by rw [gs_len]; exact hk), Option.getD_some] at this
  rw [this]; rfl

set_option maxHeartbeats 3200000 in
set_option maxRecDepth 100000 in
theorem groups_any (l : List Lab) (v : Value) (g : Int) (w : World) (h : Labs w w.heap.size v l) (hf : Fit l) :
    Calls Try.prog 13 #[v, .int .i64 g] w (Owned (pm.set (0 :: gsOf l g)) w) := by
  have HF := Lib.hid hf
  obtain ⟨n, hn⟩ : ∃ n, n = l.length := ⟨_, rfl⟩
  have hn60 : n ≤ 60 := by rw [hn]; exact hf.1
  obtain ⟨ao, cap, rfl⟩ : ∃ ao cap, v = .slice ao n cap := by
    obtain ⟨ao, cap, e, _⟩ := h.form
    exact ⟨ao, cap, by rw [hn]; exact e⟩
  have HC := Lib.hid h
  have HN := Lib.hid hn
  clear hf h hn
  go_enter Try.func13, Try.ntmps13
  go_wp2
  go_loopw [5, 7, 11] (fun vo _ i wr => ∃ k : Nat, i = .int .i64 k ∧ k ≤ n ∧ Hid (wr.ownsRow w.heap.size 3 1 vo (k + 1) (i64s (0 :: (gsOf l g).take k))) ∧ Below w.heap.size w wr) (fun _ _ i _ => n - (intOf i).toNat)
  case atStart => exact ⟨0, rfl, by omega, World.ownsRow_lit _ _ _ (Nat.le_refl _) (by simp [maxLen]) rfl, (Below.refl _ _).alloc (Nat.le_refl _) _⟩
  case round =>
    obtain ⟨k, rfl, hk, HO, hbl⟩ := hrel
    have hzr := hbl.size
    by_cases hlt : k < n
    · have hkl : k < l.length := by rw [← HN.out]; exact hlt
      obtain ⟨b, off, rfl, hB, x0, x1⟩ := HC.out.get HN.out hlt
      have HT := Lib.hid (take_gs (g := g) hkl)
      have hsz := fit_get HF.out hkl
      obtain ⟨⟨xa, xb⟩, hx⟩ : ∃ x, x = l.getD k (.empty, .empty) := ⟨_, rfl⟩
      rw [← hx] at x0 x1 HT hsz
      have c0 := (hbl.cell (p := ⟨b, off + k * 2, none⟩) hB).trans x0
      have c1 := (hbl.cell (p := ⟨b, off + k * 2 + 1, none⟩) hB).trans x1
      simp only at c0 c1 HT hsz
      obtain ⟨r, hr⟩ : ∃ r, r = grp (kit.bytes xa) g := ⟨_, rfl⟩
      have HG : Hid (∀ W : World, Calls Try.prog 10 #[.string xa, .int .i64 g] W fun e w' => e = .returned (.int .i64 r) ∧ W = w') := fun W => by rw [hr]; exact group_any xa g W (by omega)
      rw [← hr] at HT
      have hkI : (k : Int) < (n : Int) := by omega
      clear hx hr x0 x1
      go_wp2_with (first
        | (go_at_call 10; (with_reducible refine (HG.out _).mono ?_); rintro e w9 ⟨rfl, rfl⟩)
        | (at_builtin; refine kit.app1 (.tmp 15) (.tmp 20) 27 rfl rfl w.heap.size Try.underlying27 infoInt rfl (by decide) (by decide) (HO.out.alloc _) rfl (by rw [World.size_alloc]; rfl) rfl (by intro u hu; simp at hu; subst hu; rfl) (by omega) (by rw [World.size_alloc]; omega) ?_))
      intro v' w5 hown' hb5
      have HO5 : Hid (w5.ownsRow w.heap.size 3 1 v' (k + 1 + 1) (i64s (0 :: (gsOf l g).take (k + 1)))) := by
        show World.ownsRow _ _ _ _ _ _ _
        rw [HT.out, i64s_app]; exact hown'
      have hbl5 := (hbl.alloc hzr (.cells #[.string xa, .string xb] 41)).trans hb5
      clear hown' hb5
      go_wp2
      go_roundw
      case rel => exact ⟨k + 1, by go_num, by omega, HO5, hbl5⟩
      case measure => simp [intOf]; omega
    · have hkn : k = n := by omega
      have hgl : (0 :: (gsOf l g).take k : List Int) = 0 :: gsOf l g := by rw [List.take_of_length_le (by rw [gs_len, ← HN.out]; omega)]
      have hO := HO.out
      rw [hgl] at hO
      have hlen : k + 1 = (0 :: gsOf l g : List Int).length := by rw [List.length_cons, gs_len, ← HN.out, hkn]
      obtain ⟨zs, hzs⟩ : ∃ zs : List Int, zs = 0 :: gsOf l g := ⟨_, rfl⟩
      have hzl : zs.length ≤ 1000 := by rw [hzs, ← hlen]; omega
      rw [← hzs] at hO hlen
      obtain ⟨q, hq⟩ : ∃ q, q = k + 1 := ⟨_, rfl⟩
      rw [← hq] at hO hlen
      obtain ⟨g1, c1, rfl⟩ := ownsRow_form hO (by omega)
      have HS := Lib.hid (sort_own g1 q c1 _ zs wr hlen hO hzl)
      have HZS := Lib.hid hzs
      have HLEN : Hid (q = (zs.mergeSort fun x y => decide (x ≤ y)).length) := by show _ = _; rw [hlen]; simp
      have hzl2 : (zs.mergeSort fun x y => decide (x ≤ y)).length ≤ 1000 := by simpa using hzl
      rw [← hzs]
      clear hgl hO hlen hzs hkn hq
      go_wp2_with fail
      refine HS.out.mono ?_
      rintro e w2 ⟨rfl, ho2, hb2⟩
      have HK := Lib.hid (compact_own g1 q c1 _ _ w2 HLEN.out ho2 hzl2)
      have hb20 := hbl.trans hb2
      clear ho2
      go_wp2_with fail
      refine HK.out.mono ?_
      rintro e w3 ⟨v3, rfl, ho3, hb3⟩
      have HO3 := Lib.hid ho3
      have hfin := hb20.trans hb3
      clear ho3
      go_wp2
      go_ret
      exact ⟨v3, rfl, (by rw [← HZS.out]; exact HO3.out), hfin⟩

/-- the law's long: whether labels are few, and their names short -/
def Long (l : List Lab) (w : World) (e : Ending) (w' : World) : Prop := ∃ r : Bool, e = .returned (.bool r) ∧ Hid (r = false → Fit l) ∧ Below w.heap.size w w'
set_option maxHeartbeats 1600000 in
set_option maxRecDepth 100000 in
theorem long_any (l : List Lab) (v : Value) (w : World) (h : Labs w w.heap.size v l) (hs : ∀ x ∈ l, x.1.size ≤ maxLen ∧ x.2.size ≤ maxLen) :
    Calls Try.prog 8 #[v] w (Long l w) := by
  obtain ⟨n, hn⟩ : ∃ n, n = l.length := ⟨_, rfl⟩
  obtain ⟨ao, cap, rfl, hn63⟩ : ∃ ao cap, v = .slice ao n cap ∧ n ≤ 9223372036854775807 := by
    obtain ⟨ao, cap, e, _, h9⟩ := h.form
    unfold maxLen at h9
    exact ⟨ao, cap, by rw [hn]; exact e, by rw [hn]; exact h9⟩
  have HC := Lib.hid h
  have HN := Lib.hid hn
  have HS := Lib.hid hs
  clear h hn hs
  go_enter Try.func8, Try.ntmps8
  go_wp2
  go_loopw [4, 7] (fun _ i wr => ∃ k : Nat, i = .int .i64 k ∧ k ≤ n ∧ Hid (∀ j, j < k → (l.getD j (.empty, .empty)).1.size ≤ 1000) ∧ Below w.heap.size w wr) (fun _ i _ => n - (intOf i).toNat)
  case atStart => exact ⟨0, rfl, by omega, fun j hj => absurd hj (Nat.not_lt_zero _), Below.refl _ _⟩
  case round =>
    obtain ⟨k, rfl, hk, HK, hbl⟩ := hrel
    have hzr := hbl.size
    by_cases hlt : k < n
    · obtain ⟨b, off, rfl, hB, x0, x1⟩ := HC.out.get HN.out hlt
      have hsz := (HS.out (l.getD k (.empty, .empty)) (by have : k < l.length := by rw [← HN.out]; exact hlt
                                                          simp [List.getD, this])).1
      unfold maxLen at hsz
      obtain ⟨⟨xa, xb⟩, hx⟩ : ∃ x, x = l.getD k (.empty, .empty) := ⟨_, rfl⟩
      rw [← hx] at x0 x1 hsz
      have HX := Lib.hid hx
      have c0 := (hbl.cell (p := ⟨b, off + k * 2, none⟩) hB).trans x0
      have c1 := (hbl.cell (p := ⟨b, off + k * 2 + 1, none⟩) hB).trans x1
      simp only at c0 c1 hsz
      have hkI : (k : Int) < (n : Int) := by omega
      have hbl2 := hbl.alloc hzr (.cells #[.string xa, .string xb] 41)
      clear hx x0 x1
      by_cases h1000 : 1000 < xa.size
      · have HF : Hid (true = false → Fit l) := fun e => by cases e
        go_wp2
        go_ret
        exact ⟨true, rfl, HF, hbl2⟩
      · have HK' : Hid (∀ j, j < k + 1 → (l.getD j (.empty, .empty)).1.size ≤ 1000) := fun j hj => by
          by_cases e : j = k
          · rw [e, ← HX.out]; show xa.size ≤ 1000; omega
          · exact HK.out j (by omega)
        go_wp2
        go_roundw
        case rel => exact ⟨k + 1, by go_num, by omega, HK', hbl2⟩
        case measure => simp [intOf]; omega
    · obtain ⟨r, hr⟩ : ∃ r, r = decide (60 < n) := ⟨_, rfl⟩
      have HF : Hid (r = false → Fit l) := fun e => by
        have h60 : ¬ 60 < n := of_decide_eq_false (by rw [← hr, e])
        refine ⟨by rw [← HN.out]; omega, fun x hx => ?_⟩
        obtain ⟨j, hj, rfl⟩ := List.getElem_of_mem hx
        have := HK.out j (by rw [← HN.out] at hj; omega)
        simpa [List.getD, hj] using this
      have hr2 : decide (60 < n) = r := hr.symm
      have hr3 : decide ((60 : Int) < (n : Int)) = r := by rw [hr]; exact decide_eq_decide.2 (by omega)
      clear hr
      go_wp2
      go_ret
      exact ⟨r, rfl, HF, hbl⟩
end Go.Proofs.Ythhkocbfeiccdaa
