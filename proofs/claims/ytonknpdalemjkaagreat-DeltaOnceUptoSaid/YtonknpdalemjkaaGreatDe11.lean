/- texts put together: DotCat, DotHas, DotFrom, DotAdd, DotArr, DotJoin, DotUnder, DotBox, DotLk. -/
import Derived.Test.YtonknpdalemjkaaGreatDe02
import Derived.Test.YtonknpdalemjkaaGreatDe06
import Derived.Test.YtonknpdalemjkaaGreatDe10
import Derived.Deep.MidRow
import Derived.Deep.RegionWith
import Derived.OpenShut
open List (setIfInBounds_toArray set_cons_zero set_cons_succ take_succ_cons take_zero drop_succ_cons drop_zero)
namespace Go.Proofs.YtonknpdalemjkaaGreat
open Go Go.RowKit Go.ChangeShapes cl Go.Sort
theorem made_zero (w : World) (n : Nat) (h0 : 0 < n) (hn : n ≤ 1000000) (t : TypeId) : ((w.alloc (.cells (Builtin.zeroCells #[.int .i64 0, .int .i64 0] n ++ Builtin.zeroCells #[.int .i64 0, .int .i64 0] (grownCap w n 0 t - n)) t)).drew).ownsRow w.heap.size t 2 (.slice (some ⟨w.heap.size, 0, none⟩) 0 (grownCap w n 0 t)) 0 [] := by
 have h1 := grownCap_ge w n 0 t
 have h2 := grownCap_le_maxLen w n 0 t (by unfold maxLen; omega)
 refine World.ownsRow.drew (World.ownsRow_made w _ _ (Nat.le_refl _) h2 ?_)
 simp only [Array.size_append, size_zeroCells]
 show n * 2 + (grownCap w n 0 t - n) * 2 = _
 omega
set_option maxHeartbeats 1600000 in
set_option maxRecDepth 100000 in
theorem grow_any (n : Nat) (w : World) (hn : n ≤ 1000000) : Calls Tryz.prog 104 #[.slice none 0 0, .int .i64 (n : Int)] w fun e w' => ∃ v, e = .returned v ∧ w'.ownsRow w.heap.size 51 2 v 0 [] ∧ Below w.heap.size w w' := by
 by_cases h0 : 0 < n
 ·
  have h1 : (0 : Int) < (n : Int) := by omega
  have h2 : ¬ (n : Int) < 0 := by omega
  have hd : decide ((0 : Int) < (n : Int)) = true := decide_eq_true h1
  have hd2 : decide ((n : Int) < 0) = false := decide_eq_false h2
  have hm := Lib.hid (made_zero w n h0 hn 51)
  have q1 : ¬ n = 0 := by omega
  have q2 : ¬ n * 2 = 0 := by omega
  have q3 : Builtin.nextslicecap n 0 = n := nextslicecap_zero h0
  have q4 : ¬ 281474976710656 < Builtin.nextslicecap n 0 * Tryz.t51.bytes := by
   rw [q3]
   show ¬ 281474976710656 < n * 16
   omega
  have q5 : (n : Int) * (Tryz.t51.bytes : Int) ≤ 281474976710656 := by
   show (n : Int) * 16 ≤ 281474976710656
   omega
  have q6 : (n : Int) ≤ 9223372036854775807 := by omega
  have q7 : (0 : Int) ≤ (n : Int) := by omega
  have q8 : ¬ 281474976710656 < n * Tryz.t51.bytes := by rw [q3] at q4; exact q4
  clear q3
  go_enter Tryz.func104, Tryz.ntmps104
  go_wp2
  go_ret
  exact ⟨_, rfl, hm.out, below_drewND ((Below.refl _ _).alloc (Nat.le_refl _) _) 1⟩
 ·
  obtain rfl : n = 0 := by omega
  go_enter Tryz.func104, Tryz.ntmps104
  go_wp2
  go_ret
  exact ⟨_, rfl, World.ownsRow_nil _ _ _ _, Below.refl _ _⟩
set_option maxHeartbeats 3200000 in
set_option maxRecDepth 100000 in
theorem concat_any (a b : List Dot) (va vb : Value) (g : Nat) (w : World) (ha : Dots w w.heap.size va a) (hb : Dots w w.heap.size vb b) (hla : a.length ≤ 400000) (hlb : b.length ≤ 400000)
  (c0 : w.cell? ⟨g, 0, none⟩ = some va) (c1 : w.cell? ⟨g, 1, none⟩ = some vb) (hg : g < w.heap.size) :
  Calls Tryz.prog 86 #[.slice (some ⟨g, 0, none⟩) 2 2] w fun e w' => ∃ v, e = .returned v ∧ w'.ownsRow w.heap.size 51 2 v (a ++ b).length (dcells (a ++ b)) ∧ Below w.heap.size w w' := by
 obtain ⟨n, hn⟩ : ∃ n, n = a.length := ⟨_, rfl⟩
 obtain ⟨m, hm⟩ : ∃ m, m = b.length := ⟨_, rfl⟩
 have HNM : Hid ((a ++ b).length = n + m) := by show _ = _; rw [List.length_append, hn, hm]
 have HN := Lib.hid hn
 have HM := Lib.hid hm
 obtain ⟨ao, ac, rfl⟩ : ∃ ao ac, va = .slice ao n ac := by
  obtain ⟨ao, cap, e, _⟩ := ha.form
  exact ⟨ao, cap, by rw [hn]; exact e⟩
 obtain ⟨bo, bc, rfl⟩ : ∃ ao ac, vb = .slice ao m ac := by
  obtain ⟨ao, cap, e, _⟩ := hb.form
  exact ⟨ao, cap, by rw [hm]; exact e⟩
 have hn4 : n ≤ 400000 := by omega
 have hm4 : m ≤ 400000 := by omega
 have HA := Lib.hid ha
 have HB := Lib.hid hb
 have hw1 : IntKind.i64.wrap ((0 : Int) + (n : Int)) = (n : Int) := by rw [Int.zero_add]; exact IntWalk.i64_in _ (by omega)
 have hw2 : IntKind.i64.wrap ((n : Int) + (m : Int)) = ((n + m : Nat) : Int) := by rw [IntWalk.i64_in _ (by omega)]; push_cast; rfl
 have HGR : Hid (∀ W, Calls Tryz.prog 104 #[.slice none 0 0, .int .i64 ((n : Int) + (m : Int))] W fun e w' => ∃ v, e = .returned v ∧ w'.ownsRow W.heap.size 51 2 v 0 [] ∧ Below W.heap.size W w') := fun W => by
  have := grow_any (n + m) W (by omega)
  push_cast at this
  exact this
 have HC := Lib.hid (And.intro c0 c1)
 have hlt1 : ¬ (n : Int) < 0 := by omega
 have hlt2 : ¬ ((n + m : Nat) : Int) < 0 := by omega
 have hlt3 : ¬ (n : Int) + (m : Int) < 0 := by omega
 have hpp : Hid (∀ (v : Value) (W : World), W.ownsRow w.heap.size 51 2 v (n + m) (dcells a ++ dcells b) → W.ownsRow w.heap.size 51 2 v (a ++ b).length (dcells (a ++ b))) := fun v W h => by rw [HNM.out, dcells_app]; exact h
 clear ha hb hn hm hla hlb
 go_enter Tryz.func86, Tryz.ntmps86
 go_wp2
 go_loop [3, 5, 11] (fun s _ i => ∃ k : Nat, i = .int .i64 k ∧ k ≤ 2 ∧ (k = 0 ∧ s = .int .i64 0 ∨ k = 1 ∧ s = .int .i64 (n : Int) ∨ k = 2 ∧ s = .int .i64 ((n + m : Nat) : Int))) (fun _ _ i => 2 - (intOf i).toNat)
 case atStart => exact ⟨0, rfl, by omega, Or.inl ⟨rfl, rfl⟩⟩
 case round =>
  obtain ⟨k, rfl, hk, hs⟩ := hrel
  rcases hs with ⟨rfl, rfl⟩ | ⟨rfl, rfl⟩ | ⟨rfl, rfl⟩
  ·
   go_wp2
   go_round
   case rel => exact ⟨1, by go_num, by omega, Or.inr (Or.inl ⟨rfl, by first | rfl | (go_num)⟩)⟩
   case measure => simp [intOf]
  ·
   go_wp2
   go_round
   case rel => exact ⟨2, by go_num, by omega, Or.inr (Or.inr ⟨rfl, by first | rfl | (push_cast; go_num)⟩)⟩
   case measure => simp [intOf]
  ·
   go_wp2_with fail
   (with_reducible refine (HGR.out _).mono ?_)
   rintro e w1 ⟨v0, rfl, hown0, hb1⟩
   obtain ⟨o0, k0, rfl⟩ := own_formD hown0
   have HO0 : Hid (w1.ownsRow w.heap.size 51 2 (.slice o0 0 k0) 0 []) := hown0
   have hNA := (Cells.news' HA.out)
   clear hown0 c0 c1
   go_wp2
   go_loopw [6, 8, 27] (fun s _ i wr => ∃ (k : Nat) (so : Option Addr) (sn sc : Nat) (L : List Dot), i = .int .i64 k ∧ s = .slice so sn sc ∧ Hid (wr.ownsRow w.heap.size 51 2 (.slice so sn sc) sn (dcells L)) ∧ Below w.heap.size w wr ∧ (k = 0 ∧ sn = 0 ∧ L = [] ∨ k = 1 ∧ sn = n ∧ L = a ∨ k = 2 ∧ sn = n + m ∧ L = a ++ b)) (fun _ _ i _ => 2 - (intOf i).toNat)
   case atStart => exact ⟨0, o0, 0, k0, [], rfl, rfl, HO0.out, hb1, Or.inl ⟨rfl, rfl, rfl⟩⟩
   case round =>
    obtain ⟨k, so, sn, sc, L, rfl, rfl, HO, hbl, hs⟩ := hrel
    have hz := hbl.size
    have c0 := (hbl.cell (p := ⟨g, 0, none⟩) hg).trans HC.out.1
    have c1 := (hbl.cell (p := ⟨g, 1, none⟩) hg).trans HC.out.2
    rcases hs with ⟨rfl, rfl, rfl⟩ | ⟨rfl, rfl, rfl⟩ | ⟨rfl, rfl, rfl⟩
    ·
     have HNA := Lib.hid (Cells.news' (HA.out.below hbl))
     have HLN : Hid ((dcells a).length = n * 2) := by show _ = _; rw [dcells_len, HN.out]
     go_wp2_with (at_builtin; refine kit.appN (.tmp 31) (.tmp 32) 23 rfl rfl w.heap.size Tryz.underlying23 infoDot rfl (by decide) (by decide) HO.out rfl (dcells a) rfl HLN.out HNA.out.1 HNA.out.2 dcells_one (by omega) hz ?_)
     intro v5 w5 hown5 hb5
     obtain ⟨o5, k5, rfl⟩ := own_formD hown5
     have HO5 : Hid (w5.ownsRow w.heap.size 51 2 (.slice o5 n k5) n (dcells a)) := hown5
     have hb6 := hbl.trans hb5
     clear hown5 hb5
     go_wp2
     go_roundw
     case rel => exact ⟨1, _, _, _, a, by go_num, rfl, HO5, hb6, Or.inr (Or.inl ⟨rfl, rfl, rfl⟩)⟩
     case measure => simp [intOf]
    ·
     have HNB := Lib.hid (Cells.news' (HB.out.below hbl))
     have HLN : Hid ((dcells b).length = m * 2) := by show _ = _; rw [dcells_len, HM.out]
     go_wp2_with (at_builtin; refine kit.appN (.tmp 31) (.tmp 32) 23 rfl rfl w.heap.size Tryz.underlying23 infoDot rfl (by decide) (by decide) HO.out rfl (dcells b) rfl HLN.out HNB.out.1 HNB.out.2 dcells_one (by omega) hz ?_)
     intro v5 w5 hown5 hb5
     obtain ⟨o5, k5, rfl⟩ := own_formD hown5
     have HO5 : Hid (w5.ownsRow w.heap.size 51 2 (.slice o5 (sn + m) k5) (sn + m) (dcells (L ++ b))) := by
      show World.ownsRow _ _ _ _ _ _ _
      rw [dcells_app]
      exact hown5
     have hb6 := hbl.trans hb5
     clear hown5 hb5
     go_wp2
     go_roundw
     case rel => exact ⟨2, _, _, _, _, by go_num, rfl, HO5, hb6, Or.inr (Or.inr ⟨rfl, rfl, rfl⟩)⟩
     case measure => simp [intOf]
    ·
     have HFIN := Lib.hid (hpp.out _ _ (by have := HO.out; rw [dcells_app] at this; exact this))
     go_wp2
     go_ret
     exact ⟨_, rfl, HFIN.out, hbl⟩
end Go.Proofs.YtonknpdalemjkaaGreat
namespace Go.Proofs.YtonknpdalemjkaaGreat
open Go Go.RowKit Go.ChangeShapes cl Go.Sort
set_option maxHeartbeats 800000 in
set_option maxRecDepth 100000 in
theorem has1_any (x : Dot) (a : Int) (B : Nat) (w : World) (hB : B < w.heap.size) (hc : w.cell? ⟨B, 0, none⟩ = some (.int .i64 a)) :
  Calls Tryz.prog 63 #[.agg #[.int .i64 x.1, .int .i64 x.2], .pointer (some ⟨B, 0, none⟩)] w (SaidD (decide (x.1 = a)) w) := by
 obtain ⟨p, q⟩ := x
 have hA : Below w.heap.size w (w.alloc (.cells #[.int .i64 p, .int .i64 q] 51)) := (Below.refl _ _).alloc (Nat.le_refl _) _
 have hc2 : (w.alloc (.cells #[.int .i64 p, .int .i64 q] 51)).cell? ⟨B, 0, none⟩ = some (.int .i64 a) := (hA.cell (p := ⟨B, 0, none⟩) hB).trans hc
 have hne : ¬ B = w.heap.size := by omega
 have hne2 : ¬ w.heap.size = B := by omega
 by_cases h : p = a
 ·
  have hb : (p == a) = true := by simpa using h
  subst h
  go_enter Tryz.func63, Tryz.ntmps63
  go_wp2
  go_ret
  exact ⟨by simp, hA⟩
 ·
  have hb : (p == a) = false := beq_eq_false_iff_ne.2 h
  go_enter Tryz.func63, Tryz.ntmps63
  go_wp2
  go_ret
  exact ⟨by simp [h], hA⟩
def Fst (l : List Dot) (a : Int) (r : Int) : Prop := (r = -1 ∧ ∀ j, j < l.length → ¬ (l.getD j (0, 0)).1 = a) ∨ ∃ i : Nat, i < l.length ∧ r = (i : Int) ∧ (l.getD i (0, 0)).1 = a ∧ ∀ j, j < i → ¬ (l.getD j (0, 0)).1 = a
theorem fst_some {l : List Dot} {a r : Int} (h : Fst l a r) {k : Nat} (hk : k < l.length) (he : (l.getD k (0, 0)).1 = a) (hno : ∀ j, j < k → ¬ (l.getD j (0, 0)).1 = a) : r = (k : Int) := by
 rcases h with ⟨_, h⟩ | ⟨i, hi, rfl, h1, h2⟩
 ·
  exact absurd he (h k hk)
 ·
  rcases (by omega : i < k ∨ i = k ∨ k < i) with e | e | e
  ·
   exact absurd h1 (hno i e)
  ·
   rw [e]
  ·
   exact absurd he (h2 k e)
theorem fst_none {l : List Dot} {a r : Int} (h : Fst l a r) (hno : ∀ j, j < l.length → ¬ (l.getD j (0, 0)).1 = a) : r = -1 := by
 rcases h with ⟨h, _⟩ | ⟨i, hi, _, h1, _⟩
 ·
  exact h
 ·
  exact absurd h1 (hno i hi)
theorem getD_at {l : List Dot} {j : Nat} (hj : j < l.length) : l.getD j (0, 0) = l[j] := by simp [List.getD, hj]
theorem fst_any (l : List Dot) (a : Int) : ∃ r, Fst l a r := by
 rcases dm.first_or l a with h | ⟨i, hi, h1, h2⟩
 ·
  exact ⟨-1, Or.inl ⟨rfl, fun j hj => by rw [getD_at hj]; exact h j hj⟩⟩
 ·
  exact ⟨i, Or.inr ⟨i, hi, rfl, by rw [getD_at hi]; exact h1, fun j hj => by rw [getD_at (by omega)]; exact h2 j hj⟩⟩
theorem fst_kn {l : List Dot} {a r : Int} (h : Fst l a r) : (r = -1 ∧ dm.kn l a = 0) ∨ ∃ i : Nat, i < l.length ∧ r = (i : Int) ∧ dm.kn l a = (l.getD i (0, 0)).2 := by
 rcases h with ⟨h, h1⟩ | ⟨i, hi, hr, h1, h2⟩
 ·
  refine Or.inl ⟨h, dm.kn_none fun d hd => ?_⟩
  obtain ⟨j, hj, e⟩ := dm.mem_getD hd
  rw [← e]; exact h1 j hj
 ·
  refine Or.inr ⟨i, hi, hr, ?_⟩
  rw [getD_at hi] at h1 ⊢
  exact dm.kn_first l i a hi h1 fun j hj => by have := h2 j hj; rw [getD_at (by omega)] at this; exact this
set_option maxHeartbeats 1600000 in
set_option maxRecDepth 100000 in
theorem idx_any (l : List Dot) (a : Int) (B : Nat) (v : Value) (r : Int) (w : World) (h : Dots w w.heap.size v l) (hB : B < w.heap.size) (hc : w.cell? ⟨B, 0, none⟩ = some (.int .i64 a)) (hr : Fst l a r) :
  Calls Tryz.prog 62 #[v, .func (.func 63) #[] #[.pointer (some ⟨B, 0, none⟩)]] w fun e w' => e = .returned (.int .i64 r) ∧ Below w.heap.size w w' := by
 obtain ⟨n, hn⟩ : ∃ n, n = l.length := ⟨_, rfl⟩
 have HN := Lib.hid hn
 obtain ⟨ao, cap, rfl, hn63⟩ : ∃ ao cap, v = .slice ao n cap ∧ n ≤ 9223372036854775807 := by
  obtain ⟨ao, cap, e, _, h9⟩ := h.form
  unfold maxLen at h9
  exact ⟨ao, cap, by rw [hn]; exact e, by rw [hn]; exact h9⟩
 have HC := Lib.hid h
 have HF := Lib.hid hr
 have eg : ∀ args w, (callFunc 63 args).run Tryz.prog w = .ok (.enter 63 args) w := enters_of Tryz.func63 (by kernel_rfl) rfl
 have HP : Hid (∀ (x : Dot) (W : World), Below w.heap.size w W → Calls Tryz.prog 63 #[.agg #[.int .i64 x.1, .int .i64 x.2], .pointer (some ⟨B, 0, none⟩)] W (SaidD (decide (x.1 = a)) W)) := fun x W hW =>
  has1_any x a B W (by have := hW.size; omega) ((hW.cell (p := ⟨B, 0, none⟩) hB).trans hc)
 clear h hr hn hc
 go_enter Tryz.func62, Tryz.ntmps62
 go_wp2
 go_loopw [5, 8] (fun _ i wr => ∃ k : Nat, i = .int .i64 k ∧ k ≤ n ∧ Hid (∀ j, j < k → ¬ (l.getD j (0, 0)).1 = a) ∧ Below w.heap.size w wr) (fun _ i _ => n - (intOf i).toNat)
 case atStart => exact ⟨0, rfl, Nat.zero_le _, fun j hj => absurd hj (Nat.not_lt_zero _), Below.refl _ _⟩
 case round =>
  obtain ⟨k, rfl, hk, HNO, hbl⟩ := hrel
  by_cases hlt : k < n
  ·
   obtain ⟨b0, off, rfl, hB0, p0, p1⟩ := Dots.get HC.out HN.out hlt
   have HKL : Hid (k < l.length) := by show k < l.length; rw [← HN.out]; exact hlt
   obtain ⟨⟨p, q⟩, hx⟩ : ∃ x, x = l.getD k (0, 0) := ⟨_, rfl⟩
   rw [← hx] at p0 p1
   simp only at p0 p1
   have e0 := (hbl.cell (p := ⟨b0, off + k * 2, none⟩) hB0).trans p0
   have e1 := (hbl.cell (p := ⟨b0, off + k * 2 + 1, none⟩) hB0).trans p1
   have HXE := Lib.hid hx
   have hkI : (k : Int) < (n : Int) := by omega
   have HPC := Lib.hid (HP.out (p, q) wr hbl)
   simp only at HPC
   clear p0 p1 hx
   by_cases hpa : p = a
   ·
    have HR : Hid (r = (k : Int)) := fst_some HF.out HKL.out (by rw [← HXE.out]; exact hpa) HNO.out
    rw [decide_eq_true hpa] at HPC
    clear hpa
    go_wp2_with fail
    (with_reducible refine HPC.out.mono ?_)
    rintro e w' ⟨rfl, hb'⟩
    have hb2 := hbl.trans (hb'.mono hbl.size)
    go_wp2
    go_ret
    rw [HR.out]; exact ⟨rfl, hb2⟩
   ·
    have HN2 : Hid (∀ j, j < k + 1 → ¬ (l.getD j (0, 0)).1 = a) := fun j hj => by
     by_cases e : j = k
     ·
      subst e; rw [← HXE.out]; exact hpa
     ·
      exact HNO.out j (by omega)
    rw [decide_eq_false hpa] at HPC
    go_wp2_with fail
    (with_reducible refine HPC.out.mono ?_)
    rintro e w' ⟨rfl, hb'⟩
    have hb2 := hbl.trans (hb'.mono hbl.size)
    clear hb'
    go_wp2
    go_roundw
    case rel => exact ⟨k + 1, by go_num, by omega, HN2, hb2⟩
    case measure => simp [intOf]; omega
  ·
   obtain rfl : k = n := by omega
   have HR : Hid (r = -1) := fst_none HF.out fun j hj => HNO.out j (by rw [HN.out]; exact hj)
   go_wp2
   go_ret
   rw [HR.out]; exact ⟨rfl, hbl⟩
namespace dm
def hasF (c : Ctx) (d : Dot) : Bool := valid d && (decide (d.2 ≤ kn c.1 d.1) || decide (d ∈ c.2))
theorem hasF_iff {c : Ctx} {d : Dot} : hasF c d = true ↔ Knows c d := by
 unfold hasF Knows
 simp
end dm
set_option maxHeartbeats 3200000 in
set_option maxRecDepth 100000 in
theorem has_any (c : dm.Ctx) (d : Dot) (v : Value) (w : World) (h : CtxAt w w.heap.size v c) : Calls Tryz.prog 27 #[v, .agg #[.int .i64 d.1, .int .i64 d.2]] w (SaidD (dm.hasF c d) w) := by
 obtain ⟨v1, v2, rfl, p1, p2⟩ := h
 obtain ⟨l, q⟩ := c
 obtain ⟨a, b⟩ := d
 simp only at p1 p2
 have HVA : Hid (∀ W, Calls Tryz.prog 61 #[.agg #[.int .i64 a, .int .i64 b]] W (SaidD (valid (a, b)) W)) := fun W => valid_any (a, b) W
 have HF1 : Hid (valid (a, b) = false → dm.hasF (l, q) (a, b) = false) := fun h => by unfold dm.hasF; rw [h]; rfl
 have HF2 : Hid (valid (a, b) = true → b ≤ dm.kn l a → dm.hasF (l, q) (a, b) = true) := fun h1 h2 => by unfold dm.hasF; simp [h1, h2]
 have HF3 : Hid (valid (a, b) = true → (a, b) ∈ q → dm.hasF (l, q) (a, b) = true) := fun h1 h2 => by unfold dm.hasF; simp [h1, h2]
 have HF4 : Hid (¬ b ≤ dm.kn l a → ¬ (a, b) ∈ q → dm.hasF (l, q) (a, b) = false) := fun h1 h2 => by unfold dm.hasF; simp [h1, h2]
 obtain ⟨R, hR⟩ : ∃ R, R = dm.hasF (l, q) (a, b) := ⟨_, rfl⟩
 rw [← hR] at HF1 HF2 HF3 HF4 ⊢
 obtain ⟨n, hn⟩ : ∃ n, n = l.length := ⟨_, rfl⟩
 have HN := Lib.hid hn
 obtain ⟨m, hm⟩ : ∃ m, m = q.length := ⟨_, rfl⟩
 have HM := Lib.hid hm
 obtain ⟨ao, cap, rfl, hn63⟩ : ∃ ao cap, v1 = .slice ao n cap ∧ n ≤ 9223372036854775807 := by
  obtain ⟨ao, cap, e, _, h9⟩ := p1.form
  unfold maxLen at h9
  exact ⟨ao, cap, by rw [hn]; exact e, by rw [hn]; exact h9⟩
 obtain ⟨bo, bcap, rfl, hm63⟩ : ∃ ao cap, v2 = .slice ao m cap ∧ m ≤ 9223372036854775807 := by
  obtain ⟨ao, cap, e, _, h9⟩ := p2.form
  unfold maxLen at h9
  exact ⟨ao, cap, by rw [hm]; exact e, by rw [hm]; exact h9⟩
 have HC := Lib.hid p1
 have HD := Lib.hid p2
 have hA1 : Below w.heap.size w (w.alloc (.cells #[.slice ao n cap, .slice bo m bcap] 25)) := (Below.refl _ _).alloc (Nat.le_refl _) _
 have hs1 : (w.alloc (.cells #[.slice ao n cap, .slice bo m bcap] 25)).heap.size = w.heap.size + 1 := World.size_alloc _ _
 have hA2 : Below (w.heap.size + 1) (w.alloc (.cells #[.slice ao n cap, .slice bo m bcap] 25)) ((w.alloc (.cells #[.slice ao n cap, .slice bo m bcap] 25)).alloc (.cells #[.int .i64 a, .int .i64 b] 51)) := (Below.refl _ _).alloc (by rw [hs1]; exact Nat.le_refl _) _
 have hs2 : ((w.alloc (.cells #[.slice ao n cap, .slice bo m bcap] 25)).alloc (.cells #[.int .i64 a, .int .i64 b] 51)).heap.size = w.heap.size + 2 := by rw [World.size_alloc, hs1]
 have HX2 : Hid (((w.alloc (.cells #[.slice ao n cap, .slice bo m bcap] 25)).alloc (.cells #[.int .i64 a, .int .i64 b] 51)).cell? ⟨w.heap.size, 0, none⟩ = some (.slice ao n cap) ∧ ((w.alloc (.cells #[.slice ao n cap, .slice bo m bcap] 25)).alloc (.cells #[.int .i64 a, .int .i64 b] 51)).cell? ⟨w.heap.size, 1, none⟩ = some (.slice bo m bcap) ∧ ((w.alloc (.cells #[.slice ao n cap, .slice bo m bcap] 25)).alloc (.cells #[.int .i64 a, .int .i64 b] 51)).cell? ⟨w.heap.size + 1, 0, none⟩ = some (.int .i64 a) ∧ ((w.alloc (.cells #[.slice ao n cap, .slice bo m bcap] 25)).alloc (.cells #[.int .i64 a, .int .i64 b] 51)).cell? ⟨w.heap.size + 1, 1, none⟩ = some (.int .i64 b)) := by
  refine ⟨(hA2.cell (p := ⟨w.heap.size, 0, none⟩) (Nat.lt_succ_self _)).trans (World.cell?_alloc_at _ _ _ _ rfl), (hA2.cell (p := ⟨w.heap.size, 1, none⟩) (Nat.lt_succ_self _)).trans (World.cell?_alloc_at _ _ _ _ rfl), ?_, ?_⟩
  ·
   rw [← hs1]; exact World.cell?_alloc_at _ _ _ _ rfl
  ·
   rw [← hs1]; exact World.cell?_alloc_at _ _ _ _ rfl
 have hA : Below w.heap.size w ((w.alloc (.cells #[.slice ao n cap, .slice bo m bcap] 25)).alloc (.cells #[.int .i64 a, .int .i64 b] 51)) := hA1.trans (hA2.mono (by omega))
 clear p1 p2 hR hn hm hA1 hA2 hs1
 by_cases hv : valid (a, b) = true
 ·
  rw [hv] at HVA
  have HF2 := Lib.hid (HF2.out hv)
  have HF3 := Lib.hid (HF3.out hv)
  have hva := (dm.valid_iff (a, b)).1 hv
  simp only at hva
  have hb1 : 1 ≤ b := hva.2.2.1
  clear HF1 hv hva
  go_enter Tryz.func27, Tryz.ntmps27
  go_wp2_with fail
  generalize ((w.alloc (.cells #[.slice ao n cap, .slice bo m bcap] 25)).alloc (.cells #[.int .i64 a, .int .i64 b] 51)) = w2 at hA HX2 hs2 ⊢
  (with_reducible refine (HVA.out _).mono ?_)
  rintro e w3 ⟨rfl, g3⟩
  have hA3 := hA.trans (g3.mono hA.size)
  have hs3 : w.heap.size + 2 ≤ w3.heap.size := by have := g3.size; omega
  have x0 := (g3.cell (p := ⟨w.heap.size, 0, none⟩) (by show w.heap.size < _; omega)).trans HX2.out.1
  have x1 := (g3.cell (p := ⟨w.heap.size, 1, none⟩) (by show w.heap.size < _; omega)).trans HX2.out.2.1
  have y0 := (g3.cell (p := ⟨w.heap.size + 1, 0, none⟩) (by show w.heap.size + 1 < _; omega)).trans HX2.out.2.2.1
  have y1 := (g3.cell (p := ⟨w.heap.size + 1, 1, none⟩) (by show w.heap.size + 1 < _; omega)).trans HX2.out.2.2.2
  obtain ⟨r, hr⟩ := fst_any l a
  have HKN := Lib.hid (fst_kn hr)
  have HIX := Lib.hid (idx_any l a (w.heap.size + 1) (.slice ao n cap) r w3 (Cells.next HC.out hA3) (by omega) y0 hr)
  have HX3 := Lib.hid (And.intro x0 (And.intro x1 (And.intro y0 y1)))
  clear hr g3 hs2 HX2 hA HVA
  clear x1 y0 y1
  go_wp2_with fail
  (with_reducible refine HIX.out.mono ?_)
  rintro e w4 ⟨rfl, g4⟩
  have hA4 := hA3.trans (g4.mono hA3.size)
  have hs4 : w.heap.size + 2 ≤ w4.heap.size := by have := g4.size; omega
  have x0 := (g4.cell (p := ⟨w.heap.size, 0, none⟩) (by show w.heap.size < _; omega)).trans HX3.out.1
  have x1 := (g4.cell (p := ⟨w.heap.size, 1, none⟩) (by show w.heap.size < _; omega)).trans HX3.out.2.1
  have y0 := (g4.cell (p := ⟨w.heap.size + 1, 0, none⟩) (by show w.heap.size + 1 < _; omega)).trans HX3.out.2.2.1
  have y1 := (g4.cell (p := ⟨w.heap.size + 1, 1, none⟩) (by show w.heap.size + 1 < _; omega)).trans HX3.out.2.2.2
  clear g4 HIX HX3 hA3 hs3
  obtain ⟨ku, hku⟩ : ∃ ku, ku = dm.kn l a := ⟨_, rfl⟩
  rw [← hku] at HKN HF2 HF4
  clear hku
  rcases HKN.out with ⟨rfl, hk0⟩ | ⟨i, hi, rfl, hke⟩
  ·
   have HKU : Hid (¬ b ≤ ku) := by show ¬ _; omega
   clear hk0 HKN
   go_wp2_with fail
   refine wp_region_plan [false, false, false, false, false, false, false, false, false, false, false, false, false] (fun w' => w'.cell? ⟨w.heap.size + 1, 1, none⟩ = some (.int .i64 b)) (by kernel_rfl) (by kernel_rfl) ?_ (fun hS0 => ?_)
   ·
    exact y1
   try dsimp only at hS0
   iterate 3
    refine HW.take ?_ (by rfl) (fun w hSw => ?_) ?_
    rotate_left
    ·
     (try dsimp only at hSw); go_simp; try with_reducible rfl
    try simp only [Act.put, setIfInBounds_toArray, set_cons_zero, set_cons_succ]
   iterate 4
    refine HW.skip (by rfl) ?_
    try simp only [Act.put, setIfInBounds_toArray, set_cons_zero, set_cons_succ]
    refine HW.skip (by rfl) ?_
    try simp only [Act.put, setIfInBounds_toArray, set_cons_zero, set_cons_succ]
   refine HW.skip (by rfl) ?_
   try simp only [Act.put, setIfInBounds_toArray, set_cons_zero, set_cons_succ]
   refine HW.take ?_ (by rfl) (fun w hSw => ?_) ?_
   rotate_left
   ·
    (try dsimp only at hSw); go_simp; try with_reducible rfl
   try simp only [Act.put, setIfInBounds_toArray, set_cons_zero, set_cons_succ]
   refine HW.done ?_
   have hA4 : Below w.heap.size w w4.drew := below_drewND hA4 1
   have hs4 : w.heap.size + 2 ≤ w4.drew.heap.size := hs4
   have x0 : w4.drew.cell? ⟨w.heap.size, 0, none⟩ = some (.slice ao n cap) := x0
   have x1 : w4.drew.cell? ⟨w.heap.size, 1, none⟩ = some (.slice bo m bcap) := x1
   have y0 : w4.drew.cell? ⟨w.heap.size + 1, 0, none⟩ = some (.int .i64 a) := y0
   have y1 : w4.drew.cell? ⟨w.heap.size + 1, 1, none⟩ = some (.int .i64 b) := y1
   generalize w4.drew = w4 at hA4 hs4 x0 x1 y0 y1 ⊢
   have HY := Lib.hid (And.intro y0 y1)
   clear x0 y0 y1
   go_wp2
   go_loopw [7, 31] (fun _ i wr => ∃ k : Nat, i = .int .i64 k ∧ k ≤ m ∧ Hid (∀ j, j < k → ¬ q.getD j (0, 0) = (a, b)) ∧ Below w4.heap.size w4 wr) (fun _ i _ => m - (intOf i).toNat)
   case atStart => exact ⟨0, rfl, Nat.zero_le _, fun j hj => absurd hj (Nat.not_lt_zero _), by first | exact Below.refl _ _ | exact below_drewND (Below.refl _ _) 1⟩
   case round =>
    obtain ⟨k, rfl, hk, HNO, hbl⟩ := hrel
    have hbw := hA4.trans (hbl.mono hA4.size)
    have y0 := (hbl.cell (p := ⟨w.heap.size + 1, 0, none⟩) (by show w.heap.size + 1 < _; omega)).trans HY.out.1
    have y1 := (hbl.cell (p := ⟨w.heap.size + 1, 1, none⟩) (by show w.heap.size + 1 < _; omega)).trans HY.out.2
    have hz := hbl.size
    by_cases hlt : k < m
    ·
     obtain ⟨b1, off1, rfl, hB1, p0, p1⟩ := Dots.get HD.out HM.out hlt
     have HKL : Hid (k < q.length) := by show k < q.length; rw [← HM.out]; exact hlt
     obtain ⟨⟨p, t⟩, hx⟩ : ∃ x, x = q.getD k (0, 0) := ⟨_, rfl⟩
     rw [← hx] at p0 p1
     simp only at p0 p1
     have e0 := (hbw.cell (p := ⟨b1, off1 + k * 2, none⟩) hB1).trans p0
     have e1 := (hbw.cell (p := ⟨b1, off1 + k * 2 + 1, none⟩) hB1).trans p1
     have HXE := Lib.hid hx
     have hkI : (k : Int) < (m : Int) := by omega
     have hAL : Below wr.heap.size wr (wr.alloc (.cells #[.int .i64 p, .int .i64 t] 51)) := (Below.refl _ _).alloc (Nat.le_refl _) _
     have y0' := (hAL.cell (p := ⟨w.heap.size + 1, 0, none⟩) (by show w.heap.size + 1 < _; omega)).trans y0
     have y1' := (hAL.cell (p := ⟨w.heap.size + 1, 1, none⟩) (by show w.heap.size + 1 < _; omega)).trans y1
     have hbl2 := hbl.trans (hAL.mono hbl.size)
     have hbw2 := hbw.trans (hAL.mono hbw.size)
     clear p0 p1 hx y0 y1
     by_cases hp : p = a
     ·
      by_cases ht : t = b
      ·
       subst hp
       subst ht
       have HRT := Lib.hid (HF3.out (by rw [HXE.out]; exact dm.getD_mem HKL.out))
       go_wp2
       go_ret
       rw [HRT.out]; exact ⟨rfl, hbw2⟩
      ·
       subst hp
       have HN2 : Hid (∀ j, j < k + 1 → ¬ q.getD j (0, 0) = (p, b)) := fun j hj => by
        by_cases e : j = k
        ·
         subst e; rw [← HXE.out]; exact fun e => ht (Prod.ext_iff.1 e).2
        ·
         exact HNO.out j (by omega)
       have h1 : (t == b) = false := beq_eq_false_iff_ne.2 ht
       go_wp2
       go_roundw
       case rel => exact ⟨k + 1, by go_num, by omega, HN2, hbl2⟩
       case measure => simp [intOf]; omega
     ·
      have HN2 : Hid (∀ j, j < k + 1 → ¬ q.getD j (0, 0) = (a, b)) := fun j hj => by
       by_cases e : j = k
       ·
        subst e; rw [← HXE.out]; exact fun e => hp (Prod.ext_iff.1 e).1
       ·
        exact HNO.out j (by omega)
      have h1 : (p == a) = false := beq_eq_false_iff_ne.2 hp
      go_wp2
      go_roundw
      case rel => exact ⟨k + 1, by go_num, by omega, HN2, hbl2⟩
      case measure => simp [intOf]; omega
    ·
     obtain rfl : k = m := by omega
     have HRF := Lib.hid (HF4.out HKU.out (fun hm => by
      obtain ⟨j, hj, e⟩ := dm.mem_getD hm
      exact HNO.out j (by rw [HM.out]; exact hj) e))
     go_wp2
     go_ret
     rw [HRF.out]; exact ⟨rfl, hbw⟩
  ·
   have hin : i < n := by rw [HN.out]; exact hi
   obtain ⟨b0, off, rfl, hB0, r0, r1⟩ := Dots.get HC.out HN.out hin
   rw [← hke] at r1
   have e1 := (hA4.cell (p := ⟨b0, off + i * 2 + 1, none⟩) hB0).trans r1
   have hi1 : (0 : Int) ≤ (i : Int) := by omega
   have hi2 : (i : Int) < (n : Int) := by omega
   have hg1 : decide ((0 : Int) ≤ (i : Int)) = true := decide_eq_true hi1
   obtain ⟨u, hu⟩ : ∃ u, u = ku := ⟨_, rfl⟩
   rw [← hu] at e1 HF2 HF4
   clear HKN hke r0 r1 hu hi
   by_cases hub : b ≤ u
   ·
    have HRT := Lib.hid (HF2.out hub)
    have hd1 : decide (b ≤ u) = true := decide_eq_true hub
    go_wp2_with fail
    refine wp_region_plan [false, false, false, false, false, false, false, false, false, false, false, false, false] (fun w' => w'.cell? ⟨w.heap.size, 0, none⟩ = some (.slice (some ⟨b0, off, none⟩) n cap) ∧ w'.cell? ⟨w.heap.size + 1, 1, none⟩ = some (.int .i64 b) ∧ w'.cell? ⟨b0, off + i * 2 + 1, none⟩ = some (.int .i64 u)) (by kernel_rfl) (by kernel_rfl) ?_ (fun hS0 => ?_)
    ·
     exact ⟨x0, y1, e1⟩
    try dsimp only at hS0
    iterate 13
     refine HW.take ?_ (by rfl) (fun w hSw => ?_) ?_
     rotate_left
     ·
      (try dsimp only at hSw); go_simp; try with_reducible rfl
     try simp only [Act.put, setIfInBounds_toArray, set_cons_zero, set_cons_succ]
    refine HW.done ?_
    have hA4 : Below w.heap.size w w4.drew := below_drewND hA4 1
    have hs4 : w.heap.size + 2 ≤ w4.drew.heap.size := hs4
    have x0 : w4.drew.cell? ⟨w.heap.size, 0, none⟩ = some (.slice (some ⟨b0, off, none⟩) n cap) := x0
    have x1 : w4.drew.cell? ⟨w.heap.size, 1, none⟩ = some (.slice bo m bcap) := x1
    have y0 : w4.drew.cell? ⟨w.heap.size + 1, 0, none⟩ = some (.int .i64 a) := y0
    have y1 : w4.drew.cell? ⟨w.heap.size + 1, 1, none⟩ = some (.int .i64 b) := y1
    generalize w4.drew = w4 at hA4 hs4 x0 x1 y0 y1 ⊢
    go_wp2
    go_ret
    rw [HRT.out]; exact ⟨rfl, hA4⟩
   ·
    have HKU : Hid (¬ b ≤ u) := hub
    have hd1 : decide (b ≤ u) = false := decide_eq_false hub
    go_wp2_with fail
    refine wp_region_plan [false, false, false, false, false, false, false, false, false, false, false, false, false] (fun w' => w'.cell? ⟨w.heap.size, 0, none⟩ = some (.slice (some ⟨b0, off, none⟩) n cap) ∧ w'.cell? ⟨w.heap.size + 1, 1, none⟩ = some (.int .i64 b) ∧ w'.cell? ⟨b0, off + i * 2 + 1, none⟩ = some (.int .i64 u)) (by kernel_rfl) (by kernel_rfl) ?_ (fun hS0 => ?_)
    ·
     exact ⟨x0, y1, e1⟩
    try dsimp only at hS0
    iterate 13
     refine HW.take ?_ (by rfl) (fun w hSw => ?_) ?_
     rotate_left
     ·
      (try dsimp only at hSw); go_simp; try with_reducible rfl
     try simp only [Act.put, setIfInBounds_toArray, set_cons_zero, set_cons_succ]
    refine HW.done ?_
    have hA4 : Below w.heap.size w w4.drew := below_drewND hA4 1
    have hs4 : w.heap.size + 2 ≤ w4.drew.heap.size := hs4
    have x0 : w4.drew.cell? ⟨w.heap.size, 0, none⟩ = some (.slice (some ⟨b0, off, none⟩) n cap) := x0
    have x1 : w4.drew.cell? ⟨w.heap.size, 1, none⟩ = some (.slice bo m bcap) := x1
    have y0 : w4.drew.cell? ⟨w.heap.size + 1, 0, none⟩ = some (.int .i64 a) := y0
    have y1 : w4.drew.cell? ⟨w.heap.size + 1, 1, none⟩ = some (.int .i64 b) := y1
    generalize w4.drew = w4 at hA4 hs4 x0 x1 y0 y1 ⊢
    clear e1
    have HY := Lib.hid (And.intro y0 y1)
    clear x0 y0 y1
    go_wp2
    go_loopw [7, 31] (fun _ i wr => ∃ k : Nat, i = .int .i64 k ∧ k ≤ m ∧ Hid (∀ j, j < k → ¬ q.getD j (0, 0) = (a, b)) ∧ Below w4.heap.size w4 wr) (fun _ i _ => m - (intOf i).toNat)
    case atStart => exact ⟨0, rfl, Nat.zero_le _, fun j hj => absurd hj (Nat.not_lt_zero _), by first | exact Below.refl _ _ | exact below_drewND (Below.refl _ _) 1⟩
    case round =>
     obtain ⟨k, rfl, hk, HNO, hbl⟩ := hrel
     have hbw := hA4.trans (hbl.mono hA4.size)
     have y0 := (hbl.cell (p := ⟨w.heap.size + 1, 0, none⟩) (by show w.heap.size + 1 < _; omega)).trans HY.out.1
     have y1 := (hbl.cell (p := ⟨w.heap.size + 1, 1, none⟩) (by show w.heap.size + 1 < _; omega)).trans HY.out.2
     have hz := hbl.size
     by_cases hlt : k < m
     ·
      obtain ⟨b1, off1, rfl, hB1, p0, p1⟩ := Dots.get HD.out HM.out hlt
      have HKL : Hid (k < q.length) := by show k < q.length; rw [← HM.out]; exact hlt
      obtain ⟨⟨p, t⟩, hx⟩ : ∃ x, x = q.getD k (0, 0) := ⟨_, rfl⟩
      rw [← hx] at p0 p1
      simp only at p0 p1
      have e0 := (hbw.cell (p := ⟨b1, off1 + k * 2, none⟩) hB1).trans p0
      have e1 := (hbw.cell (p := ⟨b1, off1 + k * 2 + 1, none⟩) hB1).trans p1
      have HXE := Lib.hid hx
      have hkI : (k : Int) < (m : Int) := by omega
      have hAL : Below wr.heap.size wr (wr.alloc (.cells #[.int .i64 p, .int .i64 t] 51)) := (Below.refl _ _).alloc (Nat.le_refl _) _
      have y0' := (hAL.cell (p := ⟨w.heap.size + 1, 0, none⟩) (by show w.heap.size + 1 < _; omega)).trans y0
      have y1' := (hAL.cell (p := ⟨w.heap.size + 1, 1, none⟩) (by show w.heap.size + 1 < _; omega)).trans y1
      have hbl2 := hbl.trans (hAL.mono hbl.size)
      have hbw2 := hbw.trans (hAL.mono hbw.size)
      clear p0 p1 hx y0 y1
      by_cases hp : p = a
      ·
       by_cases ht : t = b
       ·
        subst hp
        subst ht
        have HRT := Lib.hid (HF3.out (by rw [HXE.out]; exact dm.getD_mem HKL.out))
        go_wp2
        go_ret
        rw [HRT.out]; exact ⟨rfl, hbw2⟩
       ·
        subst hp
        have HN2 : Hid (∀ j, j < k + 1 → ¬ q.getD j (0, 0) = (p, b)) := fun j hj => by
         by_cases e : j = k
         ·
          subst e; rw [← HXE.out]; exact fun e => ht (Prod.ext_iff.1 e).2
         ·
          exact HNO.out j (by omega)
        have h1 : (t == b) = false := beq_eq_false_iff_ne.2 ht
        go_wp2
        go_roundw
        case rel => exact ⟨k + 1, by go_num, by omega, HN2, hbl2⟩
        case measure => simp [intOf]; omega
      ·
       have HN2 : Hid (∀ j, j < k + 1 → ¬ q.getD j (0, 0) = (a, b)) := fun j hj => by
        by_cases e : j = k
        ·
         subst e; rw [← HXE.out]; exact fun e => hp (Prod.ext_iff.1 e).1
        ·
         exact HNO.out j (by omega)
       have h1 : (p == a) = false := beq_eq_false_iff_ne.2 hp
       go_wp2
       go_roundw
       case rel => exact ⟨k + 1, by go_num, by omega, HN2, hbl2⟩
       case measure => simp [intOf]; omega
     ·
      obtain rfl : k = m := by omega
      have HRF := Lib.hid (HF4.out HKU.out (fun hm => by
       obtain ⟨j, hj, e⟩ := dm.mem_getD hm
       exact HNO.out j (by rw [HM.out]; exact hj) e))
      go_wp2
      go_ret
      rw [HRF.out]; exact ⟨rfl, hbw⟩
 ·
  have hv2 : valid (a, b) = false := by simpa using hv
  rw [hv2] at HVA
  have HRF := Lib.hid (HF1.out hv2)
  go_enter Tryz.func27, Tryz.ntmps27
  go_wp2_with fail
  generalize ((w.alloc (.cells #[.slice ao n cap, .slice bo m bcap] 25)).alloc (.cells #[.int .i64 a, .int .i64 b] 51)) = w2 at hA HX2 hs2 ⊢
  (with_reducible refine (HVA.out _).mono ?_)
  rintro e w3 ⟨rfl, g3⟩
  have hA3 := hA.trans (g3.mono hA.size)
  go_wp2
  go_ret
  rw [HRF.out]; exact ⟨rfl, hA3⟩
end Go.Proofs.YtonknpdalemjkaaGreat
namespace Go.Proofs.YtonknpdalemjkaaGreat
open Go Go.RowKit Go.ChangeShapes cl Go.Sort
theorem take_filter {l : List Dot} {k : Nat} (h : k < l.length) : (l.take (k + 1)).filter (fun d => valid d) = (l.take k).filter (fun d => valid d) ++ (if valid (l.getD k (0, 0)) = true then [l.getD k (0, 0)] else []) := by
 rw [dm.take_snoc h, List.filter_append]
 congr 1
 by_cases hv : valid (l.getD k (0, 0)) = true
 ·
  rw [if_pos hv]; simp only [List.filter_cons, hv, if_true, List.filter_nil]
 ·
  rw [if_neg hv]
  have : valid (l.getD k (0, 0)) = false := by simpa using hv
  simp only [List.filter_cons, this, Bool.false_eq_true, if_false, List.filter_nil]
theorem OwnC.form {B : Nat} {w : World} {v : Value} {c : dm.Ctx} (h : OwnC B w v c) : ∃ a1 n1 c1 a2 n2 c2, v = .agg #[.slice a1 n1 c1, .slice a2 n2 c2] := by
 obtain ⟨a1, c1, a2, c2, e, _⟩ := h
 exact ⟨_, _, _, _, _, _, e⟩
end Go.Proofs.YtonknpdalemjkaaGreat
namespace Go.Proofs.YtonknpdalemjkaaGreat
open Go Go.RowKit Go.ChangeShapes cl Go.Sort
structure AddR (H : Nat) (v1 v2 : Value) (a b : Int) (w3 ww : World) : Prop where
 r0 : ww.cell? ⟨H, 0, none⟩ = some v1
 r1 : ww.cell? ⟨H, 1, none⟩ = some v2
 r2 : ww.cell? ⟨H + 1, 0, none⟩ = some (.int .i64 a)
 r3 : ww.cell? ⟨H + 1, 1, none⟩ = some (.int .i64 b)
 below : Below (H + 3) w3 ww
 size : H + 3 ≤ ww.heap.size
theorem AddR.step {H : Nat} {v1 v2 : Value} {a b : Int} {w3 w w' : World} (h : AddR H v1 v2 a b w3 w) (hT : Below w.heap.size w w') : AddR H v1 v2 a b w3 w' := by
 have hs := h.size
 exact ⟨(hT.cell (p := ⟨H, 0, none⟩) (by show H < _; omega)).trans h.r0, (hT.cell (p := ⟨H, 1, none⟩) (by show H < _; omega)).trans h.r1, (hT.cell (p := ⟨H + 1, 0, none⟩) (by show H + 1 < _; omega)).trans h.r2,
  (hT.cell (p := ⟨H + 1, 1, none⟩) (by show H + 1 < _; omega)).trans h.r3, h.below.trans (hT.mono hs), Nat.le_trans hs hT.size⟩
theorem AddR.start {H : Nat} {v1 v2 : Value} {a b : Int} {w3 w : World} (h : AddR H v1 v2 a b w3 w) : AddR H v1 v2 a b w3 w.drew := h.step (below_drewND (Below.refl _ _) 1)
end Go.Proofs.YtonknpdalemjkaaGreat
namespace Go.Proofs.YtonknpdalemjkaaGreat
open Go Go.RowKit Go.ChangeShapes cl
def arrL (K : Int → Int) : List Value := (List.range 16).map fun j : Nat => .int .i64 (K j)
theorem arrL_get (K : Int → Int) {j : Nat} (hj : j < 16) : (arrL K)[j]? = some (.int .i64 (K j)) := by simp [arrL, hj]
theorem arrL_len (K : Int → Int) : (arrL K).length = 16 := by simp [arrL]
theorem arrV_L (K : Int → Int) : arrV K = .agg (arrL K).toArray := rfl
theorem infoArr : (Tryz.prog.info? 94).map (·.size) = some 16 := by kernel_rfl
theorem frozen_setCells (b : Nat) : ∀ (vs : List Value) (o : Nat) (w : World) (p : Addr), (w.setCells b o vs).frozen? p = w.frozen? p := by
 intro vs
 induction vs with
 | nil => intro o w p; rfl
 | cons v r ih => intro o w p; unfold World.setCells; rw [ih, World.frozen?_setCell]
theorem size_setCells (b : Nat) : ∀ (vs : List Value) (o : Nat) (w : World), (w.setCells b o vs).heap.size = w.heap.size := by
 intro vs
 induction vs with
 | nil => intro o w; rfl
 | cons v r ih => intro o w; unfold World.setCells; rw [ih]; simp [World.setCell]
theorem below_setCells {B b : Nat} (hb : B ≤ b) {w0 : World} : ∀ (vs : List Value) (o : Nat) (w : World), Below B w0 w → Below B w0 (w.setCells b o vs) := by
 intro vs
 induction vs with
 | nil => intro o w h; exact h
 | cons v r ih => intro o w h; unfold World.setCells; exact ih _ _ (h.setCell (p := ⟨b, o, none⟩) hb v)
theorem KAt.range {w : World} {g : Nat} {K : Int → Int} (h : KAt w g K) : w.rangeAt g 0 (arrL K) := fun j v hv => by
 have hj : j < 16 := by have := (List.getElem?_eq_some_iff.1 hv).1; rwa [arrL_len] at this
 rw [arrL_get K hj] at hv
 rw [Nat.zero_add, (h j hj).1, hv]
theorem KAt.fill {w : World} {g : Nat} {K0 : Int → Int} (h : KAt w g K0) (K : Int → Int) : KAt (w.setCells g 0 (arrL K)) g K := fun j hj => by
 have ht : w.there g 0 (arrL K).length := fun i hi => by
  rw [arrL_len] at hi
  rw [Nat.zero_add, (h i hi).1]
  exact ⟨rfl, (h i hi).2⟩
 refine ⟨?_, by rw [frozen_setCells]; exact (h j hj).2⟩
 have := World.rangeAt_setCells_same w g 0 (arrL K) ht j _ (arrL_get K hj)
 rwa [Nat.zero_add] at this
theorem KAt.congr {w : World} {g : Nat} {K K' : Int → Int} (h : KAt w g K) (e : ∀ j : Nat, j < 16 → K j = K' j) : KAt w g K' := fun j hj => by rw [← e j hj]; exact h j hj
theorem store_arr {ops : Array Oper} {rest : List Oper} {op : Oper} {a : Act} {w : World} {Q : Exit → Act → World → Prop} (hgd : op.guard = none) (x y : Operand) (ho : op.op = .store 94 x y)
  (g : Nat) (hx : a.eval x = .pointer (some ⟨g, 0, none⟩)) (K : Int → Int) (hy : a.eval y = arrV K) (K0 : Int → Int) (hk : KAt w g K0)
  (h : ∀ w', KAt w' g K → (∀ p : Addr, p.block ≠ g → w'.cell? p = w.cell? p) → (∀ p, w'.frozen? p = w.frozen? p) → w'.heap.size = w.heap.size → (∀ B, B ≤ g → Below B w w') → wpList Tryz.prog ops Q rest (a.put op.dst undef) w') :
  wpList Tryz.prog ops Q (op :: rest) a w := by
 refine wpList_store_mid hgd _ x y ho g 0 (arrL K).toArray hx (by rw [hy, arrV_L]) (fun i hi => ?_) (by rw [infoArr]; simp [arrL_len]) ?_ ?_
 ·
  have hi6 : i < 16 := by simpa [arrL_len] using hi
  rw [Nat.zero_add, (hk i hi6).1]
  exact ⟨rfl, (hk i hi6).2⟩
 ·
  refine all_oneCell_toArray fun v hv => ?_
  simp only [arrL, List.mem_map] at hv
  obtain ⟨j, _, rfl⟩ := hv
  rfl
 ·
  refine h _ (hk.fill K) (fun p hp => ?_) (fun p => frozen_setCells _ _ _ _ _) (size_setCells _ _ _ _) (fun B hB => below_setCells hB _ _ _ (Below.refl _ _))
  exact World.cell?_setCells_out g _ 0 w p (fun e _ => absurd e hp)
end Go.Proofs.YtonknpdalemjkaaGreat
namespace Go.Proofs.YtonknpdalemjkaaGreat
open Go Go.RowKit Go.ChangeShapes cl Go.Sort
structure JoinR (H : Nat) (v1 v2 u1 u2 : Value) (w3 ww : World) : Prop where
 r0 : ww.cell? ⟨H, 0, none⟩ = some v1
 r1 : ww.cell? ⟨H, 1, none⟩ = some v2
 r2 : ww.cell? ⟨H + 1, 0, none⟩ = some u1
 r3 : ww.cell? ⟨H + 1, 1, none⟩ = some u2
 below : Below (H + 3) w3 ww
 size : H + 3 ≤ ww.heap.size
theorem JoinR.step {H B : Nat} {v1 v2 u1 u2 : Value} {w3 w w' : World} (h : JoinR H v1 v2 u1 u2 w3 w) (hB : H + 3 ≤ B) (hT : Below B w w') : JoinR H v1 v2 u1 u2 w3 w' := by
 exact ⟨(hT.cell (p := ⟨H, 0, none⟩) (by show H < _; omega)).trans h.r0, (hT.cell (p := ⟨H, 1, none⟩) (by show H < _; omega)).trans h.r1, (hT.cell (p := ⟨H + 1, 0, none⟩) (by show H + 1 < _; omega)).trans h.r2,
  (hT.cell (p := ⟨H + 1, 1, none⟩) (by show H + 1 < _; omega)).trans h.r3, h.below.trans (hT.mono hB), Nat.le_trans h.size hT.size⟩
theorem JoinR.start {H : Nat} {v1 v2 u1 u2 : Value} {w3 w : World} (h : JoinR H v1 v2 u1 u2 w3 w) : JoinR H v1 v2 u1 u2 w3 w.drew := h.step h.size (below_drewND (Below.refl _ _) 1)
end Go.Proofs.YtonknpdalemjkaaGreat
namespace Go.Proofs.YtonknpdalemjkaaGreat
open Go Go.RowKit Go.ChangeShapes cl Go.Sort
structure UndR (H : Nat) (v1 v2 u1 u2 : Value) (w3 ww : World) : Prop where
 r0 : ww.cell? ⟨H, 0, none⟩ = some v1
 r1 : ww.cell? ⟨H, 1, none⟩ = some v2
 r2 : ww.cell? ⟨H + 1, 0, none⟩ = some u1
 r3 : ww.cell? ⟨H + 1, 1, none⟩ = some u2
 below : Below (H + 2) w3 ww
 size : H + 2 ≤ ww.heap.size
theorem UndR.step {H B : Nat} {v1 v2 u1 u2 : Value} {w3 w w' : World} (h : UndR H v1 v2 u1 u2 w3 w) (hB : H + 2 ≤ B) (hT : Below B w w') : UndR H v1 v2 u1 u2 w3 w' := by
 exact ⟨(hT.cell (p := ⟨H, 0, none⟩) (by show H < _; omega)).trans h.r0, (hT.cell (p := ⟨H, 1, none⟩) (by show H < _; omega)).trans h.r1, (hT.cell (p := ⟨H + 1, 0, none⟩) (by show H + 1 < _; omega)).trans h.r2,
  (hT.cell (p := ⟨H + 1, 1, none⟩) (by show H + 1 < _; omega)).trans h.r3, h.below.trans (hT.mono hB), Nat.le_trans h.size hT.size⟩
theorem UndR.start {H : Nat} {v1 v2 u1 u2 : Value} {w3 w : World} (h : UndR H v1 v2 u1 u2 w3 w) : UndR H v1 v2 u1 u2 w3 w.drew := h.step h.size (below_drewND (Below.refl _ _) 1)
end Go.Proofs.YtonknpdalemjkaaGreat
namespace Go.Proofs.YtonknpdalemjkaaGreat.dm
theorem kn0 (n : Int) : kn [] n = 0 := rfl
end Go.Proofs.YtonknpdalemjkaaGreat.dm
namespace Go.Proofs.YtonknpdalemjkaaGreat
open Go Go.RowKit Go.ChangeShapes cl Go.Sort
structure CBox (w : World) (b : Nat) (a1 : Option Addr) (n1 c1 : Nat) (a2 : Option Addr) (n2 c2 : Nat) (c : dm.Ctx) : Prop where
 r0 : w.cell? ⟨b, 0, none⟩ = some (.slice a1 n1 c1)
 r1 : w.cell? ⟨b, 1, none⟩ = some (.slice a2 n2 c2)
 lt : b < w.heap.size
 ctx : CtxAt w w.heap.size (.agg #[.slice a1 n1 c1, .slice a2 n2 c2]) c
theorem CBox.next {w w' : World} {b : Nat} {a1 : Option Addr} {n1 c1 : Nat} {a2 : Option Addr} {n2 c2 : Nat} {c : dm.Ctx} (h : CBox w b a1 n1 c1 a2 n2 c2 c) (hb : Below w.heap.size w w') : CBox w' b a1 n1 c1 a2 n2 c2 c :=
 ⟨(hb.cell (p := ⟨b, 0, none⟩) h.lt).trans h.r0, (hb.cell (p := ⟨b, 1, none⟩) h.lt).trans h.r1, Nat.lt_of_lt_of_le h.lt hb.size, h.ctx.next hb⟩
theorem CtxAt.form {w : World} {B : Nat} {v : Value} {c : dm.Ctx} (h : CtxAt w B v c) : ∃ a1 n1 c1 a2 n2 c2, v = .agg #[.slice a1 n1 c1, .slice a2 n2 c2] ∧ n1 = c.1.length ∧ n2 = c.2.length := by
 obtain ⟨v1, v2, rfl, h1, h2⟩ := h
 obtain ⟨a1, c1, rfl, _, _⟩ := h1.form
 obtain ⟨a2, c2, rfl, _, _⟩ := h2.form
 exact ⟨_, _, _, _, _, _, rfl, rfl, rfl⟩
theorem CtxAt.parts {w : World} {B n1 c1 n2 c2 : Nat} {a1 a2 : Option Addr} {c : dm.Ctx} (h : CtxAt w B (.agg #[.slice a1 n1 c1, .slice a2 n2 c2]) c) : Dots w B (.slice a1 n1 c1) c.1 ∧ Dots w B (.slice a2 n2 c2) c.2 := by
 obtain ⟨y1, y2, ey, h1, h2⟩ := h
 simp only [Value.agg.injEq, Array.mk.injEq, List.cons.injEq, and_true] at ey
 obtain ⟨rfl, rfl⟩ := ey
 exact ⟨h1, h2⟩
end Go.Proofs.YtonknpdalemjkaaGreat
namespace Go.Proofs.YtonknpdalemjkaaGreat
open Go Go.RowKit Go.ChangeShapes Go.WideShapes cl Go.Sort
def KB (W0 : World) (b : Nat) (a1 : Option Addr) (n1 c1 : Nat) (a2 : Option Addr) (n2 c2 : Nat) (c : dm.Ctx) : Prop := ∀ W, Below W0.heap.size W0 W → CBox W b a1 n1 c1 a2 n2 c2 c
theorem KB.mk {W0 : World} {b : Nat} {a1 : Option Addr} {n1 c1 : Nat} {a2 : Option Addr} {n2 c2 : Nat} {c : dm.Ctx} (h : CBox W0 b a1 n1 c1 a2 n2 c2 c) : KB W0 b a1 n1 c1 a2 n2 c2 c := fun _ hW => h.next hW
theorem KB.on {W0 W1 : World} {b : Nat} {a1 : Option Addr} {n1 c1 : Nat} {a2 : Option Addr} {n2 c2 : Nat} {c : dm.Ctx} (h : KB W0 b a1 n1 c1 a2 n2 c2 c) (h1 : Below W0.heap.size W0 W1) : KB W1 b a1 n1 c1 a2 n2 c2 c := fun W hW => h W (h1.trans (hW.mono h1.size))
end Go.Proofs.YtonknpdalemjkaaGreat
