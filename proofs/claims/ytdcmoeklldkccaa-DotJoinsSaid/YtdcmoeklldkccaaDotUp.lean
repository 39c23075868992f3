/- dot.upTo: up to which number all of a node is known, as an array. -/
import Derived.Test.YtdcmoeklldkccaaDotLess
namespace Go.Proofs.Ytdcmoeklldkccaa
open Go Go.RowKit Go.ChangeShapes cl Go.Sort

namespace dm
def put1 (K : Int → Int) (d : Dot) : Int → Int := fun n => if n = d.1 then d.2 else K n
def upK (v : List Dot) : Int → Int := v.foldl put1 (fun _ => 0)
theorem upK_snoc (v : List Dot) (d : Dot) : upK (v ++ [d]) = put1 (upK v) d := by simp [upK]
theorem kn_cons (e : Dot) (r : List Dot) (n : Int) : kn (e :: r) n = if e.1 = n then e.2 else kn r n := rfl
theorem upK_fold : ∀ (v : List Dot) (K : Int → Int) (n : Int), v.Pairwise (fun a b => a.1 < b.1) → v.foldl put1 K n = if (∃ d ∈ v, d.1 = n) then kn v n else K n := by
  intro v
  induction v with
  | nil => intro K n _; simp
  | cons e r ih =>
    intro K n hp
    obtain ⟨h1, h2⟩ := List.pairwise_cons.1 hp
    rw [List.foldl_cons, ih _ _ h2, kn_cons]
    by_cases hr : ∃ d ∈ r, d.1 = n
    · obtain ⟨d, hd, hn⟩ := hr
      have := h1 d hd
      rw [if_pos ⟨d, hd, hn⟩, if_pos ⟨d, List.mem_cons_of_mem _ hd, hn⟩, if_neg (by omega)]
    · rw [if_neg hr]
      unfold put1
      by_cases he : n = e.1
      · rw [if_pos he, if_pos ⟨e, List.mem_cons_self, he.symm⟩, if_pos he.symm]
      · rw [if_neg he, if_neg]
        rintro ⟨d, hd, hn⟩
        rcases List.mem_cons.1 hd with rfl | hd
        · exact he hn.symm
        · exact hr ⟨d, hd, hn⟩
theorem upK_kn {v : List Dot} (h : v.Pairwise fun a b => a.1 < b.1) (n : Int) : upK v n = kn v n := by
  unfold upK
  rw [upK_fold v _ n h]
  split
  · rfl
  · rename_i hno
    rcases kn_cases v n with ⟨e, _⟩ | hm
    · exact e.symm
    · exact absurd ⟨_, hm, rfl⟩ hno
end dm
/-- an array of sixteen numbers, as it lies -/
def KAt (W : World) (b : Nat) (K : Int → Int) : Prop := ∀ j : Nat, j < 16 → W.cell? ⟨b, j, none⟩ = some (.int .i64 (K j)) ∧ W.frozen? ⟨b, j, none⟩ = false
/-- .. as a value -/
def arrV (K : Int → Int) : Value := .agg #[.int .i64 (K 0), .int .i64 (K 1), .int .i64 (K 2), .int .i64 (K 3), .int .i64 (K 4), .int .i64 (K 5), .int .i64 (K 6), .int .i64 (K 7), .int .i64 (K 8), .int .i64 (K 9), .int .i64 (K 10), .int .i64 (K 11), .int .i64 (K 12), .int .i64 (K 13), .int .i64 (K 14), .int .i64 (K 15)]
theorem KAt.put {W : World} {b : Nat} {K : Int → Int} (h : KAt W b K) (d : Dot) {m : Nat} (hm : d.1 = (m : Int)) (hm6 : m < 16) : KAt (W.setCell ⟨b, m, none⟩ (.int .i64 d.2)) b (dm.put1 K d) := by
  intro j hj
  obtain ⟨h1, h2⟩ := h j hj
  refine ⟨?_, ?_⟩
  · unfold dm.put1
    by_cases e : j = m
    · subst e
      rw [if_pos hm.symm]
      exact World.cell?_setCell_same _ _ _ h1
    · rw [if_neg (by omega)]
      exact (World.cell?_setCell_other _ _ _ _ (fun e2 => e (by simpa using e2.symm))).trans h1
  · rw [World.frozen?_setCell]; exact h2

theorem zero_at (j : Nat) (hj : j < 16) : (#[.int .i64 0, .int .i64 0, .int .i64 0, .int .i64 0, .int .i64 0, .int .i64 0, .int .i64 0, .int .i64 0, .int .i64 0, .int .i64 0, .int .i64 0, .int .i64 0, .int .i64 0, .int .i64 0, .int .i64 0, .int .i64 0] : Array Value)[j]? = some (.int .i64 0) := by
  rcases (by omega : j = 0 ∨ j = 1 ∨ j = 2 ∨ j = 3 ∨ j = 4 ∨ j = 5 ∨ j = 6 ∨ j = 7 ∨ j = 8 ∨ j = 9 ∨ j = 10 ∨ j = 11 ∨ j = 12 ∨ j = 13 ∨ j = 14 ∨ j = 15) with rfl | rfl | rfl | rfl | rfl | rfl | rfl | rfl | rfl | rfl | rfl | rfl | rfl | rfl | rfl | rfl <;> rfl
theorem KAt.below {W W' : World} {b : Nat} {K : Int → Int} (h : KAt W b K) {B : Nat} (hb : Below B W W') (hlt : b < B) : KAt W' b K := fun j hj =>
  ⟨(hb.cell (p := ⟨b, j, none⟩) hlt).trans (h j hj).1, (hb.frozen (p := ⟨b, j, none⟩) hlt).trans (h j hj).2⟩
theorem KAt.zero (W : World) (t : TypeId) : KAt (W.alloc (.cells #[.int .i64 0, .int .i64 0, .int .i64 0, .int .i64 0, .int .i64 0, .int .i64 0, .int .i64 0, .int .i64 0, .int .i64 0, .int .i64 0, .int .i64 0, .int .i64 0, .int .i64 0, .int .i64 0, .int .i64 0, .int .i64 0] t)) W.heap.size (fun _ => 0) := fun j hj =>
  ⟨by rw [World.cell?_alloc_at _ _ _ _ rfl]; exact zero_at j hj, World.frozen?_alloc_at _ _ _ _ rfl⟩

set_option maxHeartbeats 3200000 in
set_option maxRecDepth 100000 in
theorem upTo_any (c : dm.Ctx) (v : Value) (w : World) (h : CtxAt w w.heap.size v c) (hv : ∀ d ∈ c.1, valid d = true) : Calls Try.prog 34 #[v] w fun e w' => e = .returned (arrV (dm.upK c.1)) ∧ Below w.heap.size w w' := by
  obtain ⟨v1, v2, rfl, p1, p2⟩ := h
  obtain ⟨l, l2⟩ := c
  simp only at p1 p2 hv ⊢
  obtain ⟨n, hn⟩ : ∃ n, n = l.length := ⟨_, rfl⟩
  have HN := Lib.hid hn
  obtain ⟨ao, cap, rfl, hn63⟩ : ∃ ao cap, v1 = .slice ao n cap ∧ n ≤ 9223372036854775807 := by
    obtain ⟨ao, cap, e, _, h9⟩ := p1.form
    unfold maxLen at h9
    exact ⟨ao, cap, by rw [hn]; exact e, by rw [hn]; exact h9⟩
  have HC := Lib.hid p1
  have HV := Lib.hid hv
  have hA : Below w.heap.size w (((w.alloc (.cells #[.slice ao n cap, v2] 24)).alloc (.cells #[.int .i64 0, .int .i64 0, .int .i64 0, .int .i64 0, .int .i64 0, .int .i64 0, .int .i64 0, .int .i64 0, .int .i64 0, .int .i64 0, .int .i64 0, .int .i64 0, .int .i64 0, .int .i64 0, .int .i64 0, .int .i64 0] 49)).alloc (.cells #[.int .i64 0, .int .i64 0, .int .i64 0, .int .i64 0, .int .i64 0, .int .i64 0, .int .i64 0, .int .i64 0, .int .i64 0, .int .i64 0, .int .i64 0, .int .i64 0, .int .i64 0, .int .i64 0, .int .i64 0, .int .i64 0] 49)) := (((Below.refl _ _).alloc (Nat.le_refl _) _).alloc (by simp) _).alloc (by simp; omega) _
  have hs1 : (w.alloc (.cells #[.slice ao n cap, v2] 24)).heap.size = w.heap.size + 1 := World.size_alloc _ _
  have hs2 : ((w.alloc (.cells #[.slice ao n cap, v2] 24)).alloc (.cells #[.int .i64 0, .int .i64 0, .int .i64 0, .int .i64 0, .int .i64 0, .int .i64 0, .int .i64 0, .int .i64 0, .int .i64 0, .int .i64 0, .int .i64 0, .int .i64 0, .int .i64 0, .int .i64 0, .int .i64 0, .int .i64 0] 49)).heap.size = w.heap.size + 1 + 1 := by rw [World.size_alloc, hs1]
  have K3 : KAt (((w.alloc (.cells #[.slice ao n cap, v2] 24)).alloc (.cells #[.int .i64 0, .int .i64 0, .int .i64 0, .int .i64 0, .int .i64 0, .int .i64 0, .int .i64 0, .int .i64 0, .int .i64 0, .int .i64 0, .int .i64 0, .int .i64 0, .int .i64 0, .int .i64 0, .int .i64 0, .int .i64 0] 49)).alloc (.cells #[.int .i64 0, .int .i64 0, .int .i64 0, .int .i64 0, .int .i64 0, .int .i64 0, .int .i64 0, .int .i64 0, .int .i64 0, .int .i64 0, .int .i64 0, .int .i64 0, .int .i64 0, .int .i64 0, .int .i64 0, .int .i64 0] 49)) (w.heap.size + 1 + 1) (fun _ => 0) := by
    have := KAt.zero ((w.alloc (.cells #[.slice ao n cap, v2] 24)).alloc (.cells #[.int .i64 0, .int .i64 0, .int .i64 0, .int .i64 0, .int .i64 0, .int .i64 0, .int .i64 0, .int .i64 0, .int .i64 0, .int .i64 0, .int .i64 0, .int .i64 0, .int .i64 0, .int .i64 0, .int .i64 0, .int .i64 0] 49)) 49
    rw [hs2] at this
    exact this
  have R3 : KAt (((w.alloc (.cells #[.slice ao n cap, v2] 24)).alloc (.cells #[.int .i64 0, .int .i64 0, .int .i64 0, .int .i64 0, .int .i64 0, .int .i64 0, .int .i64 0, .int .i64 0, .int .i64 0, .int .i64 0, .int .i64 0, .int .i64 0, .int .i64 0, .int .i64 0, .int .i64 0, .int .i64 0] 49)).alloc (.cells #[.int .i64 0, .int .i64 0, .int .i64 0, .int .i64 0, .int .i64 0, .int .i64 0, .int .i64 0, .int .i64 0, .int .i64 0, .int .i64 0, .int .i64 0, .int .i64 0, .int .i64 0, .int .i64 0, .int .i64 0, .int .i64 0] 49)) (w.heap.size + 1) (fun _ => 0) := by
    have := KAt.zero (w.alloc (.cells #[.slice ao n cap, v2] 24)) 49
    rw [hs1] at this
    exact this.below ((Below.refl _ _).alloc (Nat.le_refl _) _) (by rw [hs2]; omega)
  have hs3 : (((w.alloc (.cells #[.slice ao n cap, v2] 24)).alloc (.cells #[.int .i64 0, .int .i64 0, .int .i64 0, .int .i64 0, .int .i64 0, .int .i64 0, .int .i64 0, .int .i64 0, .int .i64 0, .int .i64 0, .int .i64 0, .int .i64 0, .int .i64 0, .int .i64 0, .int .i64 0, .int .i64 0] 49)).alloc (.cells #[.int .i64 0, .int .i64 0, .int .i64 0, .int .i64 0, .int .i64 0, .int .i64 0, .int .i64 0, .int .i64 0, .int .i64 0, .int .i64 0, .int .i64 0, .int .i64 0, .int .i64 0, .int .i64 0, .int .i64 0, .int .i64 0] 49)).heap.size = w.heap.size + 3 := by rw [World.size_alloc, hs2]
  have HKR := Lib.hid (And.intro K3 R3)
  have HS3 := Lib.hid hs3
  clear p1 p2 hv hn K3 R3 hs1 hs2 hs3
  go_enter Try.func34, Try.ntmps34
  go_wp2
  generalize (((w.alloc (.cells #[.slice ao n cap, v2] 24)).alloc (.cells #[.int .i64 0, .int .i64 0, .int .i64 0, .int .i64 0, .int .i64 0, .int .i64 0, .int .i64 0, .int .i64 0, .int .i64 0, .int .i64 0, .int .i64 0, .int .i64 0, .int .i64 0, .int .i64 0, .int .i64 0, .int .i64 0] 49)).alloc (.cells #[.int .i64 0, .int .i64 0, .int .i64 0, .int .i64 0, .int .i64 0, .int .i64 0, .int .i64 0, .int .i64 0, .int .i64 0, .int .i64 0, .int .i64 0, .int .i64 0, .int .i64 0, .int .i64 0, .int .i64 0, .int .i64 0] 49)) = w3 at hA HKR HS3 ⊢
  have hw3 := HS3.out
  go_loopw [5, 9] (fun _ i wr => ∃ k : Nat, i = .int .i64 k ∧ k ≤ n ∧ Hid (KAt wr (w.heap.size + 1 + 1) (dm.upK (l.take k))) ∧ Below (w.heap.size + 1 + 1) w3 wr) (fun _ i _ => n - (intOf i).toNat)
  case atStart => exact ⟨0, rfl, Nat.zero_le _, HKR.out.1, Below.refl _ _⟩
  case round =>
    obtain ⟨k, rfl, hk, HK, hbl⟩ := hrel
    have hz : w.heap.size + 3 ≤ wr.heap.size := by have := hbl.size; omega
    have hbw := hA.trans (hbl.mono (by omega))
    by_cases hlt : k < n
    · obtain ⟨b0, off, rfl, hB, p0, p1⟩ := Dots.get HC.out HN.out hlt
      have HKL : Hid (k < l.length) := by show k < l.length; rw [← HN.out]; exact hlt
      have hvd := HV.out (l.getD k (0, 0)) (by have := HKL.out; simp [List.getD, this])
      obtain ⟨⟨a, b⟩, hx⟩ : ∃ x, x = l.getD k (0, 0) := ⟨_, rfl⟩
      rw [← hx] at p0 p1 hvd
      simp only at p0 p1
      have e0 := (hbw.cell (p := ⟨b0, off + k * 2, none⟩) hB).trans p0
      have e1 := (hbw.cell (p := ⟨b0, off + k * 2 + 1, none⟩) hB).trans p1
      have hva := (dm.valid_iff (a, b)).1 hvd
      simp only at hva
      obtain ⟨m, rfl⟩ : ∃ m : Nat, a = (m : Int) := ⟨a.toNat, by omega⟩
      have hm6 : m < 16 := by omega
      have hkI : (k : Int) < (n : Int) := by omega
      have hmI : (m : Int) < 16 := by omega
      have HKA : Hid (KAt (wr.alloc (.cells #[.int .i64 (m : Int), .int .i64 b] 26)) (w.heap.size + 1 + 1) (dm.upK (l.take k))) := HK.out.below ((Below.refl _ _).alloc (Nat.le_refl _) _) (by omega)
      have HK3 : Hid (KAt ((wr.alloc (.cells #[.int .i64 (m : Int), .int .i64 b] 26)).setCell ⟨w.heap.size + 1 + 1, m, none⟩ (.int .i64 b)) (w.heap.size + 1 + 1) (dm.upK (l.take (k + 1)))) := by
        have e : l.take (k + 1) = l.take k ++ [((m : Int), b)] := by
          rw [List.take_succ_eq_append_getElem HKL.out, hx]
          simp [List.getD, HKL.out]
        show KAt _ _ _
        rw [e, dm.upK_snoc]
        exact HKA.out.put ((m : Int), b) rfl hm6
      have hcm := (HKA.out m hm6).1
      have hfm := (HKA.out m hm6).2
      have hbl2 := (hbl.alloc (by omega) (.cells #[.int .i64 (m : Int), .int .i64 b] 26)).setCell (p := ⟨w.heap.size + 1 + 1, m, none⟩) (Nat.le_refl _) (.int .i64 b)
      have hne : ¬ w.heap.size + 1 + 1 = wr.heap.size := by omega
      have hne2 : ¬ wr.heap.size = w.heap.size + 1 + 1 := by omega
      obtain ⟨u, hu⟩ : ∃ u, u = dm.upK (l.take k) (m : Int) := ⟨_, rfl⟩
      rw [← hu] at hcm
      clear p0 p1 hx hva hvd hu
      go_wp2
      go_roundw
      case rel => exact ⟨k + 1, by go_num, by omega, HK3.out, hbl2⟩
      case measure => simp [intOf]; omega
    · obtain rfl : k = n := by omega
      have HKL : Hid (KAt wr (w.heap.size + 1 + 1) (dm.upK l)) := by
        have := HK.out
        rw [List.take_of_length_le (by rw [HN.out]; exact Nat.le_refl _)] at this
        exact this
      have HR : Hid (KAt wr (w.heap.size + 1) (fun _ => 0)) := HKR.out.2.below hbl (by omega)
      have c0 := (HKL.out 0 (by omega)).1
      have c1 := (HKL.out 1 (by omega)).1
      have c2 := (HKL.out 2 (by omega)).1
      have c3 := (HKL.out 3 (by omega)).1
      have c4 := (HKL.out 4 (by omega)).1
      have c5 := (HKL.out 5 (by omega)).1
      have c6 := (HKL.out 6 (by omega)).1
      have c7 := (HKL.out 7 (by omega)).1
      have c8 := (HKL.out 8 (by omega)).1
      have c9 := (HKL.out 9 (by omega)).1
      have c10 := (HKL.out 10 (by omega)).1
      have c11 := (HKL.out 11 (by omega)).1
      have c12 := (HKL.out 12 (by omega)).1
      have c13 := (HKL.out 13 (by omega)).1
      have c14 := (HKL.out 14 (by omega)).1
      have c15 := (HKL.out 15 (by omega)).1
      have z0 := (HR.out 0 (by omega)).1
      have y0 := (HR.out 0 (by omega)).2
      have z1 := (HR.out 1 (by omega)).1
      have y1 := (HR.out 1 (by omega)).2
      have z2 := (HR.out 2 (by omega)).1
      have y2 := (HR.out 2 (by omega)).2
      have z3 := (HR.out 3 (by omega)).1
      have y3 := (HR.out 3 (by omega)).2
      have z4 := (HR.out 4 (by omega)).1
      have y4 := (HR.out 4 (by omega)).2
      have z5 := (HR.out 5 (by omega)).1
      have y5 := (HR.out 5 (by omega)).2
      have z6 := (HR.out 6 (by omega)).1
      have y6 := (HR.out 6 (by omega)).2
      have z7 := (HR.out 7 (by omega)).1
      have y7 := (HR.out 7 (by omega)).2
      have z8 := (HR.out 8 (by omega)).1
      have y8 := (HR.out 8 (by omega)).2
      have z9 := (HR.out 9 (by omega)).1
      have y9 := (HR.out 9 (by omega)).2
      have z10 := (HR.out 10 (by omega)).1
      have y10 := (HR.out 10 (by omega)).2
      have z11 := (HR.out 11 (by omega)).1
      have y11 := (HR.out 11 (by omega)).2
      have z12 := (HR.out 12 (by omega)).1
      have y12 := (HR.out 12 (by omega)).2
      have z13 := (HR.out 13 (by omega)).1
      have y13 := (HR.out 13 (by omega)).2
      have z14 := (HR.out 14 (by omega)).1
      have y14 := (HR.out 14 (by omega)).2
      have z15 := (HR.out 15 (by omega)).1
      have y15 := (HR.out 15 (by omega)).2
      obtain ⟨k0, hk0⟩ : ∃ x, x = dm.upK l ((0 : Nat) : Int) := ⟨_, rfl⟩
      rw [← hk0] at c0
      obtain ⟨k1, hk1⟩ : ∃ x, x = dm.upK l ((1 : Nat) : Int) := ⟨_, rfl⟩
      rw [← hk1] at c1
      obtain ⟨k2, hk2⟩ : ∃ x, x = dm.upK l ((2 : Nat) : Int) := ⟨_, rfl⟩
      rw [← hk2] at c2
      obtain ⟨k3, hk3⟩ : ∃ x, x = dm.upK l ((3 : Nat) : Int) := ⟨_, rfl⟩
      rw [← hk3] at c3
      obtain ⟨k4, hk4⟩ : ∃ x, x = dm.upK l ((4 : Nat) : Int) := ⟨_, rfl⟩
      rw [← hk4] at c4
      obtain ⟨k5, hk5⟩ : ∃ x, x = dm.upK l ((5 : Nat) : Int) := ⟨_, rfl⟩
      rw [← hk5] at c5
      obtain ⟨k6, hk6⟩ : ∃ x, x = dm.upK l ((6 : Nat) : Int) := ⟨_, rfl⟩
      rw [← hk6] at c6
      obtain ⟨k7, hk7⟩ : ∃ x, x = dm.upK l ((7 : Nat) : Int) := ⟨_, rfl⟩
      rw [← hk7] at c7
      obtain ⟨k8, hk8⟩ : ∃ x, x = dm.upK l ((8 : Nat) : Int) := ⟨_, rfl⟩
      rw [← hk8] at c8
      obtain ⟨k9, hk9⟩ : ∃ x, x = dm.upK l ((9 : Nat) : Int) := ⟨_, rfl⟩
      rw [← hk9] at c9
      obtain ⟨k10, hk10⟩ : ∃ x, x = dm.upK l ((10 : Nat) : Int) := ⟨_, rfl⟩
      rw [← hk10] at c10
      obtain ⟨k11, hk11⟩ : ∃ x, x = dm.upK l ((11 : Nat) : Int) := ⟨_, rfl⟩
      rw [← hk11] at c11
      obtain ⟨k12, hk12⟩ : ∃ x, x = dm.upK l ((12 : Nat) : Int) := ⟨_, rfl⟩
      rw [← hk12] at c12
      obtain ⟨k13, hk13⟩ : ∃ x, x = dm.upK l ((13 : Nat) : Int) := ⟨_, rfl⟩
      rw [← hk13] at c13
      obtain ⟨k14, hk14⟩ : ∃ x, x = dm.upK l ((14 : Nat) : Int) := ⟨_, rfl⟩
      rw [← hk14] at c14
      obtain ⟨k15, hk15⟩ : ∃ x, x = dm.upK l ((15 : Nat) : Int) := ⟨_, rfl⟩
      rw [← hk15] at c15
      have HAR : Hid (arrV (dm.upK l) = .agg #[.int .i64 k0, .int .i64 k1, .int .i64 k2, .int .i64 k3, .int .i64 k4, .int .i64 k5, .int .i64 k6, .int .i64 k7, .int .i64 k8, .int .i64 k9, .int .i64 k10, .int .i64 k11, .int .i64 k12, .int .i64 k13, .int .i64 k14, .int .i64 k15]) := by
        show arrV _ = _
        unfold arrV
        rw [hk0, hk1, hk2, hk3, hk4, hk5, hk6, hk7, hk8, hk9, hk10, hk11, hk12, hk13, hk14, hk15]
        rfl
      clear hk0 hk1 hk2 hk3 hk4 hk5 hk6 hk7 hk8 hk9 hk10 hk11 hk12 hk13 hk14 hk15
      have HB := Lib.hid ((((((((((((((((hbw.setCell (p := ⟨w.heap.size + 1, 0, none⟩) (Nat.le_succ _) (.int .i64 k0)).setCell (p := ⟨w.heap.size + 1, 1, none⟩) (Nat.le_succ _) (.int .i64 k1)).setCell (p := ⟨w.heap.size + 1, 2, none⟩) (Nat.le_succ _) (.int .i64 k2)).setCell (p := ⟨w.heap.size + 1, 3, none⟩) (Nat.le_succ _) (.int .i64 k3)).setCell (p := ⟨w.heap.size + 1, 4, none⟩) (Nat.le_succ _) (.int .i64 k4)).setCell (p := ⟨w.heap.size + 1, 5, none⟩) (Nat.le_succ _) (.int .i64 k5)).setCell (p := ⟨w.heap.size + 1, 6, none⟩) (Nat.le_succ _) (.int .i64 k6)).setCell (p := ⟨w.heap.size + 1, 7, none⟩) (Nat.le_succ _) (.int .i64 k7)).setCell (p := ⟨w.heap.size + 1, 8, none⟩) (Nat.le_succ _) (.int .i64 k8)).setCell (p := ⟨w.heap.size + 1, 9, none⟩) (Nat.le_succ _) (.int .i64 k9)).setCell (p := ⟨w.heap.size + 1, 10, none⟩) (Nat.le_succ _) (.int .i64 k10)).setCell (p := ⟨w.heap.size + 1, 11, none⟩) (Nat.le_succ _) (.int .i64 k11)).setCell (p := ⟨w.heap.size + 1, 12, none⟩) (Nat.le_succ _) (.int .i64 k12)).setCell (p := ⟨w.heap.size + 1, 13, none⟩) (Nat.le_succ _) (.int .i64 k13)).setCell (p := ⟨w.heap.size + 1, 14, none⟩) (Nat.le_succ _) (.int .i64 k14)).setCell (p := ⟨w.heap.size + 1, 15, none⟩) (Nat.le_succ _) (.int .i64 k15))
      go_wp2
      refine bodyPost_ret (v := .agg #[.int .i64 k0, .int .i64 k1, .int .i64 k2, .int .i64 k3, .int .i64 k4, .int .i64 k5, .int .i64 k6, .int .i64 k7, .int .i64 k8, .int .i64 k9, .int .i64 k10, .int .i64 k11, .int .i64 k12, .int .i64 k13, .int .i64 k14, .int .i64 k15]) (by simp [results, Try.results34, go_sem, z0, z1, z2, z3, z4, z5, z6, z7, z8, z9, z10, z11, z12, z13, z14, z15]) rfl ?_
      rw [HAR.out]
      exact ⟨rfl, HB.out⟩
end Go.Proofs.Ytdcmoeklldkccaa
