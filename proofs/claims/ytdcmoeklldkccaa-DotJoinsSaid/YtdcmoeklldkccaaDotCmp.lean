/- dot: compare, Less; the document's Less. -/
import Derived.Test.YtdcmoeklldkccaaDotMath
import Derived.Test.YtdcmoeklldkccaaKit
import Derived.Shelf.GgSortFunc.InsertionK
import Derived.Shelf.SlSortCmp.Insertion
import Derived.Sort.Grow
import Derived.StillTailTactics
namespace Go.Proofs.Ytdcmoeklldkccaa
open Go.RowKit Go.ChangeShapes cl Go.Sort

/-- what compare answers -/
def cf (x y : Dot) : Int := if Lib.compareInt x.1 y.1 = 0 then Lib.compareInt x.2 y.2 else Lib.compareInt x.1 y.1
theorem cmp_zero (a b : Int) : Lib.compareInt a b = 0 ↔ a = b := by
  unfold Lib.compareInt
  by_cases h1 : a < b
  · simp [h1]; omega
  · by_cases h2 : b < a
    · simp [h1, h2]; omega
    · simp [h1, h2]; omega
theorem cmp_neg (a b : Int) : Lib.compareInt a b < 0 ↔ a < b := by
  unfold Lib.compareInt
  by_cases h1 : a < b
  · simp [h1]
  · by_cases h2 : b < a <;> simp [h1, h2]
theorem cf_neg (x y : Dot) : cf x y < 0 ↔ dless x y = true := by
  rw [dm.dless_iff]
  unfold cf
  by_cases h : x.1 = y.1
  · rw [if_pos ((cmp_zero _ _).2 h), cmp_neg]; omega
  · rw [if_neg (fun e => h ((cmp_zero _ _).1 e)), cmp_neg]; omega
theorem ltOf_cf (x y : Dot) : ltOf cf x y = dless x y := by
  have : ltOf cf x y = true ↔ dless x y = true := by
    unfold ltOf
    rw [decide_eq_true_iff, cf_neg]
  exact Bool.eq_iff_iff.2 this
theorem swo : SWO (ltOf cf) where
  irrefl x := by rw [ltOf_cf]; cases h : dless x x with
    | false => rfl
    | true => exact (dm.dless_irrefl x h).elim
  trans x y z h1 h2 := by rw [ltOf_cf] at *; exact dm.dless_trans h1 h2
  ntrans x y z h1 h2 := by
    rw [ltOf_cf] at *
    cases h : dless x z with
    | false => rfl
    | true =>
      rw [dm.dless_iff] at h
      have h3 : ¬ (x.1 < y.1 ∨ x.1 = y.1 ∧ x.2 < y.2) := fun e => by rw [(dm.dless_iff x y).2 e] at h1; cases h1
      have h4 : ¬ (y.1 < z.1 ∨ y.1 = z.1 ∧ y.2 < z.2) := fun e => by rw [(dm.dless_iff y z).2 e] at h2; cases h2
      omega

/-- the library's cmp.Compare at whole numbers -/
def CC : Prop := ∀ (x y : Int) (w : World), Calls Try.prog 43 #[.int .i64 x, .int .i64 y] w fun e w' => e = .returned (.int .i64 (Lib.compareInt x y)) ∧ w' = w

set_option maxHeartbeats 800000 in
set_option maxRecDepth 100000 in
/-- cmp.Or of two -/
theorem or_two (x y : Int) (g : Nat) (w : World) (h0 : w.cell? ⟨g, 0, none⟩ = some (.int .i64 x)) (h1 : w.cell? ⟨g, 1, none⟩ = some (.int .i64 y)) :
    Calls Try.prog 42 #[.slice (some ⟨g, 0, none⟩) 2 2] w fun e w' => e = .returned (.int .i64 (if x = 0 then y else x)) ∧ w' = w := by
  obtain ⟨R, hR⟩ : ∃ R, R = if x = 0 then y else x := ⟨_, rfl⟩
  rw [← hR]
  have HR := Lib.hid hR
  clear hR
  go_enter Try.func42, Try.ntmps42
  go_wp2
  go_loop [5, 8] (fun _ i => ∃ k : Nat, i = .int .i64 k ∧ k ≤ 2 ∧ Hid (0 < k → x = 0) ∧ Hid (1 < k → y = 0)) (fun _ i => 2 - (intOf i).toNat)
  case atStart => exact ⟨0, rfl, by omega, fun h => absurd h (by omega), fun h => absurd h (by omega)⟩
  case round =>
    obtain ⟨k, rfl, hk, HX, HY⟩ := hrel
    rcases (by omega : k = 0 ∨ k = 1 ∨ k = 2) with rfl | rfl | rfl
    · by_cases hx : x = 0
      · have hxb : (x == 0) = true := by simpa using hx
        have hxc : (x != 0) = false := by simpa using hx
        have HX1 : Hid (x = 0) := hx
        subst hx
        go_wp2
        go_round
        case rel => exact ⟨1, by go_num, by omega, (by first | exact True.intro | exact fun _ => by first | rfl | exact True.intro), (by first | exact True.intro | exact fun h => absurd h (by omega))⟩
        case measure => simp [intOf]
      · have hxb : (x == 0) = false := by simpa using hx
        have hxc : (x != 0) = true := by simpa using hx
        have HE : Hid (R = x) := by show _ = _; rw [HR.out, if_neg hx]
        clear hx
        go_wp2
        go_ret
        rw [HE.out]; exact ⟨rfl, rfl⟩
    · have hx0 := HX.out (by omega)
      by_cases hy : y = 0
      · subst hy
        go_wp2
        go_round
        case rel => exact ⟨2, by go_num, by omega, (by first | exact True.intro | exact fun _ => hx0), (by first | exact True.intro | exact fun _ => by first | rfl | exact True.intro)⟩
        case measure => simp [intOf]
      · have hyb : (y == 0) = false := by simpa using hy
        have hyc : (y != 0) = true := by simpa using hy
        have HE : Hid (R = y) := by show _ = _; rw [HR.out, if_pos hx0]
        clear hy hx0
        go_wp2
        go_ret
        rw [HE.out]; exact ⟨rfl, rfl⟩
    · have HE : Hid (R = 0) := by show _ = _; rw [HR.out, if_pos (HX.out (by omega)), HY.out (by omega)]
      go_wp2
      go_ret
      rw [HE.out]; exact ⟨rfl, rfl⟩

theorem grow3 (W : World) (A B C : Obj) : (((W.alloc A).alloc B).alloc C).drew = grow (W.drewN 1) (#[A] ++ (#[B] ++ #[C])) := by
  rw [alloc_eq_grow, alloc_eq_grow, alloc_eq_grow, grow_grow, grow_grow, drew_grow]
  rfl
theorem box1 (W : World) (x y : Value) (t : TypeId) (B : Obj) (_u : Unit) (k : Nat) (u : Value) (hk : (#[x, y] : Array Value)[k]? = some u) : ((W.alloc (.cells #[x, y] t)).alloc B).drew.cell? ⟨W.heap.size, k, none⟩ = some u := by
  show ((W.alloc (.cells #[x, y] t)).alloc B).cell? _ = _
  rw [World.cell?_alloc_lt _ _ _ (show W.heap.size < (W.alloc (.cells #[x, y] t)).heap.size by simp), World.cell?_alloc_at _ _ _ _ rfl]
  exact hk
theorem box1b (W : World) (A : Obj) (x y : Value) (t : TypeId) (k : Nat) (u : Value) (hk : (#[x, y] : Array Value)[k]? = some u) : ((W.alloc A).alloc (.cells #[x, y] t)).drew.cell? ⟨W.heap.size + 1, k, none⟩ = some u := by
  have e : (W.alloc A).heap.size = W.heap.size + 1 := World.size_alloc _ _
  show ((W.alloc A).alloc (.cells #[x, y] t)).cell? _ = _
  rw [← e, World.cell?_alloc_at _ _ _ _ rfl]
  exact hk
theorem box2 (W : World) (A B : Obj) (x y : Value) (t : TypeId) (k : Nat) (u : Value) (hk : (#[x, y] : Array Value)[k]? = some u) : (((W.alloc A).alloc B).alloc (.cells #[x, y] t)).drew.cell? ⟨W.heap.size + 1 + 1, k, none⟩ = some u := by
  have e : ((W.alloc A).alloc B).heap.size = W.heap.size + 1 + 1 := by
    rw [World.size_alloc, World.size_alloc]
  show (((W.alloc A).alloc B).alloc (.cells #[x, y] t)).cell? _ = _
  rw [← e, World.cell?_alloc_at _ _ _ _ rfl]
  exact hk
set_option maxHeartbeats 1600000 in
set_option maxRecDepth 100000 in
/-- compare, in whatever world: it lays blocks -/
theorem compare_any (hcc : CC) (x y : Dot) (W : World) : Calls Try.prog 30 #[.agg #[.int .i64 x.1, .int .i64 x.2], .agg #[.int .i64 y.1, .int .i64 y.2]] W fun e w' => e = .returned (.int .i64 (cf x y)) ∧ ∃ q os', w' = grow (W.drewN q) os' := by
  obtain ⟨a, b⟩ := x
  obtain ⟨c, d⟩ := y
  obtain ⟨p, hp⟩ : ∃ p, p = Lib.compareInt a c := ⟨_, rfl⟩
  obtain ⟨q, hq⟩ : ∃ q, q = Lib.compareInt b d := ⟨_, rfl⟩
  have HP : Hid (∀ W, Calls Try.prog 43 #[.int .i64 a, .int .i64 c] W fun e w' => e = .returned (.int .i64 p) ∧ w' = W) := fun W => by rw [hp]; exact hcc a c W
  have HQ : Hid (∀ W, Calls Try.prog 43 #[.int .i64 b, .int .i64 d] W fun e w' => e = .returned (.int .i64 q) ∧ w' = W) := fun W => by rw [hq]; exact hcc b d W
  have HC : Hid (cf (a, b) (c, d) = if p = 0 then q else p) := by show cf _ _ = _; unfold cf; rw [← hp, ← hq]
  obtain ⟨R, hR⟩ : ∃ R, R = cf (a, b) (c, d) := ⟨_, rfl⟩
  rw [← hR] at HC ⊢
  clear hp hq hR hcc
  go_enter Try.func30, Try.ntmps30
  go_wp2
  have x0 : ((W.alloc (.cells #[.int .i64 a, .int .i64 b] 26)).alloc (.cells #[.int .i64 c, .int .i64 d] 26)).drew.cell? ⟨W.heap.size, 0, none⟩ = some (.int .i64 a) := box1 W _ _ _ _ () 0 _ rfl
  have x1 : ((W.alloc (.cells #[.int .i64 a, .int .i64 b] 26)).alloc (.cells #[.int .i64 c, .int .i64 d] 26)).drew.cell? ⟨W.heap.size, 1, none⟩ = some (.int .i64 b) := box1 W _ _ _ _ () 1 _ rfl
  have x2 : ((W.alloc (.cells #[.int .i64 a, .int .i64 b] 26)).alloc (.cells #[.int .i64 c, .int .i64 d] 26)).drew.cell? ⟨W.heap.size + 1, 0, none⟩ = some (.int .i64 c) := box1b W _ _ _ _ 0 _ rfl
  have x3 : ((W.alloc (.cells #[.int .i64 a, .int .i64 b] 26)).alloc (.cells #[.int .i64 c, .int .i64 d] 26)).drew.cell? ⟨W.heap.size + 1, 1, none⟩ = some (.int .i64 d) := box1b W _ _ _ _ 1 _ rfl
  have HG := Lib.hid (fun C => grow3 W (.cells #[.int .i64 a, .int .i64 b] 26) (.cells #[.int .i64 c, .int .i64 d] 26) C)
  refine wp_region_still_tail 10 (by kernel_rfl) (by kernel_rfl) ?_
  change wpStill _ _ ((W.alloc (.cells #[.int .i64 a, .int .i64 b] 26)).alloc (.cells #[.int .i64 c, .int .i64 d] 26)).drew (fun a' => wpList _ _ _ _ a' ((W.alloc (.cells #[.int .i64 a, .int .i64 b] 26)).alloc (.cells #[.int .i64 c, .int .i64 d] 26)).drew) _ _
  have HG2 : Hid (∀ C, (((W.alloc (.cells #[.int .i64 a, .int .i64 b] 26)).alloc (.cells #[.int .i64 c, .int .i64 d] 26)).drew).alloc C = grow (W.drewN 1) (#[(.cells #[.int .i64 a, .int .i64 b] 26)] ++ (#[(.cells #[.int .i64 c, .int .i64 d] 26)] ++ #[C]))) := fun C => HG.out C
  generalize ((W.alloc (.cells #[.int .i64 a, .int .i64 b] 26)).alloc (.cells #[.int .i64 c, .int .i64 d] 26)).drew = X1 at x0 x1 x2 x3 HG2 ⊢
  clear HG
  simp only [List.take_succ_cons, List.take_zero, List.drop_succ_cons, List.drop_zero]
  still_step
  still_step
  still_step
  still_step
  still_call (HP.out _)
  still_step
  still_step
  still_step
  still_step
  still_call (HQ.out _)
  refine wpStill_nil ?_
  have HO := Lib.hid (or_two p q X1.heap.size (X1.alloc (.cells #[.int .i64 p, .int .i64 q] 3)) (World.cell?_alloc_at _ _ _ _ rfl) (World.cell?_alloc_at _ _ _ _ rfl))
  rw [← HC.out] at HO
  go_wp2_with (go_at_call 42; (with_reducible refine HO.out.mono ?_); rintro e w' ⟨rfl, rfl⟩)
  go_ret
  exact ⟨rfl, 1, _, HG2.out _⟩
end Go.Proofs.Ytdcmoeklldkccaa
