/- texts put together: DotLay. -/
import Derived.Test.YtonknpdalemjkaaGreatDe09
open List (setIfInBounds_toArray set_cons_zero set_cons_succ take_succ_cons take_zero drop_succ_cons drop_zero)
namespace Go.Proofs.YtonknpdalemjkaaGreat
open Go Go.RowKit Go.ChangeShapes cl Go.Sort
namespace dm
def RunIs (K0 : Int → Int) (p : List Dot) (K : Int → Int) (cl : List Dot) : Prop := (run K0 p).K = K ∧ (run K0 p).cloud = cl
theorem take_snoc {L : List Dot} {k : Nat} (h : k < L.length) : L.take (k + 1) = L.take k ++ [L.getD k (0, 0)] := by
 rw [List.take_succ_eq_append_getElem h]
 simp [List.getD, h]
theorem prev_is {K0 : Int → Int} {L : List Dot} {k : Nat} (h : k < L.length) (d : Dot) : (run K0 (L.take k)).prev = some d ↔ 0 < k ∧ L.getD (k - 1) (0, 0) = d := by
 rw [run_prev]
 cases k with
 | zero => simp
 | succ k =>
  rw [take_snoc (by omega)]
  simp
theorem runis_same {K0 K : Int → Int} {L cl : List Dot} {k : Nat} (h : RunIs K0 (L.take k) K cl) (hk : k < L.length) (hc : (0 < k ∧ L.getD (k - 1) (0, 0) = L.getD k (0, 0)) ∨ (L.getD k (0, 0)).2 ≤ K (L.getD k (0, 0)).1) : RunIs K0 (L.take (k + 1)) K cl := by
 unfold RunIs
 rw [take_snoc hk, run_snoc]
 unfold step
 rw [if_pos (hc.imp (fun e => (prev_is hk _).2 e) (fun e => by rw [h.1]; exact e))]
 exact h
theorem runis_up {K0 K : Int → Int} {L cl : List Dot} {k : Nat} (h : RunIs K0 (L.take k) K cl) (hk : k < L.length) (hc : ¬ ((0 < k ∧ L.getD (k - 1) (0, 0) = L.getD k (0, 0)) ∨ (L.getD k (0, 0)).2 ≤ K (L.getD k (0, 0)).1))
  (he : (L.getD k (0, 0)).2 = K (L.getD k (0, 0)).1 + 1) : RunIs K0 (L.take (k + 1)) (put1 K ((L.getD k (0, 0)).1, K (L.getD k (0, 0)).1 + 1)) cl := by
 unfold RunIs
 rw [take_snoc hk, run_snoc]
 unfold step
 rw [if_neg (fun x => hc (x.imp (fun e => (prev_is hk _).1 e) (fun e => by rw [h.1] at e; exact e))), if_pos (by rw [h.1]; exact he)]
 refine ⟨?_, h.2⟩
 funext n
 show (if n = (L.getD k (0, 0)).1 then (run K0 (L.take k)).K n + 1 else (run K0 (L.take k)).K n) = put1 K _ n
 unfold put1
 rw [h.1]
 by_cases e : n = (L.getD k (0, 0)).1
 ·
  rw [if_pos e, if_pos e, e]
 ·
  rw [if_neg e, if_neg e]
theorem runis_put {K0 K : Int → Int} {L cl : List Dot} {k : Nat} (h : RunIs K0 (L.take k) K cl) (hk : k < L.length) (hc : ¬ ((0 < k ∧ L.getD (k - 1) (0, 0) = L.getD k (0, 0)) ∨ (L.getD k (0, 0)).2 ≤ K (L.getD k (0, 0)).1))
  (he : ¬ (L.getD k (0, 0)).2 = K (L.getD k (0, 0)).1 + 1) : RunIs K0 (L.take (k + 1)) K (cl ++ [L.getD k (0, 0)]) := by
 unfold RunIs
 rw [take_snoc hk, run_snoc]
 unfold step
 rw [if_neg (fun x => hc (x.imp (fun e => (prev_is hk _).1 e) (fun e => by rw [h.1] at e; exact e))), if_neg (by rw [h.1]; exact he)]
 exact ⟨h.1, by show (run K0 (L.take k)).cloud ++ _ = _; rw [h.2]⟩
theorem runis_bd {K0 K : Int → Int} {L cl : List Dot} {k : Nat} (h : RunIs K0 (L.take k) K cl) (hK : ∀ n, 0 ≤ K0 n ∧ K0 n ≤ 1099511627776) (hu : Up L) (hv : ∀ d ∈ L, valid d = true) (hk : k ≤ L.length) : (∀ n, 0 ≤ K n ∧ K n ≤ 1099511627776) ∧ cl.length ≤ k := by
 have h1 := inv_run hK (l := L.take k) (List.Pairwise.sublist (List.take_sublist k L) hu) (fun d hd => hv d (List.mem_of_mem_take hd))
 have h2 := run_len K0 (L.take k)
 rw [h.2, List.length_take] at h2
 exact ⟨fun n => by rw [← h.1]; exact h1.top n, by omega⟩
end dm
structure LS (H C : Nat) (K : Int → Int) (vv vc : Value) (w4 W : World) : Prop where
 k : KAt W H K
 r0 : W.cell? ⟨H + 1, 0, none⟩ = some (.slice none 0 0)
 r1 : W.cell? ⟨H + 1, 1, none⟩ = some (.slice none 0 0)
 s0 : W.frozen? ⟨H + 1, 0, none⟩ = false
 s1 : W.frozen? ⟨H + 1, 1, none⟩ = false
 c0 : W.cell? ⟨C, 0, none⟩ = some vv
 c1 : W.cell? ⟨C, 1, none⟩ = some vc
 f0 : W.frozen? ⟨C, 0, none⟩ = false
 f1 : W.frozen? ⟨C, 1, none⟩ = false
 hb : Below H w4 W
 hz : C + 1 ≤ W.heap.size
theorem LS.step {H C D : Nat} {K : Int → Int} {vv vc : Value} {w4 W W' : World} (h : LS H C K vv vc w4 W) (hHC : H + 2 ≤ C) (hD : C + 1 ≤ D) (hb : Below D W W') : LS H C K vv vc w4 W' := by
 have c : ∀ (b j : Nat), b < D → W'.cell? ⟨b, j, none⟩ = W.cell? ⟨b, j, none⟩ := fun b j hlt => hb.cell (p := ⟨b, j, none⟩) hlt
 have f : ∀ (b j : Nat), b < D → W'.frozen? ⟨b, j, none⟩ = W.frozen? ⟨b, j, none⟩ := fun b j hlt => hb.frozen (p := ⟨b, j, none⟩) hlt
 have hs := hb.size
 exact ⟨h.k.below hb (by omega), by rw [c _ _ (by omega)]; exact h.r0, by rw [c _ _ (by omega)]; exact h.r1, by rw [f _ _ (by omega)]; exact h.s0, by rw [f _ _ (by omega)]; exact h.s1,
  by rw [c _ _ (by omega)]; exact h.c0, by rw [c _ _ (by omega)]; exact h.c1, by rw [f _ _ (by omega)]; exact h.f0, by rw [f _ _ (by omega)]; exact h.f1, h.hb.trans (hb.mono (by omega)), by have := h.hz; omega⟩
theorem cell_far {W : World} {b j b' j' : Nat} {u : Value} (hne : b ≠ b') : (W.setCell ⟨b, j, none⟩ u).cell? ⟨b', j', none⟩ = W.cell? ⟨b', j', none⟩ :=
 World.cell?_setCell_other _ _ _ _ (fun e => hne (by simpa using (congrArg Addr.block e)))
theorem size_set (W : World) (p : Addr) (u : Value) : (W.setCell p u).heap.size = W.heap.size := by simp [World.setCell]
theorem LS.putK {H C : Nat} {K : Int → Int} {vv vc : Value} {w4 W : World} (h : LS H C K vv vc w4 W) (hHC : H + 2 ≤ C) {m : Nat} (hm : m < 16) (u : Int) : LS H C (dm.put1 K ((m : Int), u)) vv vc w4 (W.setCell ⟨H, m, none⟩ (.int .i64 u)) := by
 refine ⟨h.k.put ((m : Int), u) rfl hm, ?_, ?_, ?_, ?_, ?_, ?_, ?_, ?_, h.hb.setCell (Nat.le_refl _) _, by rw [size_set]; exact h.hz⟩
 ·
  rw [cell_far (by omega)]; exact h.r0
 ·
  rw [cell_far (by omega)]; exact h.r1
 ·
  rw [World.frozen?_setCell]; exact h.s0
 ·
  rw [World.frozen?_setCell]; exact h.s1
 ·
  rw [cell_far (by omega)]; exact h.c0
 ·
  rw [cell_far (by omega)]; exact h.c1
 ·
  rw [World.frozen?_setCell]; exact h.f0
 ·
  rw [World.frozen?_setCell]; exact h.f1
theorem KAt.far {W : World} {b p j : Nat} {K : Int → Int} {u : Value} (h : KAt W b K) (hne : p ≠ b) : KAt (W.setCell ⟨p, j, none⟩ u) b K := fun i hi =>
 ⟨by rw [cell_far hne]; exact (h i hi).1, by rw [World.frozen?_setCell]; exact (h i hi).2⟩
theorem LS.putC {H C : Nat} {K : Int → Int} {vv vc : Value} {w4 W : World} (h : LS H C K vv vc w4 W) (hHC : H + 2 ≤ C) (u : Value) : LS H C K vv u w4 (W.setCell ⟨C, 1, none⟩ u) := by
 refine ⟨h.k.far (by omega), ?_, ?_, ?_, ?_, ?_, ?_, ?_, ?_, h.hb.setCell (by show H ≤ C; omega) _, by rw [size_set]; exact h.hz⟩
 ·
  rw [cell_far (by omega)]; exact h.r0
 ·
  rw [cell_far (by omega)]; exact h.r1
 ·
  rw [World.frozen?_setCell]; exact h.s0
 ·
  rw [World.frozen?_setCell]; exact h.s1
 ·
  exact (World.cell?_setCell_other _ _ _ _ (fun e => by simp at e)).trans h.c0
 ·
  exact World.cell?_setCell_same _ _ _ h.c1
 ·
  rw [World.frozen?_setCell]; exact h.f0
 ·
  rw [World.frozen?_setCell]; exact h.f1
theorem LS.putV {H C : Nat} {K : Int → Int} {vv vc : Value} {w4 W : World} (h : LS H C K vv vc w4 W) (hHC : H + 2 ≤ C) (u : Value) : LS H C K u vc w4 (W.setCell ⟨C, 0, none⟩ u) := by
 refine ⟨h.k.far (by omega), ?_, ?_, ?_, ?_, ?_, ?_, ?_, ?_, h.hb.setCell (by show H ≤ C; omega) _, by rw [size_set]; exact h.hz⟩
 ·
  rw [cell_far (by omega)]; exact h.r0
 ·
  rw [cell_far (by omega)]; exact h.r1
 ·
  rw [World.frozen?_setCell]; exact h.s0
 ·
  rw [World.frozen?_setCell]; exact h.s1
 ·
  exact World.cell?_setCell_same _ _ _ h.c0
 ·
  exact (World.cell?_setCell_other _ _ _ _ (fun e => by simp at e)).trans h.c1
 ·
  rw [World.frozen?_setCell]; exact h.f0
 ·
  rw [World.frozen?_setCell]; exact h.f1
structure LD (H C : Nat) (K : Int → Int) (vv vc : Value) (w4 : World) (V : Nat) (a b : Int) (e o : Nat) (a' b' : Int) (cl : List Dot) (W : World) : Prop where
 ls : LS H C K vv vc w4 W
 v0 : W.cell? ⟨V, 0, none⟩ = some (.int .i64 a)
 v1 : W.cell? ⟨V, 1, none⟩ = some (.int .i64 b)
 p0 : W.cell? ⟨e, o, none⟩ = some (.int .i64 a')
 p1 : W.cell? ⟨e, o + 1, none⟩ = some (.int .i64 b')
 ho : W.ownsRow (C + 1) 51 2 vc cl.length (dcells cl)
theorem LD.drew {H C : Nat} {K : Int → Int} {vv vc : Value} {w4 : World} {V : Nat} {a b : Int} {e o : Nat} {a' b' : Int} {cl : List Dot} {W : World} (h : LD H C K vv vc w4 V a b e o a' b' cl W) (hHC : H + 2 ≤ C) : LD H C K vv vc w4 V a b e o a' b' cl W.drew :=
 ⟨h.ls.step hHC h.ls.hz (below_drewND (Below.refl _ _) 1), h.v0, h.v1, h.p0, h.p1, h.ho.drew⟩
theorem idx_run {arr : Array Value} {j : Nat} {u : Int} (hj : j < 16) (h : arr[j]? = some (.int .i64 u)) (W : World) : (Instr.index 94 (.agg arr) (.int .i64 (j : Int))).run Tryz.prog W = .ok (.int .i64 u) W := by
 simp [Instr.index, run_underlying Tryz.underlying94, asIntOf, go_sem, part, Tryz.isAgg3, Tryz.sizeOf3, h]
 omega
def OwnC (B : Nat) (w : World) (v : Value) (c : dm.Ctx) : Prop := ∃ a1 c1 a2 c2, v = .agg #[.slice a1 c.1.length c1, .slice a2 c.2.length c2] ∧ w.ownsRow B 51 2 (.slice a1 c.1.length c1) c.1.length (dcells c.1) ∧ w.ownsRow B 51 2 (.slice a2 c.2.length c2) c.2.length (dcells c.2)
theorem OwnC.at {B : Nat} {w : World} {v : Value} {c : dm.Ctx} (h : OwnC B w v c) : CtxAt w w.heap.size v c := by
 obtain ⟨a1, c1, a2, c2, rfl, h1, h2⟩ := h
 exact ⟨_, _, rfl, Cells.own h1, Cells.own h2⟩
theorem OwnC.set {B : Nat} {w : World} {v : Value} {c : dm.Ctx} (h : OwnC B w v c) {a : Addr} (ha : a.block < B) (u : Value) : OwnC B (w.setCell a u) v c := by
 obtain ⟨a1, c1, a2, c2, rfl, h1, h2⟩ := h
 exact ⟨_, _, _, _, rfl, ownsRow_setCell_below h1 ha u, ownsRow_setCell_below h2 ha u⟩
theorem own_mono {w : World} {base base' : Nat} {e : TypeId} {v : Value} {n k : Nat} {vs : List Value} (h : w.ownsRow base e k v n vs) (hb : base' ≤ base) : w.ownsRow base' e k v n vs :=
 ⟨h.1, h.2.imp id fun ⟨g, cap, cur, e, h1, r⟩ => ⟨g, cap, cur, e, Nat.le_trans hb h1, r⟩⟩
def LayP (K0 : Int → Int) (L : List Dot) (B : Nat) (w : World) (e : Ending) (w' : World) : Prop := ∃ v' L', L'.Perm L ∧ dm.Up L' ∧ e = .returned v' ∧ OwnC w.heap.size w' v' (dm.layF K0 L') ∧ Below B w w'
set_option maxHeartbeats 6400000 in
set_option maxRecDepth 100000 in
theorem lay_any (K0 : Int → Int) (L0 : List Dot) (v : Value) (q B : Nat) (w : World) (hown : w.ownsRow B 51 2 v q (dcells L0)) (hq : q = L0.length) (hB : B ≤ w.heap.size) (hl : q ≤ 1000000)
  (hK : ∀ n, 0 ≤ K0 n ∧ K0 n ≤ 1099511627776) (hv : ∀ d ∈ L0, valid d = true) : Calls Tryz.prog 85 #[arrV K0, v] w (LayP K0 L0 B w) := by
 obtain ⟨ao, cap, rfl⟩ := own_formD hown
 have hlt0 := hown.lt
 have hA1 : Below w.heap.size w (w.alloc (.cells #[.int .i64 (K0 0), .int .i64 (K0 1), .int .i64 (K0 2), .int .i64 (K0 3), .int .i64 (K0 4), .int .i64 (K0 5), .int .i64 (K0 6), .int .i64 (K0 7), .int .i64 (K0 8), .int .i64 (K0 9), .int .i64 (K0 10), .int .i64 (K0 11), .int .i64 (K0 12), .int .i64 (K0 13), .int .i64 (K0 14), .int .i64 (K0 15)] 94)) := (Below.refl _ _).alloc (Nat.le_refl _) _
 have hs1 : (w.alloc (.cells #[.int .i64 (K0 0), .int .i64 (K0 1), .int .i64 (K0 2), .int .i64 (K0 3), .int .i64 (K0 4), .int .i64 (K0 5), .int .i64 (K0 6), .int .i64 (K0 7), .int .i64 (K0 8), .int .i64 (K0 9), .int .i64 (K0 10), .int .i64 (K0 11), .int .i64 (K0 12), .int .i64 (K0 13), .int .i64 (K0 14), .int .i64 (K0 15)] 94)).heap.size = w.heap.size + 1 := World.size_alloc _ _
 have hA2 : Below (w.heap.size + 1) (w.alloc (.cells #[.int .i64 (K0 0), .int .i64 (K0 1), .int .i64 (K0 2), .int .i64 (K0 3), .int .i64 (K0 4), .int .i64 (K0 5), .int .i64 (K0 6), .int .i64 (K0 7), .int .i64 (K0 8), .int .i64 (K0 9), .int .i64 (K0 10), .int .i64 (K0 11), .int .i64 (K0 12), .int .i64 (K0 13), .int .i64 (K0 14), .int .i64 (K0 15)] 94)) ((w.alloc (.cells #[.int .i64 (K0 0), .int .i64 (K0 1), .int .i64 (K0 2), .int .i64 (K0 3), .int .i64 (K0 4), .int .i64 (K0 5), .int .i64 (K0 6), .int .i64 (K0 7), .int .i64 (K0 8), .int .i64 (K0 9), .int .i64 (K0 10), .int .i64 (K0 11), .int .i64 (K0 12), .int .i64 (K0 13), .int .i64 (K0 14), .int .i64 (K0 15)] 94)).alloc (.cells #[.slice none 0 0, .slice none 0 0] 25)) := (Below.refl _ _).alloc (by rw [hs1]; exact Nat.le_refl _) _
 have hs2 : ((w.alloc (.cells #[.int .i64 (K0 0), .int .i64 (K0 1), .int .i64 (K0 2), .int .i64 (K0 3), .int .i64 (K0 4), .int .i64 (K0 5), .int .i64 (K0 6), .int .i64 (K0 7), .int .i64 (K0 8), .int .i64 (K0 9), .int .i64 (K0 10), .int .i64 (K0 11), .int .i64 (K0 12), .int .i64 (K0 13), .int .i64 (K0 14), .int .i64 (K0 15)] 94)).alloc (.cells #[.slice none 0 0, .slice none 0 0] 25)).heap.size = w.heap.size + 2 := by rw [World.size_alloc, hs1]
 have HK2 : Hid (KAt ((w.alloc (.cells #[.int .i64 (K0 0), .int .i64 (K0 1), .int .i64 (K0 2), .int .i64 (K0 3), .int .i64 (K0 4), .int .i64 (K0 5), .int .i64 (K0 6), .int .i64 (K0 7), .int .i64 (K0 8), .int .i64 (K0 9), .int .i64 (K0 10), .int .i64 (K0 11), .int .i64 (K0 12), .int .i64 (K0 13), .int .i64 (K0 14), .int .i64 (K0 15)] 94)).alloc (.cells #[.slice none 0 0, .slice none 0 0] 25)) w.heap.size K0) := (KAt.box w K0 94).below hA2 (by omega)
 have HR2 : Hid (((w.alloc (.cells #[.int .i64 (K0 0), .int .i64 (K0 1), .int .i64 (K0 2), .int .i64 (K0 3), .int .i64 (K0 4), .int .i64 (K0 5), .int .i64 (K0 6), .int .i64 (K0 7), .int .i64 (K0 8), .int .i64 (K0 9), .int .i64 (K0 10), .int .i64 (K0 11), .int .i64 (K0 12), .int .i64 (K0 13), .int .i64 (K0 14), .int .i64 (K0 15)] 94)).alloc (.cells #[.slice none 0 0, .slice none 0 0] 25)).cell? ⟨w.heap.size + 1, 0, none⟩ = some (.slice none 0 0) ∧ ((w.alloc (.cells #[.int .i64 (K0 0), .int .i64 (K0 1), .int .i64 (K0 2), .int .i64 (K0 3), .int .i64 (K0 4), .int .i64 (K0 5), .int .i64 (K0 6), .int .i64 (K0 7), .int .i64 (K0 8), .int .i64 (K0 9), .int .i64 (K0 10), .int .i64 (K0 11), .int .i64 (K0 12), .int .i64 (K0 13), .int .i64 (K0 14), .int .i64 (K0 15)] 94)).alloc (.cells #[.slice none 0 0, .slice none 0 0] 25)).cell? ⟨w.heap.size + 1, 1, none⟩ = some (.slice none 0 0) ∧ ((w.alloc (.cells #[.int .i64 (K0 0), .int .i64 (K0 1), .int .i64 (K0 2), .int .i64 (K0 3), .int .i64 (K0 4), .int .i64 (K0 5), .int .i64 (K0 6), .int .i64 (K0 7), .int .i64 (K0 8), .int .i64 (K0 9), .int .i64 (K0 10), .int .i64 (K0 11), .int .i64 (K0 12), .int .i64 (K0 13), .int .i64 (K0 14), .int .i64 (K0 15)] 94)).alloc (.cells #[.slice none 0 0, .slice none 0 0] 25)).frozen? ⟨w.heap.size + 1, 0, none⟩ = false ∧ ((w.alloc (.cells #[.int .i64 (K0 0), .int .i64 (K0 1), .int .i64 (K0 2), .int .i64 (K0 3), .int .i64 (K0 4), .int .i64 (K0 5), .int .i64 (K0 6), .int .i64 (K0 7), .int .i64 (K0 8), .int .i64 (K0 9), .int .i64 (K0 10), .int .i64 (K0 11), .int .i64 (K0 12), .int .i64 (K0 13), .int .i64 (K0 14), .int .i64 (K0 15)] 94)).alloc (.cells #[.slice none 0 0, .slice none 0 0] 25)).frozen? ⟨w.heap.size + 1, 1, none⟩ = false) := by
  refine ⟨?_, ?_, ?_, ?_⟩
  ·
   rw [← hs1]; exact World.cell?_alloc_at _ _ _ _ rfl
  ·
   rw [← hs1]; exact World.cell?_alloc_at _ _ _ _ rfl
  ·
   rw [← hs1]; exact World.frozen?_alloc_at _ _ _ _ rfl
  ·
   rw [← hs1]; exact World.frozen?_alloc_at _ _ _ _ rfl
 have hA : Below w.heap.size w ((w.alloc (.cells #[.int .i64 (K0 0), .int .i64 (K0 1), .int .i64 (K0 2), .int .i64 (K0 3), .int .i64 (K0 4), .int .i64 (K0 5), .int .i64 (K0 6), .int .i64 (K0 7), .int .i64 (K0 8), .int .i64 (K0 9), .int .i64 (K0 10), .int .i64 (K0 11), .int .i64 (K0 12), .int .i64 (K0 13), .int .i64 (K0 14), .int .i64 (K0 15)] 94)).alloc (.cells #[.slice none 0 0, .slice none 0 0] 25)) := hA1.trans (hA2.mono (by omega))
 have hown2 : ((w.alloc (.cells #[.int .i64 (K0 0), .int .i64 (K0 1), .int .i64 (K0 2), .int .i64 (K0 3), .int .i64 (K0 4), .int .i64 (K0 5), .int .i64 (K0 6), .int .i64 (K0 7), .int .i64 (K0 8), .int .i64 (K0 9), .int .i64 (K0 10), .int .i64 (K0 11), .int .i64 (K0 12), .int .i64 (K0 13), .int .i64 (K0 14), .int .i64 (K0 15)] 94)).alloc (.cells #[.slice none 0 0, .slice none 0 0] 25)).ownsRow B 51 2 (.slice ao q cap) q (dcells L0) := own_stayD hown hA
 have HS := Lib.hid (dsort_all (.slice ao q cap) q B L0 _ hown2 hq (by omega) (by omega))
 have HQ := Lib.hid hq
 have HKB := Lib.hid hK
 have HV0 := Lib.hid hv
 have HLT0 := Lib.hid hlt0
 unfold arrV
 clear hown hown2 hA1 hA2 hs1 hq hK hv hlt0
 go_enter Tryz.func85, Tryz.ntmps85
 go_wp2_with fail
 (with_reducible refine HS.out.mono ?_)
 rintro e w3 ⟨rfl, L, hp, hu, hown3, hg3⟩
 have hA3 : Below w.heap.size ((w.alloc (.cells #[.int .i64 (K0 0), .int .i64 (K0 1), .int .i64 (K0 2), .int .i64 (K0 3), .int .i64 (K0 4), .int .i64 (K0 5), .int .i64 (K0 6), .int .i64 (K0 7), .int .i64 (K0 8), .int .i64 (K0 9), .int .i64 (K0 10), .int .i64 (K0 11), .int .i64 (K0 12), .int .i64 (K0 13), .int .i64 (K0 14), .int .i64 (K0 15)] 94)).alloc (.cells #[.slice none 0 0, .slice none 0 0] 25)) ((w.alloc (.cells #[.int .i64 (K0 0), .int .i64 (K0 1), .int .i64 (K0 2), .int .i64 (K0 3), .int .i64 (K0 4), .int .i64 (K0 5), .int .i64 (K0 6), .int .i64 (K0 7), .int .i64 (K0 8), .int .i64 (K0 9), .int .i64 (K0 10), .int .i64 (K0 11), .int .i64 (K0 12), .int .i64 (K0 13), .int .i64 (K0 14), .int .i64 (K0 15)] 94)).alloc (.cells #[.slice none 0 0, .slice none 0 0] 25)) := Below.refl _ _
 generalize ((w.alloc (.cells #[.int .i64 (K0 0), .int .i64 (K0 1), .int .i64 (K0 2), .int .i64 (K0 3), .int .i64 (K0 4), .int .i64 (K0 5), .int .i64 (K0 6), .int .i64 (K0 7), .int .i64 (K0 8), .int .i64 (K0 9), .int .i64 (K0 10), .int .i64 (K0 11), .int .i64 (K0 12), .int .i64 (K0 13), .int .i64 (K0 14), .int .i64 (K0 15)] 94)).alloc (.cells #[.slice none 0 0, .slice none 0 0] 25)) = w2 at hA HK2 HR2 hg3 hs2 hA3
 clear HS hA3
 have hz3 := hg3.size
 have HQL : Hid (q = L.length) := by show q = _; rw [HQ.out]; exact hp.length_eq.symm
 have HV : Hid (∀ d ∈ L, valid d = true) := fun d hd => HV0.out d (hp.mem_iff.1 hd)
 have HU := Lib.hid hu
 have HP := Lib.hid hp
 have HC3 : Hid (Cells w3 w.heap.size (.slice ao q cap) q 2 (dcells L)) := own_lt hown3 fun g hg => (HLT0.out g hg).2
 have hk3 : ∀ i, i < w2.heap.size → w.heap.size ≤ i → w3.heap[i]? = w2.heap[i]? := fun i hi hge => grown_keep hg3 hi fun g hg => by have := (HLT0.out g hg).2; omega
 have hb3 : Below B w w3 := (hA.mono hB).grown hg3 (by omega) (fun k hk => (HLT0.out k hk).1)
 have HK3 : Hid (KAt w3 w.heap.size K0) := fun j hj => by
  have := HK2.out j hj
  exact ⟨(World.cell?_of_block (a := ⟨w.heap.size, j, none⟩) (hk3 w.heap.size (by omega) (Nat.le_refl _))).trans this.1, (World.frozen?_of_block (a := ⟨w.heap.size, j, none⟩) (hk3 w.heap.size (by omega) (Nat.le_refl _))).trans this.2⟩
 have HR3 : Hid (w3.cell? ⟨w.heap.size + 1, 0, none⟩ = some (.slice none 0 0) ∧ w3.cell? ⟨w.heap.size + 1, 1, none⟩ = some (.slice none 0 0) ∧ w3.frozen? ⟨w.heap.size + 1, 0, none⟩ = false ∧ w3.frozen? ⟨w.heap.size + 1, 1, none⟩ = false) := by
  obtain ⟨a0, a1, a2, a3⟩ := HR2.out
  have hk := hk3 (w.heap.size + 1) (by omega) (by omega)
  exact ⟨(World.cell?_of_block (a := ⟨w.heap.size + 1, 0, none⟩) hk).trans a0, (World.cell?_of_block (a := ⟨w.heap.size + 1, 1, none⟩) hk).trans a1, (World.frozen?_of_block (a := ⟨w.heap.size + 1, 0, none⟩) hk).trans a2, (World.frozen?_of_block (a := ⟨w.heap.size + 1, 1, none⟩) hk).trans a3⟩
 have hC : w.heap.size + 2 ≤ w3.heap.size := by omega
 have hA4 : Below w3.heap.size w3 (w3.alloc (.cells #[.slice none 0 0, .slice none 0 0] 25)) := (Below.refl _ _).alloc (Nat.le_refl _) _
 have HLS : Hid (LS w.heap.size w3.heap.size K0 (.slice none 0 0) (.slice none 0 0) (w3.alloc (.cells #[.slice none 0 0, .slice none 0 0] 25)) (w3.alloc (.cells #[.slice none 0 0, .slice none 0 0] 25))) := by
  obtain ⟨a0, a1, a2, a3⟩ := HR3.out
  exact ⟨HK3.out.below hA4 (by omega), (hA4.cell (p := ⟨w.heap.size + 1, 0, none⟩) (by show w.heap.size + 1 < _; omega)).trans a0, (hA4.cell (p := ⟨w.heap.size + 1, 1, none⟩) (by show w.heap.size + 1 < _; omega)).trans a1,
   (hA4.frozen (p := ⟨w.heap.size + 1, 0, none⟩) (by show w.heap.size + 1 < _; omega)).trans a2, (hA4.frozen (p := ⟨w.heap.size + 1, 1, none⟩) (by show w.heap.size + 1 < _; omega)).trans a3,
   World.cell?_alloc_at _ _ _ _ rfl, World.cell?_alloc_at _ _ _ _ rfl, World.frozen?_alloc_at _ _ _ _ rfl, World.frozen?_alloc_at _ _ _ _ rfl, Below.refl _ _, Nat.le_of_eq (World.size_alloc _ _).symm⟩
 have HC4 : Hid (Dots (w3.alloc (.cells #[.slice none 0 0, .slice none 0 0] 25)) w.heap.size (.slice ao q cap) L) := by
  show Cells _ _ _ _ _ _
  rw [← HQL.out]
  exact HC3.out.below (hA4.mono (by omega))
 have HB4 : Hid (Below B w (w3.alloc (.cells #[.slice none 0 0, .slice none 0 0] 25))) := hb3.trans (hA4.mono (by omega))
 have HB0 := Lib.hid hB
 have hq63 : q ≤ 9223372036854775807 := by omega
 clear hp hu hown3 hg3 hk3 hb3 HK2 HR2 HK3 HR3 HC3 hA hA4 hz3 hs2 hB
 go_wp2
 generalize w3.alloc (.cells #[.slice none 0 0, .slice none 0 0] 25) = w4 at HLS HC4 HB4 ⊢
 obtain ⟨C, hCe⟩ : ∃ C, C = w3.heap.size := ⟨_, rfl⟩
 rw [← hCe] at HLS hC ⊢
 clear hCe
 obtain ⟨H, hHe⟩ : ∃ H, H = w.heap.size := ⟨_, rfl⟩
 rw [← hHe] at HLS HC4 HB0 hC ⊢
 have HHE := Lib.hid hHe
 clear hHe
 go_loopw [6, 7, 8, 15, 37, 48] (fun _ _ _ i _ _ wr => ∃ (k : Nat) (vc : Value) (K : Int → Int) (cl : List Dot), i = .int .i64 k ∧ k ≤ q ∧ Hid (dm.RunIs K0 (L.take k) K cl) ∧ Hid (LS H C K (.slice none 0 0) vc w4 wr) ∧ Hid (wr.ownsRow (C + 1) 51 2 vc cl.length (dcells cl))) (fun _ _ _ i _ _ _ => q - (intOf i).toNat)
 case atStart => exact ⟨0, _, K0, [], rfl, Nat.zero_le _, ⟨rfl, rfl⟩, HLS.out, World.ownsRow_nil _ _ _ _⟩
 case round =>
  obtain ⟨k, vc, K, cl, rfl, hk, HRU, HLS, HOC⟩ := hrel
  have hz := HLS.out.hz
  have hbl := HLS.out.hb
  have HBD := Lib.hid (dm.runis_bd HRU.out HKB.out HU.out HV.out (by rw [← HQL.out]; exact hk))
  by_cases hlt : k < q
  ·
   obtain ⟨b0, off, rfl, hB0, p0, p1⟩ := Dots.get HC4.out HQL.out hlt
   have HKL : Hid (k < L.length) := by show k < L.length; rw [← HQL.out]; exact hlt
   have HST1 := Lib.hid (dm.runis_same HRU.out HKL.out)
   have HST2 := Lib.hid (dm.runis_up HRU.out HKL.out)
   have HST3 := Lib.hid (dm.runis_put HRU.out HKL.out)
   have hvd := HV.out (L.getD k (0, 0)) (by have := HKL.out; simp [List.getD, this])
   obtain ⟨⟨a, b⟩, hx⟩ : ∃ x, x = L.getD k (0, 0) := ⟨_, rfl⟩
   rw [← hx] at p0 p1 hvd HST1 HST2 HST3
   simp only at p0 p1
   have e0 := (hbl.cell (p := ⟨b0, off + k * 2, none⟩) hB0).trans p0
   have e1 := (hbl.cell (p := ⟨b0, off + k * 2 + 1, none⟩) hB0).trans p1
   have hva := (dm.valid_iff (a, b)).1 hvd
   simp only at hva
   obtain ⟨mm, rfl⟩ : ∃ mm : Nat, a = (mm : Int) := ⟨a.toNat, by omega⟩
   have hm6 : mm < 16 := by omega
   have hm1 : (0 : Int) ≤ (mm : Int) := by omega
   have hm2 : (mm : Int) < 16 := by omega
   have hkI : (k : Int) < (q : Int) := by omega
   obtain ⟨i, hki, hi3⟩ : ∃ i, (0 < k → k = i + 1) ∧ i < q := ⟨k - 1, by omega, by omega⟩
   have HKI := Lib.hid hki
   obtain ⟨b0', off', hb0, hB', r0, r1⟩ := Dots.get HC4.out HQL.out hi3
   simp only [Option.some.injEq, Addr.mk.injEq] at hb0
   obtain ⟨rfl, rfl, _⟩ := hb0
   have HPR : Hid (0 < k → L.getD (k - 1) (0, 0) = L.getD i (0, 0)) := fun h0 => by rw [show k - 1 = i by have := hki h0; omega]
   obtain ⟨⟨a', b'⟩, hx2⟩ : ∃ x, x = L.getD i (0, 0) := ⟨_, rfl⟩
   rw [← hx2] at r0 r1 HPR
   simp only at r0 r1
   have f0 := (hbl.cell (p := ⟨b0, off + i * 2, none⟩) hB0).trans r0
   have f1 := (hbl.cell (p := ⟨b0, off + i * 2 + 1, none⟩) hB0).trans r1
   obtain ⟨u, hue⟩ : ∃ u, u = K mm := ⟨_, rfl⟩
   simp only at HST1 HST2 HST3
   rw [← hue] at HST1 HST2 HST3
   have hub : 0 ≤ u ∧ u ≤ 1099511627776 := by rw [hue]; exact HBD.out.1 _
   have hcl := HBD.out.2
   have hwu : IntKind.i64.wrap (u + 1) = u + 1 := IntWalk.i64_in _ (by omega)
   have hAL : Below wr.heap.size wr (wr.alloc (.cells #[.int .i64 (mm : Int), .int .i64 b] 51)) := (Below.refl _ _).alloc (Nat.le_refl _) _
   have HLD : Hid (LD H C K (.slice none 0 0) vc w4 wr.heap.size (mm : Int) b b0 (off + i * 2) a' b' cl (wr.alloc (.cells #[.int .i64 (mm : Int), .int .i64 b] 51))) :=
    ⟨HLS.out.step hC hz hAL, World.cell?_alloc_at _ _ _ _ rfl, World.cell?_alloc_at _ _ _ _ rfl, (hAL.cell (p := ⟨b0, off + i * 2, none⟩) (by show b0 < _; omega)).trans f0, (hAL.cell (p := ⟨b0, off + i * 2 + 1, none⟩) (by show b0 < _; omega)).trans f1, own_stayD HOC.out hAL⟩
   have HUE := Lib.hid hue
   have hVC : C < wr.heap.size := by omega
   clear p0 p1 hx hx2 r0 r1 f0 f1 hvd hva hki hue HRU HLS HOC HBD
   go_wp2_with fail
   generalize wr.alloc (.cells #[.int .i64 (mm : Int), .int .i64 b] 51) = wd at HLD ⊢
   obtain ⟨V, hVe⟩ : ∃ V, V = wr.heap.size := ⟨_, rfl⟩
   rw [← hVe] at HLD hVC ⊢
   clear hVe hz hbl hAL e0 e1
   by_cases hk0 : 0 < k
   ·
    have hw : IntKind.i64.wrap ((k : Int) - 1) = (i : Int) := by rw [HKI.out hk0]; push_cast; rw [Int.add_sub_cancel]; exact IntWalk.i64_in _ (by omega)
    have hi1 : (0 : Int) ≤ (i : Int) := by omega
    have hi2 : (i : Int) < (q : Int) := by omega
    have hg2 : (0 : Int) < (k : Int) := by omega
    have hg1 : decide ((0 : Int) < (k : Int)) = true := decide_eq_true hg2
    by_cases ha : a' = (mm : Int)
    ·
     subst ha
     by_cases hbb : b' = b
     ·
      have hbb := hbb.symm
      subst hbb
      have HRU := Lib.hid (HST1.out (Or.inl ⟨hk0, HPR.out hk0⟩))
      go_wp2_with fail
      refine wp_region_plan [false, false, false, false, false, false, false, false, false, false, false, false] (fun w' => w'.cell? ⟨V, 0, none⟩ = some (.int .i64 (mm : Int)) ∧ w'.cell? ⟨V, 1, none⟩ = some (.int .i64 b) ∧ w'.cell? ⟨b0, off + i * 2, none⟩ = some (.int .i64 (mm : Int)) ∧ w'.cell? ⟨b0, off + i * 2 + 1, none⟩ = some (.int .i64 b)) (by kernel_rfl) (by kernel_rfl) ?_ (fun hS0 => ?_)
      ·
       exact ⟨HLD.out.v0, HLD.out.v1, HLD.out.p0, HLD.out.p1⟩
      try dsimp only at hS0
      iterate 12
       refine HW.take ?_ (by rfl) (fun w hSw => ?_) ?_
       rotate_left
       ·
        (try dsimp only at hSw); go_simp; try with_reducible rfl
       try simp only [Act.put, setIfInBounds_toArray, set_cons_zero, set_cons_succ]
      refine HW.done ?_
      have HLD := Lib.hid (HLD.out.drew hC)
      generalize World.drew wd = wd1 at HLD ⊢
      go_wp2_with fail
      go_wp2_with fail
      refine wp_region_plan [false, false, false, false, false, false, false, false, false, false, false] (fun w' => w'.cell? ⟨V, 0, none⟩ = some (.int .i64 (mm : Int)) ∧ w'.cell? ⟨V, 1, none⟩ = some (.int .i64 b) ∧ w'.cell? ⟨H, mm, none⟩ = some (.int .i64 u)) (by kernel_rfl) (by kernel_rfl) ?_ (fun hS0 => ?_)
      ·
       exact ⟨HLD.out.v0, HLD.out.v1, by rw [HUE.out]; exact (HLD.out.ls.k mm hm6).1⟩
      try dsimp only at hS0
      iterate 2
       refine HW.take ?_ (by rfl) (fun w hSw => ?_) ?_
       rotate_left
       ·
        (try dsimp only at hSw); go_simp; try with_reducible rfl
       try simp only [Act.put, setIfInBounds_toArray, set_cons_zero, set_cons_succ]
      iterate 3
       refine HW.skip (by rfl) ?_
       try simp only [Act.put, setIfInBounds_toArray, set_cons_zero, set_cons_succ]
       refine HW.skip (by rfl) ?_
       try simp only [Act.put, setIfInBounds_toArray, set_cons_zero, set_cons_succ]
      refine HW.skip (by rfl) ?_
      try simp only [Act.put, setIfInBounds_toArray, set_cons_zero, set_cons_succ]
      iterate 2
       refine HW.take ?_ (by rfl) (fun w hSw => ?_) ?_
       rotate_left
       ·
        (try dsimp only at hSw); go_simp; try with_reducible rfl
       try simp only [Act.put, setIfInBounds_toArray, set_cons_zero, set_cons_succ]
      refine HW.done ?_
      have HLD := Lib.hid (HLD.out.drew hC)
      generalize World.drew wd1 = wd2 at HLD ⊢
      go_wp2
      go_roundw
      case rel => exact ⟨k + 1, vc, K, cl, by go_num, by omega, HRU, HLD.out.ls, HLD.out.ho⟩
      case measure => simp [intOf]; omega
     ·
      have HNE : Hid (¬ (0 < k ∧ ((mm : Int), b') = ((mm : Int), b))) := fun h => hbb (Prod.ext_iff.1 h.2).2
      have hbb2 : ¬ b = b' := fun e => hbb e.symm
      have hbq : (b == b') = false := beq_eq_false_iff_ne.2 hbb2
      have hbq2 : (b' == b) = false := beq_eq_false_iff_ne.2 hbb
      go_wp2_with fail
      refine wp_region_plan [false, false, false, false, false, false, false, false, false, false, false, false] (fun w' => w'.cell? ⟨V, 0, none⟩ = some (.int .i64 (mm : Int)) ∧ w'.cell? ⟨V, 1, none⟩ = some (.int .i64 b) ∧ w'.cell? ⟨b0, off + i * 2, none⟩ = some (.int .i64 (mm : Int)) ∧ w'.cell? ⟨b0, off + i * 2 + 1, none⟩ = some (.int .i64 b')) (by kernel_rfl) (by kernel_rfl) ?_ (fun hS0 => ?_)
      ·
       exact ⟨HLD.out.v0, HLD.out.v1, HLD.out.p0, HLD.out.p1⟩
      try dsimp only at hS0
      iterate 12
       refine HW.take ?_ (by rfl) (fun w hSw => ?_) ?_
       rotate_left
       ·
        (try dsimp only at hSw); go_simp; try with_reducible rfl
       try simp only [Act.put, setIfInBounds_toArray, set_cons_zero, set_cons_succ]
      refine HW.done ?_
      have HLD := Lib.hid (HLD.out.drew hC)
      generalize World.drew wd = wd1 at HLD ⊢
      go_wp2_with fail
      by_cases hle : b ≤ u
      ·
       have hd1 : decide (b ≤ u) = true := decide_eq_true hle
       have HRU := Lib.hid (HST1.out (Or.inr hle))
       go_wp2_with fail
       refine wp_region_plan [false, false, false, false, false, false, false, false, false, false, false] (fun w' => w'.cell? ⟨V, 0, none⟩ = some (.int .i64 (mm : Int)) ∧ w'.cell? ⟨V, 1, none⟩ = some (.int .i64 b) ∧ w'.cell? ⟨H, mm, none⟩ = some (.int .i64 u)) (by kernel_rfl) (by kernel_rfl) ?_ (fun hS0 => ?_)
       ·
        exact ⟨HLD.out.v0, HLD.out.v1, by rw [HUE.out]; exact (HLD.out.ls.k mm hm6).1⟩
       try dsimp only at hS0
       iterate 11
        refine HW.take ?_ (by rfl) (fun w hSw => ?_) ?_
        rotate_left
        ·
         (try dsimp only at hSw); go_simp; try with_reducible rfl
        try simp only [Act.put, setIfInBounds_toArray, set_cons_zero, set_cons_succ]
       refine HW.done ?_
       have HLD := Lib.hid (HLD.out.drew hC)
       generalize World.drew wd1 = wd2 at HLD ⊢
       go_wp2
       go_roundw
       case rel => exact ⟨k + 1, vc, K, cl, by go_num, by omega, HRU, HLD.out.ls, HLD.out.ho⟩
       case measure => simp [intOf]; omega
      ·
       have hd1 : decide (b ≤ u) = false := decide_eq_false hle
       have HNO : Hid (¬ ((0 < k ∧ L.getD (k - 1) (0, 0) = ((mm : Int), b)) ∨ b ≤ u)) := fun h => h.elim (fun e => HNE.out (by rw [← HPR.out e.1]; exact ⟨e.1, e.2⟩)) hle
       go_wp2_with fail
       refine wp_region_plan [false, false, false, false, false, false, false, false, false, false, false] (fun w' => w'.cell? ⟨V, 0, none⟩ = some (.int .i64 (mm : Int)) ∧ w'.cell? ⟨V, 1, none⟩ = some (.int .i64 b) ∧ w'.cell? ⟨H, mm, none⟩ = some (.int .i64 u)) (by kernel_rfl) (by kernel_rfl) ?_ (fun hS0 => ?_)
       ·
        exact ⟨HLD.out.v0, HLD.out.v1, by rw [HUE.out]; exact (HLD.out.ls.k mm hm6).1⟩
       try dsimp only at hS0
       iterate 11
        refine HW.take ?_ (by rfl) (fun w hSw => ?_) ?_
        rotate_left
        ·
         (try dsimp only at hSw); go_simp; try with_reducible rfl
        try simp only [Act.put, setIfInBounds_toArray, set_cons_zero, set_cons_succ]
       refine HW.done ?_
       have HLD := Lib.hid (HLD.out.drew hC)
       generalize World.drew wd1 = wd2 at HLD ⊢
       by_cases heq : b = u + 1
       ·
        have HRU := Lib.hid (HST2.out HNO.out heq)
        have hd2 : (b == u + 1) = true := by simpa using heq
        go_wp2_with fail
        go_wp2_with fail
        refine wp_region_plan [false, false, false, false, false, false, false, false, false] (fun w' => w'.cell? ⟨V, 0, none⟩ = some (.int .i64 (mm : Int)) ∧ w'.cell? ⟨V, 1, none⟩ = some (.int .i64 b) ∧ w'.cell? ⟨H, mm, none⟩ = some (.int .i64 u)) (by kernel_rfl) (by kernel_rfl) ?_ (fun hS0 => ?_)
        ·
         exact ⟨HLD.out.v0, HLD.out.v1, by rw [HUE.out]; exact (HLD.out.ls.k mm hm6).1⟩
        try dsimp only at hS0
        iterate 9
         refine HW.take ?_ (by rfl) (fun w hSw => ?_) ?_
         rotate_left
         ·
          (try dsimp only at hSw); go_simp; try with_reducible rfl
         try simp only [Act.put, setIfInBounds_toArray, set_cons_zero, set_cons_succ]
        refine HW.done ?_
        have HLD := Lib.hid (HLD.out.drew hC)
        generalize World.drew wd2 = wd3 at HLD ⊢
        have v0 := HLD.out.v0
        have v1 := HLD.out.v1
        have cm := (HLD.out.ls.k mm hm6).1
        have fm := (HLD.out.ls.k mm hm6).2
        rw [← HUE.out] at cm
        have HL2 := Lib.hid (HLD.out.ls.putK hC hm6 (u + 1))
        have HO2 : Hid ((wd3.setCell ⟨H, mm, none⟩ (.int .i64 (u + 1))).ownsRow (C + 1) 51 2 vc cl.length (dcells cl)) := ownsRow_setCell_below HLD.out.ho (a := ⟨H, mm, none⟩) (by show H < C + 1; omega) _
        go_wp2
        go_roundw
        case rel => exact ⟨k + 1, vc, _, cl, by go_num, by omega, HRU, HL2, HO2⟩
        case measure => simp [intOf]; omega
       ·
        have HRU := Lib.hid (HST3.out HNO.out heq)
        have hd2 : (b == u + 1) = false := by simpa using heq
        go_wp2_with fail
        go_wp2_with fail
        refine wp_region_plan [false, false, false, false, false, false, false, false, false] (fun w' => w'.cell? ⟨V, 0, none⟩ = some (.int .i64 (mm : Int)) ∧ w'.cell? ⟨V, 1, none⟩ = some (.int .i64 b) ∧ w'.cell? ⟨H, mm, none⟩ = some (.int .i64 u)) (by kernel_rfl) (by kernel_rfl) ?_ (fun hS0 => ?_)
        ·
         exact ⟨HLD.out.v0, HLD.out.v1, by rw [HUE.out]; exact (HLD.out.ls.k mm hm6).1⟩
        try dsimp only at hS0
        iterate 9
         refine HW.take ?_ (by rfl) (fun w hSw => ?_) ?_
         rotate_left
         ·
          (try dsimp only at hSw); go_simp; try with_reducible rfl
         try simp only [Act.put, setIfInBounds_toArray, set_cons_zero, set_cons_succ]
        refine HW.done ?_
        have HLD := Lib.hid (HLD.out.drew hC)
        generalize World.drew wd2 = wd3 at HLD ⊢
        have c1 := HLD.out.ls.c1
        have v0 := HLD.out.v0
        have v1 := HLD.out.v1
        have hz3 := HLD.out.ls.hz
        go_wp2_with (at_builtin; refine kit.app1 (.tmp 32) (.tmp 34) 23 rfl rfl (C + 1) Tryz.underlying23 infoDot rfl (by decide) (by decide) HLD.out.ho rfl rfl rfl (by intro u hu; simp at hu; rcases hu with rfl | rfl <;> rfl) (by omega) hz3 ?_)
        intro vc2 w5 hown5 hb5
        obtain ⟨ao2, cap2, rfl⟩ := own_formD hown5
        have HL5 := HLD.out.ls.step hC (Nat.le_refl _) hb5
        have c51 := HL5.c1
        have f51 := HL5.f1
        have HL6 := Lib.hid (HL5.putC hC (.slice ao2 (cl.length + 1) cap2))
        have HO6 : Hid ((w5.setCell ⟨C, 1, none⟩ (.slice ao2 (cl.length + 1) cap2)).ownsRow (C + 1) 51 2 (.slice ao2 (cl.length + 1) cap2) (cl ++ [((mm : Int), b)]).length (dcells (cl ++ [((mm : Int), b)]))) := by
         rw [List.length_append, dcells_app]
         exact ownsRow_setCell_below hown5 (a := ⟨C, 1, none⟩) (Nat.lt_succ_self _) _
        clear HL5 hown5 hb5
        go_wp2
        go_roundw
        case rel => exact ⟨k + 1, _, K, _, by go_num, by omega, HRU, HL6, HO6⟩
        case measure => simp [intOf]; omega
    ·
     have HNE : Hid (¬ (0 < k ∧ (a', b') = ((mm : Int), b))) := fun h => ha (Prod.ext_iff.1 h.2).1
     have ha2 : ¬ (mm : Int) = a' := fun e => ha e.symm
     have haq : ((mm : Int) == a') = false := beq_eq_false_iff_ne.2 ha2
     have haq2 : (a' == (mm : Int)) = false := beq_eq_false_iff_ne.2 ha
     go_wp2_with fail
     refine wp_region_plan [false, false, false, false, false, false, false, false, false, false, false, false] (fun w' => w'.cell? ⟨V, 0, none⟩ = some (.int .i64 (mm : Int)) ∧ w'.cell? ⟨V, 1, none⟩ = some (.int .i64 b) ∧ w'.cell? ⟨b0, off + i * 2, none⟩ = some (.int .i64 a') ∧ w'.cell? ⟨b0, off + i * 2 + 1, none⟩ = some (.int .i64 b')) (by kernel_rfl) (by kernel_rfl) ?_ (fun hS0 => ?_)
     ·
      exact ⟨HLD.out.v0, HLD.out.v1, HLD.out.p0, HLD.out.p1⟩
     try dsimp only at hS0
     iterate 12
      refine HW.take ?_ (by rfl) (fun w hSw => ?_) ?_
      rotate_left
      ·
       (try dsimp only at hSw); go_simp; try with_reducible rfl
      try simp only [Act.put, setIfInBounds_toArray, set_cons_zero, set_cons_succ]
     refine HW.done ?_
     have HLD := Lib.hid (HLD.out.drew hC)
     generalize World.drew wd = wd1 at HLD ⊢
     go_wp2_with fail
     by_cases hle : b ≤ u
     ·
      have hd1 : decide (b ≤ u) = true := decide_eq_true hle
      have HRU := Lib.hid (HST1.out (Or.inr hle))
      go_wp2_with fail
      refine wp_region_plan [false, false, false, false, false, false, false, false, false, false, false] (fun w' => w'.cell? ⟨V, 0, none⟩ = some (.int .i64 (mm : Int)) ∧ w'.cell? ⟨V, 1, none⟩ = some (.int .i64 b) ∧ w'.cell? ⟨H, mm, none⟩ = some (.int .i64 u)) (by kernel_rfl) (by kernel_rfl) ?_ (fun hS0 => ?_)
      ·
       exact ⟨HLD.out.v0, HLD.out.v1, by rw [HUE.out]; exact (HLD.out.ls.k mm hm6).1⟩
      try dsimp only at hS0
      iterate 11
       refine HW.take ?_ (by rfl) (fun w hSw => ?_) ?_
       rotate_left
       ·
        (try dsimp only at hSw); go_simp; try with_reducible rfl
       try simp only [Act.put, setIfInBounds_toArray, set_cons_zero, set_cons_succ]
      refine HW.done ?_
      have HLD := Lib.hid (HLD.out.drew hC)
      generalize World.drew wd1 = wd2 at HLD ⊢
      go_wp2
      go_roundw
      case rel => exact ⟨k + 1, vc, K, cl, by go_num, by omega, HRU, HLD.out.ls, HLD.out.ho⟩
      case measure => simp [intOf]; omega
     ·
      have hd1 : decide (b ≤ u) = false := decide_eq_false hle
      have HNO : Hid (¬ ((0 < k ∧ L.getD (k - 1) (0, 0) = ((mm : Int), b)) ∨ b ≤ u)) := fun h => h.elim (fun e => HNE.out (by rw [← HPR.out e.1]; exact ⟨e.1, e.2⟩)) hle
      go_wp2_with fail
      refine wp_region_plan [false, false, false, false, false, false, false, false, false, false, false] (fun w' => w'.cell? ⟨V, 0, none⟩ = some (.int .i64 (mm : Int)) ∧ w'.cell? ⟨V, 1, none⟩ = some (.int .i64 b) ∧ w'.cell? ⟨H, mm, none⟩ = some (.int .i64 u)) (by kernel_rfl) (by kernel_rfl) ?_ (fun hS0 => ?_)
      ·
       exact ⟨HLD.out.v0, HLD.out.v1, by rw [HUE.out]; exact (HLD.out.ls.k mm hm6).1⟩
      try dsimp only at hS0
      iterate 11
       refine HW.take ?_ (by rfl) (fun w hSw => ?_) ?_
       rotate_left
       ·
        (try dsimp only at hSw); go_simp; try with_reducible rfl
       try simp only [Act.put, setIfInBounds_toArray, set_cons_zero, set_cons_succ]
      refine HW.done ?_
      have HLD := Lib.hid (HLD.out.drew hC)
      generalize World.drew wd1 = wd2 at HLD ⊢
      by_cases heq : b = u + 1
      ·
       have HRU := Lib.hid (HST2.out HNO.out heq)
       have hd2 : (b == u + 1) = true := by simpa using heq
       go_wp2_with fail
       go_wp2_with fail
       refine wp_region_plan [false, false, false, false, false, false, false, false, false] (fun w' => w'.cell? ⟨V, 0, none⟩ = some (.int .i64 (mm : Int)) ∧ w'.cell? ⟨V, 1, none⟩ = some (.int .i64 b) ∧ w'.cell? ⟨H, mm, none⟩ = some (.int .i64 u)) (by kernel_rfl) (by kernel_rfl) ?_ (fun hS0 => ?_)
       ·
        exact ⟨HLD.out.v0, HLD.out.v1, by rw [HUE.out]; exact (HLD.out.ls.k mm hm6).1⟩
       try dsimp only at hS0
       iterate 9
        refine HW.take ?_ (by rfl) (fun w hSw => ?_) ?_
        rotate_left
        ·
         (try dsimp only at hSw); go_simp; try with_reducible rfl
        try simp only [Act.put, setIfInBounds_toArray, set_cons_zero, set_cons_succ]
       refine HW.done ?_
       have HLD := Lib.hid (HLD.out.drew hC)
       generalize World.drew wd2 = wd3 at HLD ⊢
       have v0 := HLD.out.v0
       have v1 := HLD.out.v1
       have cm := (HLD.out.ls.k mm hm6).1
       have fm := (HLD.out.ls.k mm hm6).2
       rw [← HUE.out] at cm
       have HL2 := Lib.hid (HLD.out.ls.putK hC hm6 (u + 1))
       have HO2 : Hid ((wd3.setCell ⟨H, mm, none⟩ (.int .i64 (u + 1))).ownsRow (C + 1) 51 2 vc cl.length (dcells cl)) := ownsRow_setCell_below HLD.out.ho (a := ⟨H, mm, none⟩) (by show H < C + 1; omega) _
       go_wp2
       go_roundw
       case rel => exact ⟨k + 1, vc, _, cl, by go_num, by omega, HRU, HL2, HO2⟩
       case measure => simp [intOf]; omega
      ·
       have HRU := Lib.hid (HST3.out HNO.out heq)
       have hd2 : (b == u + 1) = false := by simpa using heq
       go_wp2_with fail
       go_wp2_with fail
       refine wp_region_plan [false, false, false, false, false, false, false, false, false] (fun w' => w'.cell? ⟨V, 0, none⟩ = some (.int .i64 (mm : Int)) ∧ w'.cell? ⟨V, 1, none⟩ = some (.int .i64 b) ∧ w'.cell? ⟨H, mm, none⟩ = some (.int .i64 u)) (by kernel_rfl) (by kernel_rfl) ?_ (fun hS0 => ?_)
       ·
        exact ⟨HLD.out.v0, HLD.out.v1, by rw [HUE.out]; exact (HLD.out.ls.k mm hm6).1⟩
       try dsimp only at hS0
       iterate 9
        refine HW.take ?_ (by rfl) (fun w hSw => ?_) ?_
        rotate_left
        ·
         (try dsimp only at hSw); go_simp; try with_reducible rfl
        try simp only [Act.put, setIfInBounds_toArray, set_cons_zero, set_cons_succ]
       refine HW.done ?_
       have HLD := Lib.hid (HLD.out.drew hC)
       generalize World.drew wd2 = wd3 at HLD ⊢
       have c1 := HLD.out.ls.c1
       have v0 := HLD.out.v0
       have v1 := HLD.out.v1
       have hz3 := HLD.out.ls.hz
       go_wp2_with (at_builtin; refine kit.app1 (.tmp 32) (.tmp 34) 23 rfl rfl (C + 1) Tryz.underlying23 infoDot rfl (by decide) (by decide) HLD.out.ho rfl rfl rfl (by intro u hu; simp at hu; rcases hu with rfl | rfl <;> rfl) (by omega) hz3 ?_)
       intro vc2 w5 hown5 hb5
       obtain ⟨ao2, cap2, rfl⟩ := own_formD hown5
       have HL5 := HLD.out.ls.step hC (Nat.le_refl _) hb5
       have c51 := HL5.c1
       have f51 := HL5.f1
       have HL6 := Lib.hid (HL5.putC hC (.slice ao2 (cl.length + 1) cap2))
       have HO6 : Hid ((w5.setCell ⟨C, 1, none⟩ (.slice ao2 (cl.length + 1) cap2)).ownsRow (C + 1) 51 2 (.slice ao2 (cl.length + 1) cap2) (cl ++ [((mm : Int), b)]).length (dcells (cl ++ [((mm : Int), b)]))) := by
        rw [List.length_append, dcells_app]
        exact ownsRow_setCell_below hown5 (a := ⟨C, 1, none⟩) (Nat.lt_succ_self _) _
       clear HL5 hown5 hb5
       go_wp2
       go_roundw
       case rel => exact ⟨k + 1, _, K, _, by go_num, by omega, HRU, HL6, HO6⟩
       case measure => simp [intOf]; omega
   ·
    have HNE : Hid (¬ (0 < k ∧ (a', b') = ((mm : Int), b))) := fun h => hk0 h.1
    have hg2 : ¬ (0 : Int) < (k : Int) := by omega
    have hg1 : decide ((0 : Int) < (k : Int)) = false := decide_eq_false hg2
    go_wp2_with fail
    refine wp_region_plan [false, false, false, false, false, false, false, false, false, false, false, false] (fun w' => w'.cell? ⟨V, 0, none⟩ = some (.int .i64 (mm : Int)) ∧ w'.cell? ⟨V, 1, none⟩ = some (.int .i64 b) ∧ w'.cell? ⟨b0, off + i * 2, none⟩ = some (.int .i64 a') ∧ w'.cell? ⟨b0, off + i * 2 + 1, none⟩ = some (.int .i64 b')) (by kernel_rfl) (by kernel_rfl) ?_ (fun hS0 => ?_)
    ·
     exact ⟨HLD.out.v0, HLD.out.v1, HLD.out.p0, HLD.out.p1⟩
    try dsimp only at hS0
    iterate 3
     refine HW.take ?_ (by rfl) (fun w hSw => ?_) ?_
     rotate_left
     ·
      (try dsimp only at hSw); go_simp; try with_reducible rfl
     try simp only [Act.put, setIfInBounds_toArray, set_cons_zero, set_cons_succ]
    iterate 3
     refine HW.skip (by rfl) ?_
     try simp only [Act.put, setIfInBounds_toArray, set_cons_zero, set_cons_succ]
     refine HW.skip (by rfl) ?_
     try simp only [Act.put, setIfInBounds_toArray, set_cons_zero, set_cons_succ]
    refine HW.skip (by rfl) ?_
    try simp only [Act.put, setIfInBounds_toArray, set_cons_zero, set_cons_succ]
    iterate 2
     refine HW.take ?_ (by rfl) (fun w hSw => ?_) ?_
     rotate_left
     ·
      (try dsimp only at hSw); go_simp; try with_reducible rfl
     try simp only [Act.put, setIfInBounds_toArray, set_cons_zero, set_cons_succ]
    refine HW.done ?_
    have HLD := Lib.hid (HLD.out.drew hC)
    generalize World.drew wd = wd1 at HLD ⊢
    go_wp2_with fail
    by_cases hle : b ≤ u
    ·
     have hd1 : decide (b ≤ u) = true := decide_eq_true hle
     have HRU := Lib.hid (HST1.out (Or.inr hle))
     go_wp2_with fail
     refine wp_region_plan [false, false, false, false, false, false, false, false, false, false, false] (fun w' => w'.cell? ⟨V, 0, none⟩ = some (.int .i64 (mm : Int)) ∧ w'.cell? ⟨V, 1, none⟩ = some (.int .i64 b) ∧ w'.cell? ⟨H, mm, none⟩ = some (.int .i64 u)) (by kernel_rfl) (by kernel_rfl) ?_ (fun hS0 => ?_)
     ·
      exact ⟨HLD.out.v0, HLD.out.v1, by rw [HUE.out]; exact (HLD.out.ls.k mm hm6).1⟩
     try dsimp only at hS0
     iterate 11
      refine HW.take ?_ (by rfl) (fun w hSw => ?_) ?_
      rotate_left
      ·
       (try dsimp only at hSw); go_simp; try with_reducible rfl
      try simp only [Act.put, setIfInBounds_toArray, set_cons_zero, set_cons_succ]
     refine HW.done ?_
     have HLD := Lib.hid (HLD.out.drew hC)
     generalize World.drew wd1 = wd2 at HLD ⊢
     go_wp2
     go_roundw
     case rel => exact ⟨k + 1, vc, K, cl, by go_num, by omega, HRU, HLD.out.ls, HLD.out.ho⟩
     case measure => simp [intOf]; omega
    ·
     have hd1 : decide (b ≤ u) = false := decide_eq_false hle
     have HNO : Hid (¬ ((0 < k ∧ L.getD (k - 1) (0, 0) = ((mm : Int), b)) ∨ b ≤ u)) := fun h => h.elim (fun e => HNE.out (by rw [← HPR.out e.1]; exact ⟨e.1, e.2⟩)) hle
     go_wp2_with fail
     refine wp_region_plan [false, false, false, false, false, false, false, false, false, false, false] (fun w' => w'.cell? ⟨V, 0, none⟩ = some (.int .i64 (mm : Int)) ∧ w'.cell? ⟨V, 1, none⟩ = some (.int .i64 b) ∧ w'.cell? ⟨H, mm, none⟩ = some (.int .i64 u)) (by kernel_rfl) (by kernel_rfl) ?_ (fun hS0 => ?_)
     ·
      exact ⟨HLD.out.v0, HLD.out.v1, by rw [HUE.out]; exact (HLD.out.ls.k mm hm6).1⟩
     try dsimp only at hS0
     iterate 11
      refine HW.take ?_ (by rfl) (fun w hSw => ?_) ?_
      rotate_left
      ·
       (try dsimp only at hSw); go_simp; try with_reducible rfl
      try simp only [Act.put, setIfInBounds_toArray, set_cons_zero, set_cons_succ]
     refine HW.done ?_
     have HLD := Lib.hid (HLD.out.drew hC)
     generalize World.drew wd1 = wd2 at HLD ⊢
     by_cases heq : b = u + 1
     ·
      have HRU := Lib.hid (HST2.out HNO.out heq)
      have hd2 : (b == u + 1) = true := by simpa using heq
      go_wp2_with fail
      go_wp2_with fail
      refine wp_region_plan [false, false, false, false, false, false, false, false, false] (fun w' => w'.cell? ⟨V, 0, none⟩ = some (.int .i64 (mm : Int)) ∧ w'.cell? ⟨V, 1, none⟩ = some (.int .i64 b) ∧ w'.cell? ⟨H, mm, none⟩ = some (.int .i64 u)) (by kernel_rfl) (by kernel_rfl) ?_ (fun hS0 => ?_)
      ·
       exact ⟨HLD.out.v0, HLD.out.v1, by rw [HUE.out]; exact (HLD.out.ls.k mm hm6).1⟩
      try dsimp only at hS0
      iterate 9
       refine HW.take ?_ (by rfl) (fun w hSw => ?_) ?_
       rotate_left
       ·
        (try dsimp only at hSw); go_simp; try with_reducible rfl
       try simp only [Act.put, setIfInBounds_toArray, set_cons_zero, set_cons_succ]
      refine HW.done ?_
      have HLD := Lib.hid (HLD.out.drew hC)
      generalize World.drew wd2 = wd3 at HLD ⊢
      have v0 := HLD.out.v0
      have v1 := HLD.out.v1
      have cm := (HLD.out.ls.k mm hm6).1
      have fm := (HLD.out.ls.k mm hm6).2
      rw [← HUE.out] at cm
      have HL2 := Lib.hid (HLD.out.ls.putK hC hm6 (u + 1))
      have HO2 : Hid ((wd3.setCell ⟨H, mm, none⟩ (.int .i64 (u + 1))).ownsRow (C + 1) 51 2 vc cl.length (dcells cl)) := ownsRow_setCell_below HLD.out.ho (a := ⟨H, mm, none⟩) (by show H < C + 1; omega) _
      go_wp2
      go_roundw
      case rel => exact ⟨k + 1, vc, _, cl, by go_num, by omega, HRU, HL2, HO2⟩
      case measure => simp [intOf]; omega
     ·
      have HRU := Lib.hid (HST3.out HNO.out heq)
      have hd2 : (b == u + 1) = false := by simpa using heq
      go_wp2_with fail
      go_wp2_with fail
      refine wp_region_plan [false, false, false, false, false, false, false, false, false] (fun w' => w'.cell? ⟨V, 0, none⟩ = some (.int .i64 (mm : Int)) ∧ w'.cell? ⟨V, 1, none⟩ = some (.int .i64 b) ∧ w'.cell? ⟨H, mm, none⟩ = some (.int .i64 u)) (by kernel_rfl) (by kernel_rfl) ?_ (fun hS0 => ?_)
      ·
       exact ⟨HLD.out.v0, HLD.out.v1, by rw [HUE.out]; exact (HLD.out.ls.k mm hm6).1⟩
      try dsimp only at hS0
      iterate 9
       refine HW.take ?_ (by rfl) (fun w hSw => ?_) ?_
       rotate_left
       ·
        (try dsimp only at hSw); go_simp; try with_reducible rfl
       try simp only [Act.put, setIfInBounds_toArray, set_cons_zero, set_cons_succ]
      refine HW.done ?_
      have HLD := Lib.hid (HLD.out.drew hC)
      generalize World.drew wd2 = wd3 at HLD ⊢
      have c1 := HLD.out.ls.c1
      have v0 := HLD.out.v0
      have v1 := HLD.out.v1
      have hz3 := HLD.out.ls.hz
      go_wp2_with (at_builtin; refine kit.app1 (.tmp 32) (.tmp 34) 23 rfl rfl (C + 1) Tryz.underlying23 infoDot rfl (by decide) (by decide) HLD.out.ho rfl rfl rfl (by intro u hu; simp at hu; rcases hu with rfl | rfl <;> rfl) (by omega) hz3 ?_)
      intro vc2 w5 hown5 hb5
      obtain ⟨ao2, cap2, rfl⟩ := own_formD hown5
      have HL5 := HLD.out.ls.step hC (Nat.le_refl _) hb5
      have c51 := HL5.c1
      have f51 := HL5.f1
      have HL6 := Lib.hid (HL5.putC hC (.slice ao2 (cl.length + 1) cap2))
      have HO6 : Hid ((w5.setCell ⟨C, 1, none⟩ (.slice ao2 (cl.length + 1) cap2)).ownsRow (C + 1) 51 2 (.slice ao2 (cl.length + 1) cap2) (cl ++ [((mm : Int), b)]).length (dcells (cl ++ [((mm : Int), b)]))) := by
       rw [List.length_append, dcells_app]
       exact ownsRow_setCell_below hown5 (a := ⟨C, 1, none⟩) (Nat.lt_succ_self _) _
      clear HL5 hown5 hb5
      go_wp2
      go_roundw
      case rel => exact ⟨k + 1, _, K, _, by go_num, by omega, HRU, HL6, HO6⟩
      case measure => simp [intOf]; omega
  ·
   obtain rfl : k = q := by omega
   have HRU2 : Hid (dm.RunIs K0 L K cl) := by
    have := HRU.out
    rw [List.take_of_length_le (by rw [HQL.out]; exact Nat.le_refl _)] at this
    exact this
   have hKB := HBD.out.1
   have hcl := HBD.out.2
   have HKP := Lib.hid hKB
   have r0 := HLS.out.r0
   have r1 := HLS.out.r1
   have k0 := (HLS.out.k 0 (by omega)).1
   have k1 := (HLS.out.k 1 (by omega)).1
   have k2 := (HLS.out.k 2 (by omega)).1
   have k3 := (HLS.out.k 3 (by omega)).1
   have k4 := (HLS.out.k 4 (by omega)).1
   have k5 := (HLS.out.k 5 (by omega)).1
   have k6 := (HLS.out.k 6 (by omega)).1
   have k7 := (HLS.out.k 7 (by omega)).1
   have k8 := (HLS.out.k 8 (by omega)).1
   have k9 := (HLS.out.k 9 (by omega)).1
   have k10 := (HLS.out.k 10 (by omega)).1
   have k11 := (HLS.out.k 11 (by omega)).1
   have k12 := (HLS.out.k 12 (by omega)).1
   have k13 := (HLS.out.k 13 (by omega)).1
   have k14 := (HLS.out.k 14 (by omega)).1
   have k15 := (HLS.out.k 15 (by omega)).1
   clear hKB HRU HBD
   go_wp2_with fail
   generalize hArr : (#[.int .i64 (K 0), .int .i64 (K 1), .int .i64 (K 2), .int .i64 (K 3), .int .i64 (K 4), .int .i64 (K 5), .int .i64 (K 6), .int .i64 (K 7), .int .i64 (K 8), .int .i64 (K 9), .int .i64 (K 10), .int .i64 (K 11), .int .i64 (K 12), .int .i64 (K 13), .int .i64 (K 14), .int .i64 (K 15)] : Array Value) = arr
   have HARR : Hid (∀ j : Nat, j < 16 → arr[j]? = some (.int .i64 (K j))) := by
    intro j hj
    rw [← hArr]
    rcases (by omega : j = 0 ∨ j = 1 ∨ j = 2 ∨ j = 3 ∨ j = 4 ∨ j = 5 ∨ j = 6 ∨ j = 7 ∨ j = 8 ∨ j = 9 ∨ j = 10 ∨ j = 11 ∨ j = 12 ∨ j = 13 ∨ j = 14 ∨ j = 15) with rfl | rfl | rfl | rfl | rfl | rfl | rfl | rfl | rfl | rfl | rfl | rfl | rfl | rfl | rfl | rfl <;> rfl
   have harr : arr.size = 16 := by rw [← hArr]; rfl
   clear hArr
   obtain ⟨D, hD⟩ : ∃ D, D = wr.heap.size := ⟨_, rfl⟩
   have HOLT : Hid (∀ g, vc.ownBlock = some g → g < D) := fun g hg => by rw [hD]; exact (HOC.out.lt g hg).2
   have hDC : C + 1 ≤ D := by rw [hD]; exact hz
   have hDw : D ≤ wr.heap.size := by rw [hD]; exact Nat.le_refl _
   clear hD k0 k1 k2 k3 k4 k5 k6 k7 k8 k9 k10 k11 k12 k13 k14 k15 r0 r1
   go_loopw [9, 10, 65] (fun _ _ i wt => ∃ (j : Nat) (vv : Value), i = .int .i64 j ∧ j ≤ 16 ∧ Hid (LS H C K vv vc w4 wt) ∧ Hid (wt.ownsRow D 51 2 vv (dm.layVn K j).length (dcells (dm.layVn K j))) ∧ Hid (wt.ownsRow (C + 1) 51 2 vc cl.length (dcells cl)) ∧ D ≤ wt.heap.size) (fun _ _ i _ => 16 - (intOf i).toNat)
   case atStart => exact ⟨0, _, rfl, Nat.zero_le _, HLS.out, World.ownsRow_nil _ _ _ _, HOC.out, hDw⟩
   case round =>
    obtain ⟨j, vv, rfl, hj, HLT, HOV, HOT, hDt⟩ := hrel
    obtain ⟨aov, capv, rfl⟩ := own_formD HOV.out
    obtain ⟨aoc, capc, rfl⟩ := own_formD HOT.out
    by_cases hj6 : j < 16
    ·
     have ej := HARR.out j hj6
     obtain ⟨u, hue⟩ : ∃ u, u = K j := ⟨_, rfl⟩
     rw [← hue] at ej
     have hjI : (j : Int) < 16 := by omega
     have hj0 : (0 : Int) ≤ (j : Int) := by omega
     have hnl := dm.layVn_len K j
     have HRI := idx_run hj6 ej
     by_cases hp : 0 < u
     ·
      have HLV : Hid (dm.layVn K (j + 1) = dm.layVn K j ++ [((j : Int), u)]) := by
       show _ = _
       rw [dm.layVn_pos (by rw [← hue]; exact hp), ← hue]
      have c0 := HLT.out.c0
      obtain ⟨m, hm⟩ : ∃ m, m = (dm.layVn K j).length := ⟨_, rfl⟩
      have HM := Lib.hid hm
      have HOV2 : Hid (wr.ownsRow D 51 2 (.slice aov m capv) m (dcells (dm.layVn K j))) := by
       have := HOV.out
       rw [← hm] at this
       exact this
      rw [← hm] at c0 hnl
      clear hue hm ej
      go_wp2_with (at_builtin; refine kit.app1 (.tmp 72) (.tmp 76) 23 rfl rfl D Tryz.underlying23 infoDot rfl (by decide) (by decide) HOV2.out rfl rfl rfl (by intro u hu; simp at hu; rcases hu with rfl | rfl <;> rfl) (by omega) hDt ?_)
      intro vv2 w5 hown5 hb5
      obtain ⟨ao2, cap2, rfl⟩ := own_formD hown5
      have HL5 := HLT.out.step hC hDC hb5
      have c50 := HL5.c0
      have f50 := HL5.f0
      have HL6 := Lib.hid (HL5.putV hC (.slice ao2 (m + 1) cap2))
      have HO6 : Hid ((w5.setCell ⟨C, 0, none⟩ (.slice ao2 (m + 1) cap2)).ownsRow D 51 2 (.slice ao2 (m + 1) cap2) (dm.layVn K (j + 1)).length (dcells (dm.layVn K (j + 1)))) := by
       show World.ownsRow _ _ _ _ _ _ _
       rw [HLV.out, List.length_append, dcells_app, ← HM.out]
       exact ownsRow_setCell_below hown5 (a := ⟨C, 0, none⟩) hDC _
      have HO7 : Hid ((w5.setCell ⟨C, 0, none⟩ (.slice ao2 (m + 1) cap2)).ownsRow (C + 1) 51 2 (.slice aoc cl.length capc) cl.length (dcells cl)) := ownsRow_setCell_below (own_keep HOT.out HOLT.out hb5) (a := ⟨C, 0, none⟩) (Nat.lt_succ_self _) _
      have hD5 : D ≤ (w5.setCell ⟨C, 0, none⟩ (.slice ao2 (m + 1) cap2)).heap.size := by rw [size_set]; have := hb5.size; omega
      clear HL5 hown5 hb5
      go_wp2
      go_roundw
      case rel => exact ⟨j + 1, _, by go_num, by omega, HL6, HO6, HO7, hD5⟩
      case measure => simp [intOf]; omega
     ·
      have HLV : Hid (dm.layVn K (j + 1) = dm.layVn K j) := dm.layVn_neg (by rw [← hue]; exact hp)
      have hd1 : decide (0 < u) = false := decide_eq_false hp
      go_wp2
      go_roundw
      case rel => exact ⟨j + 1, _, by go_num, by omega, HLT, (by rw [HLV.out]; exact HOV), HOT, hDt⟩
      case measure => simp [intOf]; omega
    ·
     obtain rfl : j = 16 := by omega
     have r0 := HLT.out.r0
     have r1 := HLT.out.r1
     have s0 := HLT.out.s0
     have s1 := HLT.out.s1
     have c0 := HLT.out.c0
     have c1 := HLT.out.c1
     have hbf := HLT.out.hb
     obtain ⟨m, hm⟩ : ∃ m, m = (dm.layVn K 16).length := ⟨_, rfl⟩
     have HM := Lib.hid hm
     have HOV2 : Hid (wr.ownsRow D 51 2 (.slice aov m capv) m (dcells (dm.layVn K 16))) := by
      have := HOV.out
      rw [← hm] at this
      exact this
     rw [← hm] at c0
     have hHD : H + 1 < C + 1 := by omega
     have HFIN : Hid (LayP K0 L0 B w (.returned (.agg #[.slice aov m capv, .slice aoc cl.length capc])) ((wr.setCell ⟨H + 1, 0, none⟩ (.slice aov m capv)).setCell ⟨H + 1, 1, none⟩ (.slice aoc cl.length capc))) := by
      have e1 : (dm.layF K0 L).1 = dm.layVn K 16 := by unfold dm.layF; rw [HRU2.out.1, dm.layV_n]
      have e2 : (dm.layF K0 L).2 = cl := HRU2.out.2
      have hHe := HHE.out
      refine ⟨_, L, HP.out, HU.out, rfl, ⟨aov, capv, aoc, capc, by rw [e1, e2, HM.out], ?_, ?_⟩, (HB4.out.trans (hbf.mono HB0.out)).setCell (by show B ≤ H + 1; have := HB0.out; omega) _ |>.setCell (by show B ≤ H + 1; have := HB0.out; omega) _⟩
      ·
       rw [e1, ← HM.out]
       exact own_mono (ownsRow_setCell_below (ownsRow_setCell_below HOV2.out (a := ⟨H + 1, 0, none⟩) (by show H + 1 < D; omega) (.slice aov m capv)) (a := ⟨H + 1, 1, none⟩) (by show H + 1 < D; omega) (.slice aoc cl.length capc)) (by omega)
      ·
       rw [e2]
       exact own_mono (ownsRow_setCell_below (ownsRow_setCell_below HOT.out (a := ⟨H + 1, 0, none⟩) hHD (.slice aov m capv)) (a := ⟨H + 1, 1, none⟩) hHD (.slice aoc cl.length capc)) (by omega)
     clear hm hbf HOV HOT
     go_wp2
     refine bodyPost_ret (v := .agg #[.slice aov m capv, .slice aoc cl.length capc]) (by simp [results, Tryz.results85, go_sem, r0, r1]) rfl ?_
     exact HFIN.out
end Go.Proofs.YtonknpdalemjkaaGreat
