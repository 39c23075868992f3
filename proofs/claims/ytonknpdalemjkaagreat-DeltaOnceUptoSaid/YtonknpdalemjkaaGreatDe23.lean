/- texts put together: DelStp, DelSt2, DelSt3, DelAds, ArgsK. -/
import Derived.Test.YtonknpdalemjkaaGreatDe00
import Derived.Test.YtonknpdalemjkaaGreatDe14
import Derived.Test.YtonknpdalemjkaaGreatDe17
import Derived.Test.YtonknpdalemjkaaGreatDe19
import Derived.Test.YtonknpdalemjkaaGreatDe21
import Derived.Test.YtonknpdalemjkaaGreatDe22
import Derived.ChangeArms
import Derived.Deep.SlicePairs
import Derived.Lib.SmallJoins
import Derived.WideShapes
namespace Go.Proofs.YtonknpdalemjkaaGreat
open Go Go.RowKit Go.ChangeShapes cl
theorem u64_rem (x : Int) (m : Nat) (hm : 0 < m) : ∃ J : Nat, (IntKind.u64.wrap x).tmod (m : Int) = (J : Int) ∧ J < m := by
 have h0 : 0 ≤ IntKind.u64.wrap x := by rw [IntKind.wrap_u64]; omega
 have h1 := Int.tmod_nonneg (m : Int) h0
 have h2 := Int.tmod_lt_of_pos (IntKind.u64.wrap x) (show (0 : Int) < m by omega)
 exact ⟨((IntKind.u64.wrap x).tmod (m : Int)).toNat, by omega, by omega⟩
theorem names_cell {W : World} {B b : Nat} (h : Strs W B (.slice (some ⟨b, 0, none⟩) 4 4) NM) (k : Nat) (hk : k < 4) : W.cell? ⟨b, k, none⟩ = some (.string (nam k)) := by
 obtain ⟨_, ao, c, e, _, _, h4⟩ := h
 simp only [Value.slice.injEq] at e
 obtain ⟨rfl, _, rfl⟩ := e
 obtain ⟨b', off, e2, _, hc⟩ := h4 (by decide)
 simp only [Option.some.injEq, Addr.mk.injEq, and_true] at e2
 obtain ⟨rfl, rfl⟩ := e2
 have h0 := hc k (.string (nam k)) (by
  rcases (by omega : k = 0 ∨ k = 1 ∨ k = 2 ∨ k = 3) with rfl | rfl | rfl | rfl <;> rfl)
 rwa [Nat.zero_add] at h0
theorem names_lt {W : World} {B b : Nat} (h : Strs W B (.slice (some ⟨b, 0, none⟩) 4 4) NM) : b < B := by
 obtain ⟨_, ao, c, e, _, _, h4⟩ := h
 simp only [Value.slice.injEq] at e
 obtain ⟨rfl, _, rfl⟩ := e
 obtain ⟨b', off, e2, hB, _⟩ := h4 (by decide)
 simp only [Option.some.injEq, Addr.mk.injEq, and_true] at e2
 obtain ⟨rfl, _⟩ := e2
 exact hB
theorem MX.b {w w' : World} {B : Nat} (h : MX w) (hb : Below B w w') (h0 : 0 < B) : MX w' := by
 obtain ⟨m, h⟩ := h
 exact ⟨m, (hb.cell (p := ⟨0, 0, none⟩) h0).trans h⟩
def SetV (B : Nat) (l : List Ent) (S : Dot → Prop) (v : Value) (w : World) : Prop := ∃ a0 n0 c0 a1 n1 c1 a2 n2 c2 cc, v = .agg #[.slice a0 n0 c0, .slice a1 n1 c1, .slice a2 n2 c2] ∧ EntO B w (.slice a0 n0 c0) l ∧ OwnC B w (.agg #[.slice a1 n1 c1, .slice a2 n2 c2]) cc ∧ ∃ m, dm.Is cc S m
def ChgV (B : Nat) (L : List Ent) (A : List Dot) (S : Dot → Prop) (v : Value) (w : World) : Prop := ∃ a0 n0 c0 a1 n1 c1 a2 n2 c2 a3 n3 c3 cc, v = .agg #[.slice a0 n0 c0, .slice a1 n1 c1, .slice a2 n2 c2, .slice a3 n3 c3] ∧ EntO B w (.slice a0 n0 c0) L ∧ DotO B w (.slice a1 n1 c1) A ∧ OwnC B w (.agg #[.slice a2 n2 c2, .slice a3 n3 c3]) cc ∧ ∃ m, dm.Is cc S m
structure Kept (P : Value → World → Prop) : Prop where
 on : ∀ {v : Value} {w w' : World}, P v w → Below w.heap.size w w' → P v w'
 kt : ∀ {T : TypeId} {v : Value} {w w' : World}, P v w → Kt T w w' → 54 ≠ T → 51 ≠ T → P v w'
def PairV (P Q : Value → World → Prop) (v : Value) (w : World) : Prop := ∃ s0 s1, v = .tuple #[s0, s1] ∧ P s0 w ∧ Q s1 w
theorem dropN_eq {p : Ent → Bool} {l : List Ent} {c : dm.Ctx} {d : Dot} {va : Value} {w w' : World} {e : Ending} (h : DropR p l c d va w e w') (hg : goneOf p l = []) : e = .returned (.tuple #[va, .agg #[.slice none 0 0, .slice none 0 0, .slice none 0 0, .slice none 0 0]]) ∧ Below w.heap.size w w' := by
 rcases h with ⟨_, h⟩ | ⟨h, _⟩
 ·
  exact h
 ·
  exact absurd hg h
theorem dropY_pair {B : Nat} {p : Ent → Bool} {l : List Ent} {c : dm.Ctx} {d : Dot} {va : Value} {w w' : World} {e : Ending} (h : DropR p l c d va w e w') (hg : goneOf p l ≠ []) (hB : B ≤ w.heap.size) : ∃ v, e = .returned v ∧ PairV (SetV B (staysOf p l) (fun e => dm.Knows c e ∨ e = d)) (ChgV B [] [] (fun e => valid e = true ∧ e ∈ goneOf p l ++ [d])) v w' ∧ Below w.heap.size w w' := by
 rcases h with ⟨h, _⟩ | ⟨_, u0, u1, u2, t2, t3, c', dc, rfl, h1, h2, h3, h4, h5, h6⟩
 ·
  exact absurd h hg
 ·
  obtain ⟨a0, x0, rfl⟩ := own_slice h1
  obtain ⟨a1, n1, c1, a2, n2, c2, e1⟩ := h2.form
  obtain ⟨a3, n3, c3, a4, n4, c4, e2⟩ := h3.form
  simp only [Value.agg.injEq, Array.mk.injEq, List.cons.injEq, and_true] at e1 e2
  obtain ⟨rfl, rfl⟩ := e1
  obtain ⟨rfl, rfl⟩ := e2
  exact ⟨_, rfl, ⟨_, _, rfl, ⟨_, _, _, _, _, _, _, _, _, c', rfl, h1.low hB, h2.low hB, _, h4⟩, ⟨_, _, _, _, _, _, _, _, _, _, _, _, dc, rfl, World.ownsRow_nil _ _ _ _, World.ownsRow_nil _ _ _ _, h3.low hB, h5⟩⟩, h6⟩
theorem chg_some {B n1 n2 : Nat} {a1 a2 : Option Addr} {c1 c2 : Nat} {w : World} {c : dm.Ctx} {d : Dot} {G : List Dot} (h : OwnC B w (.agg #[.slice a1 n1 c1, .slice a2 n2 c2]) c) (hI : ∃ m, dm.Is c (fun e => valid e = true ∧ e ∈ G ++ [d]) m) (hv : valid d = true) (hG : G.length ≤ 900) : n1 + n2 ≠ 0 ∧ n1 ≤ 1000 ∧ n2 ≤ 1000 := by
 obtain ⟨b1, d1, b2, d2, e, h1, h2⟩ := h
 simp only [Value.agg.injEq, Array.mk.injEq, List.cons.injEq, Value.slice.injEq, and_true] at e
 obtain ⟨⟨rfl, e1, rfl⟩, rfl, e2, rfl⟩ := e
 obtain ⟨m, hI⟩ := hI
 have hk : dm.Knows c d := (hI.know d).2 ⟨hv, by simp⟩
 have hl := cloud_len (U := G ++ [d]) hI.right (fun x hx => ((hI.know x).1 hx).2)
 rw [List.length_append, List.length_singleton] at hl
 have h16 := hI.len1
 refine ⟨fun e => ?_, by omega, by omega⟩
 have z1 : c.1 = [] := List.eq_nil_of_length_eq_zero (by omega)
 have z2 : c.2 = [] := List.eq_nil_of_length_eq_zero (by omega)
 obtain ⟨_, hk⟩ := hk
 rw [z1, z2] at hk
 have h0 : dm.kn [] d.1 = 0 := rfl
 have hd := (dm.valid_iff d).1 hv
 simp only [h0, List.not_mem_nil, or_false] at hk
 omega
theorem gone_le {p : Ent → Bool} {l : List Ent} {n : Nat} (h : l.length ≤ n) : (goneOf p l).length ≤ n := by
 unfold goneOf
 rw [List.length_map]
 exact Nat.le_trans (List.length_filter_le _ _) h
def SetE (B : Nat) (l : List Ent) (c : dm.Ctx) (v : Value) (w : World) : Prop := ∃ a0 n0 c0 a1 n1 c1 a2 n2 c2, v = .agg #[.slice a0 n0 c0, .slice a1 n1 c1, .slice a2 n2 c2] ∧ EntO B w (.slice a0 n0 c0) l ∧ OwnC B w (.agg #[.slice a1 n1 c1, .slice a2 n2 c2]) c
theorem setE_kept (B : Nat) (l : List Ent) (c : dm.Ctx) : Kept (SetE B l c) :=
 ⟨fun ⟨a0, n0, c0, a1, n1, c1, a2, n2, c2, e, h1, h2⟩ hb => ⟨a0, n0, c0, a1, n1, c1, a2, n2, c2, e, h1.on hb, h2.on hb⟩, fun ⟨a0, n0, c0, a1, n1, c1, a2, n2, c2, e, h1, h2⟩ hk q1 q2 => ⟨a0, n0, c0, a1, n1, c1, a2, n2, c2, e, h1.kt hk q1, h2.kt hk q2⟩⟩
theorem SetE.mk {B : Nat} {l : List Ent} {c : dm.Ctx} {u0 u1 u2 : Value} {w : World} (h1 : EntO B w u0 l) (h2 : OwnC B w (.agg #[u1, u2]) c) : SetE B l c (.agg #[u0, u1, u2]) w := by
 obtain ⟨a0, x0, rfl⟩ := own_slice h1
 obtain ⟨a1, n1, c1, a2, n2, c2, e⟩ := h2.form
 simp only [Value.agg.injEq, Array.mk.injEq, List.cons.injEq, and_true] at e
 obtain ⟨rfl, rfl⟩ := e
 exact ⟨_, _, _, _, _, _, _, _, _, rfl, h1, h2⟩
def SncV (B : Nat) (l : List Ent) (c dc : dm.Ctx) (v : Value) (w : World) : Prop := ∃ a0 n0 c0 a1 n1 c1 a2 n2 c2 a3 n3 c3, v = .agg #[.slice a0 n0 c0, .slice a1 n1 c1, .slice a2 n2 c2, .slice a3 n3 c3] ∧ EntO B w (.slice a0 n0 c0) (newOf dc l) ∧ DotO B w (.slice a1 n1 c1) (l.map Ent.d) ∧ OwnC B w (.agg #[.slice a2 n2 c2, .slice a3 n3 c3]) c
theorem sncV_kept (B : Nat) (l : List Ent) (c dc : dm.Ctx) : Kept (SncV B l c dc) :=
 ⟨fun ⟨a0, n0, c0, a1, n1, c1, a2, n2, c2, a3, n3, c3, e, h1, h2, h3⟩ hb => ⟨a0, n0, c0, a1, n1, c1, a2, n2, c2, a3, n3, c3, e, h1.on hb, h2.on hb, h3.on hb⟩, fun ⟨a0, n0, c0, a1, n1, c1, a2, n2, c2, a3, n3, c3, e, h1, h2, h3⟩ hk q1 q2 => ⟨a0, n0, c0, a1, n1, c1, a2, n2, c2, a3, n3, c3, e, h1.kt hk q1, h2.kt hk q2, h3.kt hk q2⟩⟩
def MrgV (B : Nat) (l : List Ent) (c : dm.Ctx) (L : List Ent) (C : dm.Ctx) (v : Value) (w : World) : Prop := ∃ L' c', SetE B L' c' v w ∧ L'.Perm (mrg l c L C) ∧ os.Up L' ∧ ∃ m, dm.Is c' (fun e => dm.Knows c e ∨ dm.Knows C e) m
theorem mrgV_kept (B : Nat) (l : List Ent) (c : dm.Ctx) (L : List Ent) (C : dm.Ctx) : Kept (MrgV B l c L C) :=
 ⟨fun ⟨L', c', h, h2⟩ hb => ⟨L', c', (setE_kept _ _ _).on h hb, h2⟩, fun ⟨L', c', h, h2⟩ hk q1 q2 => ⟨L', c', (setE_kept _ _ _).kt h hk q1 q2, h2⟩⟩
theorem since_v (l : List Ent) (c dc : dm.Ctx) (v u1 u2 : Value) (w : World) (h : SetE 0 l c v w) (hd : OwnC 0 w (.agg #[u1, u2]) dc) (hr : RSet l c) (hrd : dm.Right dc) (hl : l.length ≤ 1000) (hc1 : c.1.length ≤ 1000) (hc2 : c.2.length ≤ 1000) (hm : MX w) :
  Calls Tryz.prog 13 #[v, .agg #[u1, u2]] w fun e w' => ∃ d, e = .returned d ∧ SncV 0 l c dc d w' ∧ Below w.heap.size w w' := by
 obtain ⟨a0, n0, c0, a1, n1, c1, a2, n2, c2, rfl, h1, h2⟩ := h
 refine (since_yes l c dc _ _ _ _ _ w h1.at h2.at hd.at hr hrd hl hc1 hc2 hm).mono ?_
 rintro e w' ⟨x0, xa, x1, x2, rfl, g1, g2, g3, g4⟩
 obtain ⟨b0, d0, rfl⟩ := own_slice g1
 obtain ⟨b1, d1, rfl⟩ := own_slice g2
 obtain ⟨b3, m3, d3, b4, m4, d4, e⟩ := g3.form
 simp only [Value.agg.injEq, Array.mk.injEq, List.cons.injEq, and_true] at e
 obtain ⟨rfl, rfl⟩ := e
 exact ⟨_, rfl, ⟨_, _, _, _, _, _, _, _, _, _, _, _, rfl, g1.low (Nat.zero_le _), g2.low (Nat.zero_le _), g3.low (Nat.zero_le _)⟩, g4⟩
theorem apply_v (l L : List Ent) (c C : dm.Ctx) (v d : Value) (w : World) (h : SetE 0 l c v w) (hd : SncV 0 L C c d w) (hr : RSet l c) (hR : RSet L C) (hl : l.length ≤ 1000) (hL : L.length ≤ 1000) (hc2 : c.2.length ≤ 1000) (hC2 : C.2.length ≤ 1000) (hm : MX w) :
  Calls Tryz.prog 24 #[v, d] w fun e w' => ∃ v', e = .returned v' ∧ MrgV 0 l c L C v' w' ∧ Below w.heap.size w w' := by
 obtain ⟨a0, n0, c0, a1, n1, c1, a2, n2, c2, rfl, h1, h2⟩ := h
 obtain ⟨b0, m0, d0, b1, m1, d1, b2, m2, d2, b3, m3, d3, rfl, g1, g2, g3⟩ := hd
 refine (oapply_yes l c (newOf c L) (L.map Ent.d) C _ _ _ _ _ _ _ w h1.at h2.at g1.at g2.at g3.at hr (rdel_since hR c) (told_since L c) hl (Nat.le_trans (newOf_len _ _) hL) (by rw [List.length_map]; exact hL) hc2 hC2 hm).mono ?_
 rintro e w' ⟨x0, x1, x2, L', c', rfl, k1, k2, k3, k4, k5, k6⟩
 exact ⟨_, rfl, ⟨L', c', SetE.mk (k1.low (Nat.zero_le _)) (k2.low (Nat.zero_le _)), k3, k4, _, k5⟩, k6⟩
theorem kt3 {w : World} {q : Nat} {g : Nat → Value} (h : Box6 w q g) (i j k : Nat) (a b c : Value) : Kt 41 w (((w.setCell ⟨q, i, none⟩ a).setCell ⟨q, j, none⟩ b).setCell ⟨q, k, none⟩ c) := by
 obtain ⟨arr, h1, _⟩ := h
 exact ((Kt.set h1 i a).trans (Kt.set (heap_setCell_same _ q i _ _ _ h1) j b)).trans (Kt.set (heap_setCell_same _ q j _ _ _ (heap_setCell_same _ q i _ _ _ h1)) k c)
end Go.Proofs.YtonknpdalemjkaaGreat
namespace Go.Proofs.YtonknpdalemjkaaGreat
open Go Go.RowKit Go.ChangeShapes cl
def AddV (M : List Ent) (c : dm.Ctx) (d : Dot) (v : Value) (w : World) : Prop := ∃ L' c', SetE 0 L' c' v w ∧ L'.Perm M ∧ os.Up L' ∧ ∃ m, dm.Is c' (fun e => dm.Knows c e ∨ e = d) m
theorem addV_kept (M : List Ent) (c : dm.Ctx) (d : Dot) : Kept (AddV M c d) :=
 ⟨fun ⟨L', c', h, h2⟩ hb => ⟨L', c', (setE_kept _ _ _).on h hb, h2⟩, fun ⟨L', c', h, h2⟩ hk q1 q2 => ⟨L', c', (setE_kept _ _ _).kt h hk q1 q2, h2⟩⟩
def TupV (M : List Ent) (c : dm.Ctx) (d : Dot) (v : Value) (w : World) : Prop := ∃ s0 s1, v = .tuple #[s0, s1, .int .i64 0] ∧ AddV M c d s0 w
theorem tupV_kept (M : List Ent) (c : dm.Ctx) (d : Dot) : Kept (TupV M c d) :=
 ⟨fun ⟨s0, s1, e, h⟩ hb => ⟨s0, s1, e, (addV_kept _ _ _).on h hb⟩, fun ⟨s0, s1, e, h⟩ hk q1 q2 => ⟨s0, s1, e, (addV_kept _ _ _).kt h hk q1 q2⟩⟩
def DltNZ (v : Value) : Prop := ∃ a0 n0 c0 a1 n1 c1 a2 n2 c2 a3 n3 c3, v = .agg #[.slice a0 n0 c0, .slice a1 n1 c1, .slice a2 n2 c2, .slice a3 n3 c3] ∧ n2 + n3 ≠ 0 ∧ n2 ≤ 1000 ∧ n3 ≤ 1000
theorem add_v (l : List Ent) (c : dm.Ctx) (x : Ent) (v : Value) (w : World) (h : SetE 0 l c v w) (hr : RSet l c) (hx : os.Fine x) (hn : ¬ dm.Knows c x.d) (hl : l.length ≤ 1000) (hcl : c.2.length ≤ 1000) (hm : MX w) :
  Calls Tryz.prog 53 #[v, eval' x] w fun e w' => ∃ v', e = .returned v' ∧ TupV (staysOf (fun y => decide (y.s = x.s)) l ++ [x]) c x.d v' w' ∧ Below w.heap.size w w' := by
 obtain ⟨a0, n0, c0, a1, n1, c1, a2, n2, c2, rfl, h1, h2⟩ := h
 refine (oadd_yes l c x _ _ _ w h1.at h2.at hr hx hn hl hcl hm).mono ?_
 rintro e w' ⟨u0, u1, u2, t0, t1, t2, t3, L', c', dc, rfl, g1, g2, g3, g4, g5, g6, g7, g8, g9, g10⟩
 exact ⟨_, rfl, ⟨_, _, rfl, L', c', SetE.mk (g1.low (Nat.zero_le _)) (g2.low (Nat.zero_le _)), g6, g7, _, g8⟩, g10⟩
theorem drop_v {p : Ent → Bool} {l : List Ent} {c : dm.Ctx} {d : Dot} {va : Value} {w w' : World} {e : Ending} (h : DropR p l c d va w e w') (hg : goneOf p l ≠ []) (hr : RSet l c) (hd : valid d = true) (hl : l.length ≤ 900) :
  ∃ s0 s1, e = .returned (.tuple #[s0, s1]) ∧ AddV (staysOf p l) c d s0 w' ∧ DltNZ s1 ∧ Below w.heap.size w w' := by
 obtain ⟨v, rfl, ⟨s0, s1, rfl, ⟨a0, n0, c0, a1, n1, c1, a2, n2, c2, cc, rfl, h1, h2, h3⟩, ⟨b0, m0, d0, b1, m1, d1, b2, m2, d2, b3, m3, d3, dc, rfl, k1, k2, k3, k4⟩⟩, hb⟩ := dropY_pair h hg (Nat.zero_le _)
 refine ⟨_, _, rfl, ⟨staysOf p l, cc, ⟨_, _, _, _, _, _, _, _, _, rfl, h1, h2⟩, List.Perm.refl _, hr.up.sublist List.filter_sublist, h3⟩, ?_, hb⟩
 have := chg_some k3 k4 hd (gone_le hl)
 exact ⟨_, _, _, _, _, _, _, _, _, _, _, _, rfl, this.1, this.2.1, this.2.2⟩
end Go.Proofs.YtonknpdalemjkaaGreat
namespace Go.Proofs.YtonknpdalemjkaaGreat
open Go Go.RowKit Go.ChangeShapes cl
def QZ (z : Bool) (l : List Ent) (c : dm.Ctx) (M : List Ent) (d : Dot) (L' : List Ent) (c' : dm.Ctx) : Prop := if z then L' = l ∧ c' = c else L'.Perm M ∧ os.Up L' ∧ ∃ m, dm.Is c' (fun e => dm.Knows c e ∨ e = d) m
def RZ (z : Bool) (n2 n3 : Nat) : Prop := if z then n2 + n3 = 0 else n2 + n3 ≠ 0 ∧ n2 ≤ 1000 ∧ n3 ≤ 1000
def SetZ (z : Bool) (l : List Ent) (c : dm.Ctx) (M : List Ent) (d : Dot) (v : Value) (w : World) : Prop := ∃ L' c', SetE 0 L' c' v w ∧ QZ z l c M d L' c'
theorem setZ_kept (z : Bool) (l : List Ent) (c : dm.Ctx) (M : List Ent) (d : Dot) : Kept (SetZ z l c M d) :=
 ⟨fun ⟨L', c', h, h2⟩ hb => ⟨L', c', (setE_kept _ _ _).on h hb, h2⟩, fun ⟨L', c', h, h2⟩ hk q1 q2 => ⟨L', c', (setE_kept _ _ _).kt h hk q1 q2, h2⟩⟩
def DltZ (z : Bool) (v : Value) : Prop := ∃ a0 n0 c0 a1 n1 c1 a2 n2 c2 a3 n3 c3, v = .agg #[.slice a0 n0 c0, .slice a1 n1 c1, .slice a2 n2 c2, .slice a3 n3 c3] ∧ RZ z n2 n3
def RemV (z : Bool) (l : List Ent) (c : dm.Ctx) (M : List Ent) (d : Dot) (v : Value) (w : World) : Prop := ∃ s0 s1, v = .tuple #[s0, s1] ∧ SetZ z l c M d s0 w ∧ DltZ z s1
theorem remV_kept (z : Bool) (l : List Ent) (c : dm.Ctx) (M : List Ent) (d : Dot) : Kept (RemV z l c M d) :=
 ⟨fun ⟨s0, s1, e, h, h2⟩ hb => ⟨s0, s1, e, (setZ_kept _ _ _ _ _).on h hb, h2⟩, fun ⟨s0, s1, e, h, h2⟩ hk q1 q2 => ⟨s0, s1, e, (setZ_kept _ _ _ _ _).kt h hk q1 q2, h2⟩⟩
theorem dropZ {p : Ent → Bool} {l : List Ent} {c : dm.Ctx} {d : Dot} {va : Value} {w w' : World} {e : Ending} (h : DropR p l c d va w e w') (hva : SetE 0 l c va w) (hr : RSet l c) (hd : valid d = true) (hl : l.length ≤ 900) :
  ∃ v, e = .returned v ∧ RemV (decide (goneOf p l = [])) l c (staysOf p l) d v w' ∧ Below w.heap.size w w' := by
 by_cases hg : goneOf p l = []
 ·
  obtain ⟨rfl, hb⟩ := dropN_eq h hg
  refine ⟨_, rfl, ⟨_, _, rfl, ⟨l, c, (setE_kept _ _ _).on hva hb, ?_⟩, ⟨_, _, _, _, _, _, _, _, _, _, _, _, rfl, ?_⟩⟩, hb⟩
  ·
   unfold QZ; rw [if_pos (by simpa using hg)]; exact ⟨rfl, rfl⟩
  ·
   unfold RZ; rw [if_pos (by simpa using hg)]
 ·
  obtain ⟨s0, s1, rfl, ⟨L', c', h1, h2⟩, ⟨a0, n0, c0, a1, n1, c1, a2, n2, c2, a3, n3, c3, rfl, h3⟩, hb⟩ := drop_v h hg hr hd hl
  refine ⟨_, rfl, ⟨_, _, rfl, ⟨L', c', h1, ?_⟩, ⟨_, _, _, _, _, _, _, _, _, _, _, _, rfl, ?_⟩⟩, hb⟩
  ·
   unfold QZ; rw [if_neg (by simpa using hg)]; exact h2
  ·
   unfold RZ; rw [if_neg (by simpa using hg)]; exact h3
theorem rem_v (l : List Ent) (c : dm.Ctx) (d : Dot) (s : ByteArray) (v : Value) (w : World) (h : SetE 0 l c v w) (hr : RSet l c) (hd : valid d = true) (hn : ¬ dm.Knows c d) (hl : l.length ≤ 900) (hcl : c.2.length ≤ 1000) (hm : MX w) :
  Calls Tryz.prog 51 #[v, .string s, .agg #[.int .i64 d.1, .int .i64 d.2]] w fun e w' => ∃ v', e = .returned v' ∧ RemV (decide (goneOf (fun x => decide (x.s = s)) l = [])) l c (staysOf (fun x => decide (x.s = s)) l) d v' w' ∧ Below w.heap.size w w' := by
 have h0 := h
 obtain ⟨a0, n0, c0, a1, n1, c1, a2, n2, c2, rfl, h1, h2⟩ := h
 exact (orem_any l c d s _ _ _ w h1.at h2.at hr hd hn (by omega) hcl hm).mono fun e w' hh => dropZ hh h0 hr hd hl
theorem exp_v (l : List Ent) (c : dm.Ctx) (d : Dot) (k : Int) (v : Value) (w : World) (h : SetE 0 l c v w) (hr : RSet l c) (hd : valid d = true) (hn : ¬ dm.Knows c d) (hl : l.length ≤ 900) (hcl : c.2.length ≤ 1000) (hm : MX w) :
  Calls Tryz.prog 52 #[v, .int .i64 k, .agg #[.int .i64 d.1, .int .i64 d.2]] w fun e w' => ∃ v', e = .returned v' ∧ RemV (decide (goneOf (fun x => decide (x.t < k)) l = [])) l c (staysOf (fun x => decide (x.t < k)) l) d v' w' ∧ Below w.heap.size w w' := by
 have h0 := h
 obtain ⟨a0, n0, c0, a1, n1, c1, a2, n2, c2, rfl, h1, h2⟩ := h
 exact (oexp_any l c d k _ _ _ w h1.at h2.at hr hd hn (by omega) hcl hm).mono fun e w' hh => dropZ hh h0 hr hd hl
def BoxZ (z : Bool) (l : List Ent) (c : dm.Ctx) (M : List Ent) (d : Dot) (k : Nat) (u : Value) (w : World) : Prop := ∃ g a0 n0 c0 a1 n1 c1 a2 n2 c2 L' c', u = .pointer (some ⟨g, 0, none⟩) ∧ k ≤ g ∧ w.heap[g]? = some (.cells #[.slice a0 n0 c0, .slice a1 n1 c1, .slice a2 n2 c2] 27 (0, 0)) ∧ EntO 0 w (.slice a0 n0 c0) L' ∧ OwnC 0 w (.agg #[.slice a1 n1 c1, .slice a2 n2 c2]) c' ∧ QZ z l c M d L' c'
theorem BoxZ.on {z : Bool} {l : List Ent} {c : dm.Ctx} {M : List Ent} {d : Dot} {k : Nat} {u : Value} {w w' : World} (h : BoxZ z l c M d k u w) (hb : Below w.heap.size w w') : BoxZ z l c M d k u w' := by
 obtain ⟨g, a0, n0, c0, a1, n1, c1, a2, n2, c2, L', c', e, h0, h1, h2, h3, h4⟩ := h
 exact ⟨g, a0, n0, c0, a1, n1, c1, a2, n2, c2, L', c', e, h0, (hb.block _ (lt_of_block h1)).trans h1, h2.on hb, h3.on hb, h4⟩
theorem BoxZ.kt {T : TypeId} {z : Bool} {l : List Ent} {c : dm.Ctx} {M : List Ent} {d : Dot} {k : Nat} {u : Value} {w w' : World} (h : BoxZ z l c M d k u w) (hk : Kt T w w') (m1 : 54 ≠ T) (m2 : 51 ≠ T) (m3 : 27 ≠ T) : BoxZ z l c M d k u w' := by
 obtain ⟨g, a0, n0, c0, a1, n1, c1, a2, n2, c2, L', c', e, h0, h1, h2, h3, h4⟩ := h
 exact ⟨g, a0, n0, c0, a1, n1, c1, a2, n2, c2, L', c', e, h0, blk_kt h1 hk m3, h2.kt hk m1, h3.kt hk m2, h4⟩
def BoxY (z : Bool) (k : Nat) (u : Value) (w : World) : Prop := ∃ g a0 n0 c0 a1 n1 c1 a2 n2 c2 a3 n3 c3, u = .pointer (some ⟨g, 0, none⟩) ∧ k ≤ g ∧ w.heap[g]? = some (.cells #[.slice a0 n0 c0, .slice a1 n1 c1, .slice a2 n2 c2, .slice a3 n3 c3] 29 (0, 0)) ∧ RZ z n2 n3
theorem BoxY.on {z : Bool} {k : Nat} {u : Value} {w w' : World} (h : BoxY z k u w) (hb : Below w.heap.size w w') : BoxY z k u w' := by
 obtain ⟨g, a0, n0, c0, a1, n1, c1, a2, n2, c2, a3, n3, c3, e, h0, h1, h2⟩ := h
 exact ⟨g, a0, n0, c0, a1, n1, c1, a2, n2, c2, a3, n3, c3, e, h0, (hb.block _ (lt_of_block h1)).trans h1, h2⟩
theorem BoxY.kt {T : TypeId} {z : Bool} {k : Nat} {u : Value} {w w' : World} (h : BoxY z k u w) (hk : Kt T w w') (m3 : 29 ≠ T) : BoxY z k u w' := by
 obtain ⟨g, a0, n0, c0, a1, n1, c1, a2, n2, c2, a3, n3, c3, e, h0, h1, h2⟩ := h
 exact ⟨g, a0, n0, c0, a1, n1, c1, a2, n2, c2, a3, n3, c3, e, h0, blk_kt h1 hk m3, h2⟩
theorem set4_grown {g : Nat} {a b c d : Value} (w : World) : w.grownBy ((((w.setCell ⟨g, 0, none⟩ a).setCell ⟨g, 1, none⟩ b).setCell ⟨g, 2, none⟩ c).setCell ⟨g, 3, none⟩ d) (some g) := grown_trans (set3_grown w) (set1_grown d)
end Go.Proofs.YtonknpdalemjkaaGreat
namespace Go.Proofs.YtonknpdalemjkaaGreat
open Go Go.RowKit Go.ChangeShapes cl
def who (o : List Int) : Int := (IntKind.u64.wrap (o.getD 1 0)).tmod 2
def cntW (l : List (List Int)) (k i : Nat) : Nat := ((List.range k).filter fun j => decide (who (l.getD j []) = (i : Int))).length
theorem cntW_succ (l : List (List Int)) (k i : Nat) : cntW l (k + 1) i = cntW l k i + if who (l.getD k []) = (i : Int) then 1 else 0 := by
 unfold cntW
 rw [List.range_succ, List.filter_append, List.length_append]
 congr 1
 by_cases e : who (l.getD k []) = (i : Int)
 ·
  rw [if_pos e, List.filter_cons_of_pos (by simpa using e)]; rfl
 ·
  rw [if_neg e, List.filter_cons_of_neg (by simpa using e)]; rfl
def Adds (l : List (List Int)) (k : Nat) (s : TS) : Prop := (∀ j, j < k → (l.getD j []).getD 0 0 = 0) → ∀ i, i < 2 → (∀ x ∈ s.l i, x.d.1 = (i : Int)) ∧ (∀ d, dm.Knows (s.c i) d → d.1 = (i : Int)) ∧ (s.l i).length ≤ s.made i ∧ (1 ≤ s.made i → s.l i ≠ []) ∧ s.made i = cntW l k i
theorem adds_zero (l : List (List Int)) : Adds l 0 TS.zero := fun _ i _ => ⟨(fun x hx => by cases hx), (fun d hd => absurd hd (kn_nil d)), Nat.zero_le _, (fun h => absurd h (by show ¬ 1 ≤ 0; omega)), rfl⟩
theorem adds_no {l : List (List Int)} {k : Nat} {x : Int} (h : x = (l.getD k []).getD 0 0) (hx : x ≠ 0) (s : TS) : Adds l (k + 1) s := fun hz => absurd (h.trans (hz k (Nat.lt_succ_self k))) hx
theorem adds_add {l : List (List Int)} {k m : Nat} {s : TS} (h : Adds l k s) {i : Nat} (hw : who (l.getD k []) = (i : Int)) {x : Ent} {p : Ent → Bool} {L' : List Ent} {c' : dm.Ctx} (hxd : x.d = s.nd i)
  (hp : L'.Perm (staysOf p (s.l i) ++ [x])) (hc : dm.Is c' (fun e => dm.Knows (s.c i) e ∨ e = s.nd i) m) : Adds l (k + 1) (s.put i L' c' (s.made i + 1)) := fun hz j hj => by
 obtain ⟨h1, h2, h3, h4, h5⟩ := h (fun a ha => hz a (by omega)) j hj
 by_cases e : j = i
 ·
  subst e
  simp only [TS.put, upd_same]
  refine ⟨fun y hy => ?_, fun d hd => ?_, ?_, fun _ e => ?_, ?_⟩
  ·
   rcases List.mem_append.1 (hp.mem_iff.1 hy) with hy | hy
   ·
    exact h1 y (mem_stays.1 hy).1
   ·
    rw [List.mem_singleton.1 hy, hxd]; rfl
  ·
   rcases (hc.know d).1 hd with hd | hd
   ·
    exact h2 d hd
   ·
    rw [hd]; rfl
  ·
   have := hp.length_eq
   rw [List.length_append, List.length_singleton] at this
   have := stays_len p (s.l j)
   omega
  ·
   have := hp.length_eq
   rw [e, List.length_append, List.length_singleton] at this
   simp at this
  ·
   rw [cntW_succ, if_pos hw, h5]
 ·
  simp only [TS.put, upd_other _ _ e]
  refine ⟨h1, h2, h3, h4, ?_⟩
  rw [cntW_succ, if_neg (fun e2 => e (by rw [hw] at e2; omega)), h5]; rfl
theorem adds_two {s : TS} (h : Adds [[0, 0, 0, 0], [0, 1, 1, 0]] 2 s) : (∀ i, i < 2 → (s.l i).length = 1 ∧ (∀ x ∈ s.l i, x.d.1 = (i : Int)) ∧ ∀ d, dm.Knows (s.c i) d → d.1 = (i : Int)) := fun i hi => by
 have hz : ∀ j, j < 2 → ((([[0, 0, 0, 0], [0, 1, 1, 0]] : List (List Int)).getD j []).getD 0 0) = 0 := fun j hj => by
  rcases (by omega : j = 0 ∨ j = 1) with rfl | rfl <;> rfl
 obtain ⟨h1, h2, h3, h4, h5⟩ := h hz i hi
 have hc : cntW [[0, 0, 0, 0], [0, 1, 1, 0]] 2 i = 1 := by
  rcases (by omega : i = 0 ∨ i = 1) with rfl | rfl <;> decide
 rw [hc] at h5
 have := h4 (by omega)
 refine ⟨?_, h1, h2⟩
 have : 0 < (s.l i).length := List.length_pos_iff.2 this
 omega
end Go.Proofs.YtonknpdalemjkaaGreat
namespace Go.Proofs.YtonknpdalemjkaaGreat
open Go.RowKit Go.WideShapes Go.ChangeShapes cl
def kcells (l : List (List Int)) : List Value := l.flatten.map (.int .i64)
theorem kcells_len {k : Nat} : ∀ {l : List (List Int)}, (∀ x ∈ l, x.length = k) → (kcells l).length = l.length * k := by
 intro l h
 unfold kcells
 rw [List.length_map]
 induction l with
 | nil => simp
 | cons x l ih =>
  rw [List.flatten_cons, List.length_append, List.length_cons, ih (fun y hy => h y (List.mem_cons_of_mem _ hy)), h x List.mem_cons_self, Nat.succ_mul, Nat.add_comm]
theorem kcells_get {k : Nat} : ∀ {l : List (List Int)} (_ : ∀ x ∈ l, x.length = k) (j i : Nat), j < l.length → i < k → (kcells l)[j * k + i]? = some (.int .i64 ((l.getD j []).getD i 0)) := by
 intro l
 induction l with
 | nil => intro _ j i h; simp at h
 | cons x l ih =>
  intro h j i hj hi
  have hx := h x List.mem_cons_self
  have e : kcells (x :: l) = x.map (.int .i64) ++ kcells l := by simp [kcells]
  rw [e]
  cases j with
  | zero =>
   rw [Nat.zero_mul, Nat.zero_add, List.getElem?_append_left (by rw [List.length_map, hx]; exact hi)]
   simp [List.getD, hx, hi]
  | succ j =>
   rw [Nat.succ_mul, List.getElem?_append_right (by rw [List.length_map, hx]; omega), List.length_map, hx]
   have := ih (fun y hy => h y (List.mem_cons_of_mem _ hy)) j i (by simpa using hj) hi
   rw [show j * k + k + i - k = j * k + i by omega, this]
   rfl
def KInts (k : Nat) (w : World) (B : Nat) (v : Value) (l : List (List Int)) : Prop := (∀ x ∈ l, x.length = k ∧ ∀ y ∈ x, (Lit.int .i64 y).wf = true) ∧ Cells w B v l.length k (kcells l)
theorem KInts.get {k : Nat} {w : World} {B n c : Nat} {ao : Option Addr} {l : List (List Int)} (h : KInts k w B (.slice ao n c) l) (hn : n = l.length) {j : Nat} (hj : j < n) : ∃ b off, ao = some ⟨b, off, none⟩ ∧ b < B ∧
  (∀ i, i < k → w.cell? ⟨b, off + (j * k + i), none⟩ = some (.int .i64 ((l.getD j []).getD i 0))) ∧ (l.getD j []).length = k ∧ ∀ y ∈ l.getD j [], (Lit.int .i64 y).wf = true := by
 subst hn
 obtain ⟨hk, _, ao', c', e, _, _, h4⟩ := h
 simp only [Value.slice.injEq] at e
 obtain ⟨rfl, _, rfl⟩ := e
 obtain ⟨b, off, rfl, hB, hc⟩ := h4 (by omega)
 have hm : l.getD j [] ∈ l := by
  simp only [List.getD, List.getElem?_eq_getElem hj, Option.getD_some]
  exact List.getElem_mem hj
 refine ⟨b, off, rfl, hB, fun i hi => hc _ _ (kcells_get (fun x hx => (hk x hx).1) j i hj hi), (hk _ hm).1, (hk _ hm).2⟩
theorem KInts.form {k : Nat} {w : World} {B : Nat} {v : Value} {l : List (List Int)} (h : KInts k w B v l) : ∃ ao cap, v = .slice ao l.length cap ∧ l.length ≤ cap ∧ l.length ≤ maxLen := Cells.form h.2
theorem open_kints {H : Type} {enc : TypeId × Value → H} {P : Program} {W : World} {r : Reach} {b0 : Nat} {t e it : TypeId} {k : Nat} {fs : Array Field} {v : Value} {d : DataW H} {ps : List MemPlace} (ht : P.underlying t = some (.slice e)) (he : P.underlying e = some (.struct fs))
  (hfs : fs.size = k) (ce : P.cellsOf e = k) (hf : ∀ (i : Nat) (f : Field), fs[i]? = some f → f.offset = i ∧ f.type = it) (ci : P.cellsOf it = 1) (si : P.underlying it = some (.int .i64)) (hk : 0 < k)
  (hval : Value.okWide P W r b0 t v) (hd : DataW.Trod enc P W 0 (fun _ => true) true t v d ps) : ∃ l : List (List Int), KInts k W W.heap.size v l := by
 obtain ⟨a0, len, cap, rfl⟩ := okWide_slice ht hval
 obtain ⟨fuel, hfu⟩ := hd
 rcases Deep.open_slice ht hfu with ⟨hcs, _⟩ | ⟨a, len', cap', m, n, D, Pl, hcs, _, hle, hmax, hm, _, hx⟩
 ·
  simp [Value.cells] at hcs
  obtain ⟨rfl, rfl, rfl⟩ := hcs
  exact ⟨[], by simp, Cells.nil _ _ _⟩
 ·
  simp [Value.cells] at hcs
  obtain ⟨rfl, rfl, rfl⟩ := hcs
  have hml : len ≤ m := by rw [hm]; split <;> omega
  have one : ∀ i q, i < len → q < k → ∃ x : Int, W.cell? (a.add (i * k + q)) = some (.int .i64 x) ∧ (Lit.int .i64 x).wf = true := fun i q hi hq => by
   obtain ⟨cs', h1, h2⟩ := hx i (by omega)
   rw [ce] at h1
   obtain ⟨_, hlen, hcell⟩ := World.cells?_some h1
   obtain ⟨xs, n', hn', hxy, _, hxl, hff⟩ := DataW.trod_struct he h2
   have hq2 : q < fs.size := by omega
   obtain ⟨f1, f2⟩ := hf q fs[q] (Array.getElem?_eq_getElem hq2)
   have g0 := hff q fs[q] (Array.getElem?_eq_getElem hq2)
   rw [f1, f2, ci, List.getElem?_eq_getElem (by omega)] at g0
   have hql : q < cs'.length := by omega
   rw [List.drop_eq_getElem_cons hql, List.take_succ_cons, List.take_zero] at g0
   obtain ⟨x, ex, _, sx⟩ := DataW.trod_int si g0
   simp only [List.cons.injEq, and_true] at ex
   have e0 := hcell q (by omega)
   rw [Deep.add_add] at e0
   exact ⟨x, by rw [e0, List.getElem?_eq_getElem hql, ex], sx⟩
  have hg : ∃ f : Nat → Nat → Int, ∀ i q, i < len → q < k → W.cell? (a.add (i * k + q)) = some (.int .i64 (f i q)) ∧ (Lit.int .i64 (f i q)).wf = true := by
   refine ⟨fun i q => if h : i < len ∧ q < k then (one i q h.1 h.2).choose else 0, fun i q hi hq => ?_⟩
   simp only [dif_pos (And.intro hi hq)]
   exact (one i q hi hq).choose_spec
  obtain ⟨f, hg⟩ := hg
  have hl : ((List.range len).map fun i => (List.range k).map (f i)).length = len := by simp
  have hall : ∀ x ∈ (List.range len).map fun i => (List.range k).map (f i), x.length = k := fun x hx => by
   obtain ⟨i, _, rfl⟩ := List.mem_map.1 hx
   simp
  refine ⟨(List.range len).map fun i => (List.range k).map (f i), fun x hx => ⟨hall x hx, fun y hy => ?_⟩, by rw [kcells_len hall], some a, cap, by rw [hl], ⟨(fun e => by cases e), by omega⟩, by omega, fun hp => ?_⟩
  ·
   obtain ⟨i, hi, rfl⟩ := List.mem_map.1 hx
   obtain ⟨q, hq, rfl⟩ := List.mem_map.1 hy
   exact (hg i q (List.mem_range.1 hi) (List.mem_range.1 hq)).2
  ·
   rw [hl] at hp
   obtain ⟨b, off, spot⟩ := a
   have h0 := (hg 0 0 hp hk).1
   have hspot : spot = none := by simpa [Addr.add] using World.cell?_spot h0
   subst hspot
   refine ⟨b, off, rfl, (by have := World.block_lt_of_cell? _ _ h0; rwa [Addr.add_lit] at this), fun j u hj => ?_⟩
   have hjl : j < len * k := by have := (List.getElem?_eq_some_iff.1 hj).1; rw [kcells_len hall, hl] at this; exact this
   have hjk : j / k < len := by rw [Nat.div_lt_iff_lt_mul hk]; exact hjl
   have hmk : j % k < k := Nat.mod_lt _ hk
   have ej : j / k * k + j % k = j := Nat.div_add_mod' j k
   have g0 := kcells_get hall (j / k) (j % k) (by rw [hl]; exact hjk) hmk
   have hv : (((List.range len).map fun i => (List.range k).map (f i)).getD (j / k) []).getD (j % k) 0 = f (j / k) (j % k) := by simp [List.getD, hjk, hmk]
   rw [hv, ej, hj] at g0
   have k0 := (hg (j / k) (j % k) hjk hmk).1
   rw [Addr.add_lit, ej] at k0
   rw [k0]; exact g0.symm
end Go.Proofs.YtonknpdalemjkaaGreat
