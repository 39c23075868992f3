/- dot: words for the laws: three contexts in variables; what is asked of them, for whatever later world. -/
import Derived.Test.YtdcmoeklldkccaaDotBox
import Derived.OpenShut
namespace Go.Proofs.Ytdcmoeklldkccaa
open Go Go.RowKit Go.ChangeShapes Go.WideShapes cl Go.Sort

theorem CBox.mk' {w : World} {b : Nat} {a1 : Option Addr} {n1 c1 : Nat} {a2 : Option Addr} {n2 c2 : Nat} {c : dm.Ctx} (h : CtxAt w w.heap.size (.agg #[.slice a1 n1 c1, .slice a2 n2 c2]) c) (hb : b = w.heap.size) :
    CBox (w.alloc (.cells #[.slice a1 n1 c1, .slice a2 n2 c2] 24)) b a1 n1 c1 a2 n2 c2 c := by subst hb; exact CBox.new h
/-- a context in a variable, in every world that comes -/
def KB (W0 : World) (b : Nat) (a1 : Option Addr) (n1 c1 : Nat) (a2 : Option Addr) (n2 c2 : Nat) (c : dm.Ctx) : Prop := ∀ W, Below W0.heap.size W0 W → CBox W b a1 n1 c1 a2 n2 c2 c
theorem KB.mk {W0 : World} {b : Nat} {a1 : Option Addr} {n1 c1 : Nat} {a2 : Option Addr} {n2 c2 : Nat} {c : dm.Ctx} (h : CBox W0 b a1 n1 c1 a2 n2 c2 c) : KB W0 b a1 n1 c1 a2 n2 c2 c := fun _ hW => h.next hW
/-- the same, the base moved on -/
theorem KB.on {W0 W1 : World} {b : Nat} {a1 : Option Addr} {n1 c1 : Nat} {a2 : Option Addr} {n2 c2 : Nat} {c : dm.Ctx} (h : KB W0 b a1 n1 c1 a2 n2 c2 c) (h1 : Below W0.heap.size W0 W1) : KB W1 b a1 n1 c1 a2 n2 c2 c := fun W hW => h W (h1.trans (hW.mono h1.size))
/-- what From answers, for a slice of the law's -/
theorem from_says {l : List Dot} {v : Value} {w : World} (h : ∀ W, Below w.heap.size w W → Dots W W.heap.size v l) (hl : l.length ≤ 100) (W : World) (hW : Below w.heap.size w W) :
    Calls Try.prog 28 #[v] W fun e w' => ∃ a1 n1 c1 a2 n2 c2 c, e = .returned (.agg #[.slice a1 n1 c1, .slice a2 n2 c2]) ∧ CtxAt w' w'.heap.size (.agg #[.slice a1 n1 c1, .slice a2 n2 c2]) c ∧ dm.Is c (fun d => valid d = true ∧ d ∈ l) 100 ∧ Below W.heap.size W w' := by
  refine (from_any l v W (h W hW) (by omega)).mono ?_
  rintro e w' ⟨v, c, rfl, hat, his, hb⟩
  obtain ⟨a1, n1, c1, a2, n2, c2, rfl, _, _⟩ := hat.form
  exact ⟨_, _, _, _, _, _, c, rfl, hat, ⟨his.right, his.know, his.len1, Nat.le_trans his.len2 hl⟩, hb⟩
theorem under_says {W0 : World} {b b' : Nat} {a1 a1' : Option Addr} {n1 c1 n1' c1' : Nat} {a2 a2' : Option Addr} {n2 c2 n2' c2' : Nat} {c c' : dm.Ctx} {S S' : Dot → Prop} {m m' : Nat} (h : KB W0 b a1 n1 c1 a2 n2 c2 c) (h' : KB W0 b' a1' n1' c1' a2' n2' c2' c')
    (hs : dm.Is c S m) (hs' : dm.Is c' S' m') (hm : m ≤ 400000) (hm' : m' ≤ 400000) (W : World) (hW : Below W0.heap.size W0 W) :
    Calls Try.prog 26 #[.agg #[.slice a1 n1 c1, .slice a2 n2 c2], .agg #[.slice a1' n1' c1', .slice a2' n2' c2']] W (Said (underB c c') W) :=
  under_any c c' _ _ W (h W hW).ctx (h' W hW).ctx (Nat.le_trans hs.len2 hm) (Nat.le_trans hs'.len2 hm')
theorem has_says {W0 : World} {b : Nat} {a1 : Option Addr} {n1 c1 : Nat} {a2 : Option Addr} {n2 c2 : Nat} {c : dm.Ctx} (h : KB W0 b a1 n1 c1 a2 n2 c2 c) (d : Dot) (W : World) (hW : Below W0.heap.size W0 W) :
    Calls Try.prog 16 #[.agg #[.slice a1 n1 c1, .slice a2 n2 c2], .agg #[.int .i64 d.1, .int .i64 d.2]] W (Said (dm.hasF c d) W) := has_any c d _ W (h W hW).ctx
theorem same_says {W0 : World} {b b' : Nat} {a1 a1' : Option Addr} {n1 c1 n1' c1' : Nat} {a2 a2' : Option Addr} {n2 c2 n2' c2' : Nat} {c c' : dm.Ctx} (h : KB W0 b a1 n1 c1 a2 n2 c2 c) (h' : KB W0 b' a1' n1' c1' a2' n2' c2' c') (W : World) (hW : Below W0.heap.size W0 W) :
    Calls Try.prog 25 #[.agg #[.slice a1 n1 c1, .slice a2 n2 c2], .agg #[.slice a1' n1' c1', .slice a2' n2' c2']] W (Said (decide (c = c')) W) := csame_any c c' _ _ W (h W hW).ctx (h' W hW).ctx
theorem underB_is {a b : dm.Ctx} {S T : Dot → Prop} {m n : Nat} (ha : dm.Is a S m) (hb : dm.Is b T n) : underB a b = true ↔ ∀ d, S d → T d := by
  by_cases h : ∀ e, dm.Knows a e → dm.Knows b e
  · rw [underB_of ha.right hb.right h]
    exact ⟨fun _ d hd => (hb.know d).1 (h d ((ha.know d).2 hd)), fun _ => rfl⟩
  · rw [underB_not h]
    exact ⟨fun e => (by cases e), fun h2 => (h fun e he => (hb.know e).2 (h2 e ((ha.know e).1 he))).elim⟩
theorem hasF_is {a : dm.Ctx} {S : Dot → Prop} {m : Nat} (ha : dm.Is a S m) (d : Dot) : dm.hasF a d = true ↔ S d := by rw [dm.hasF_iff, ha.know]
/-- []dot.Dot arguments -/
theorem open_dots {H : Type} {enc : TypeId × Value → H} {P : Program} {W : World} {r : Reach} {b0 : Nat} {t e : TypeId} {f0 f1 : Field} {v : Value} {d : DataW H} {ps : List MemPlace} (ht : P.underlying t = some (.slice e)) (he : P.underlying e = some (.struct #[f0, f1]))
    (ce : P.cellsOf e = 2) (o0 : f0.offset = 0) (o1 : f1.offset = 1) (c0 : P.cellsOf f0.type = 1) (c1 : P.cellsOf f1.type = 1) (s0 : P.underlying f0.type = some (.int .i64)) (s1 : P.underlying f1.type = some (.int .i64))
    (hval : Value.okWide P W r b0 t v) (hd : DataW.Trod enc P W 0 (fun _ => true) true t v d ps) : ∃ l : List Dot, Dots W W.heap.size v l ∧ ∀ x ∈ l, (Lit.int .i64 x.1).wf = true ∧ (Lit.int .i64 x.2).wf = true := by
  obtain ⟨a0, len, cap, rfl⟩ := okWide_slice ht hval
  obtain ⟨fuel, hf⟩ := hd
  rcases Deep.open_slice_pairs ht he ce o0 o1 c0 c1 hf with ⟨hcs, _⟩ | ⟨a, len', cap', m, n, V0, V1, D0, D1, P0, P1, hcs, _, hle, hmax, hm, _, hcell⟩
  · simp [Value.cells] at hcs
    obtain ⟨rfl, rfl, rfl⟩ := hcs
    exact ⟨[], Cells.nil _ _ _, by simp⟩
  · simp [Value.cells] at hcs
    obtain ⟨rfl, rfl, rfl⟩ := hcs
    have hml : len ≤ m := by rw [hm]; split <;> omega
    have each : ∀ i, i < len → ∃ x : Dot, W.cell? (a.add (i * 2)) = some (.int .i64 x.1) ∧ W.cell? (a.add (i * 2 + 1)) = some (.int .i64 x.2) ∧ (Lit.int .i64 x.1).wf = true ∧ (Lit.int .i64 x.2).wf = true := fun i hi => by
      obtain ⟨h0, h1, t0, t1⟩ := hcell i (by omega)
      obtain ⟨x, ex, _, sx⟩ := DataW.trod_int s0 t0
      obtain ⟨y, ey, _, sy⟩ := DataW.trod_int s1 t1
      simp only [List.cons.injEq, and_true] at ex ey
      rw [ex] at h0
      rw [ey] at h1
      exact ⟨(x, y), h0, h1, sx, sy⟩
    have hf : ∃ f : Nat → Dot, ∀ i, i < len → W.cell? (a.add (i * 2)) = some (.int .i64 (f i).1) ∧ W.cell? (a.add (i * 2 + 1)) = some (.int .i64 (f i).2) ∧ (Lit.int .i64 (f i).1).wf = true ∧ (Lit.int .i64 (f i).2).wf = true := by
      refine ⟨fun i => if h : i < len then (each i h).choose else (0, 0), fun i hi => ?_⟩
      simp only [dif_pos hi]
      exact (each i hi).choose_spec
    obtain ⟨f, hf⟩ := hf
    have hl : ((List.range len).map f).length = len := by simp
    refine ⟨(List.range len).map f, ⟨by rw [dcells_len], some a, cap, by rw [hl], ⟨(fun e => by cases e), by omega⟩, by omega, fun hp => ?_⟩, fun x hx => ?_⟩
    · rw [hl] at hp
      obtain ⟨b, off, spot⟩ := a
      have h0 := (hf 0 (by omega)).1
      have hspot : spot = none := by simpa [Addr.add] using World.cell?_spot h0
      subst hspot
      refine ⟨b, off, rfl, World.block_lt_of_cell? _ _ h0, fun j u hj => ?_⟩
      have hjl : j < len * 2 := by have := (List.getElem?_eq_some_iff.1 hj).1; rw [dcells_len, hl] at this; exact this
      obtain ⟨g0, g1⟩ := dcells_get ((List.range len).map f) (j / 2) (by rw [hl]; omega)
      have hfj : ((List.range len).map f)[j / 2]'(by rw [hl]; omega) = f (j / 2) := by simp
      rw [hfj] at g0 g1
      obtain ⟨k0, k1, _⟩ := hf (j / 2) (by omega)
      rw [Addr.add_lit] at k0 k1
      rcases (by omega : j % 2 = 0 ∨ j % 2 = 1) with hev | hev
      · have ej : j / 2 * 2 = j := by omega
        rw [ej] at g0 k0
        rw [hj] at g0
        rw [k0]; exact g0.symm
      · have ej : j / 2 * 2 + 1 = j := by omega
        rw [ej] at g1 k1
        rw [hj] at g1
        rw [k1]; exact g1.symm
    · obtain ⟨i, hi, rfl⟩ := List.mem_map.1 hx
      exact (hf i (List.mem_range.1 hi)).2.2
end Go.Proofs.Ytdcmoeklldkccaa
