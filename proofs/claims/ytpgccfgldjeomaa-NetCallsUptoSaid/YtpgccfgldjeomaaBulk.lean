/- The bulk of what an argument reads as: its parts, its elements are of no more. Nothing of the program but its rows' measure. -/
import Derived.Test.YtpgccfgldjeomaaRows
import Derived.Test.YtpgccfgldjeomaaRowsAt
import Derived.WideShapes
import Derived.ChangeArms
namespace Go.Proofs.Ytpgccfgldjeomaa.cl
open Go Go.RowKit Go.WideShapes Go.ChangeShapes
section
variable {H : Type}
theorem bulk_pos (d : DataW H) : 1 ≤ Rows.uptoBulk d := by
  cases d with
  | lit l => cases l <;> simp [Rows.uptoBulk]
  | _ => simp [Rows.uptoBulk]
theorem bulkAll_len : ∀ l : List (DataW H), l.length ≤ Rows.uptoBulkAll l := by
  intro l
  induction l with
  | nil => simp
  | cons d r ih => have := bulk_pos d; simp only [List.length_cons, Rows.uptoBulkAll]; omega
theorem bulkAll_mem : ∀ (l : List (DataW H)) d, d ∈ l → Rows.uptoBulk d ≤ Rows.uptoBulkAll l := by
  intro l
  induction l with
  | nil => intro d h; cases h
  | cons a r ih =>
    intro d h
    simp only [Rows.uptoBulkAll]
    rcases List.mem_cons.1 h with rfl | h
    · omega
    · have := ih d h; omega
theorem bulkAll_app (a b : List (DataW H)) : Rows.uptoBulkAll (a ++ b) = Rows.uptoBulkAll a + Rows.uptoBulkAll b := by
  induction a with
  | nil => simp [Rows.uptoBulkAll]
  | cons d r ih => simp only [List.cons_append, Rows.uptoBulkAll, ih]; omega
theorem small_mem {ds gs : List (DataW H)} (h : Rows.uptoSmall H (ds ++ gs) = true) : ∀ d ∈ ds, Rows.uptoBulk d ≤ 1048576 := by
  intro d hd
  have h := of_decide_eq_true h
  have := bulkAll_mem _ d (List.mem_append_left gs hd)
  omega
theorem partB {P : Program} {W : World} {enc : TypeId × Value → H} {T : TypeId} {fs : Array Field} {fuel N : Nat} {cs : List Value} {x : DataW H × List MemPlace} (ht : P.underlying T = some (.struct fs)) (h : DataW.trod enc P W 0 (fun _ => true) true fuel T cs = some x) (hN : Rows.uptoBulk x.1 ≤ N) (i : Nat) (f : Field) (hf : fs[i]? = some f) :
    ∃ n y, DataW.trod enc P W 0 (fun _ => true) true n f.type ((cs.drop f.offset).take (P.cellsOf f.type)) = some y ∧ Rows.uptoBulk y.1 ≤ N := by
  obtain ⟨xs, n, _, hx, _, hl, hp⟩ := DataW.trod_struct ht h
  have hi := (Array.getElem?_eq_some_iff.1 hf).1
  have := hp i f hf
  rw [List.getElem?_eq_getElem (by omega)] at this
  refine ⟨n, _, this, ?_⟩
  have hm : (xs[i]'(by omega)).1 ∈ xs.map (·.1) := List.mem_map.2 ⟨_, List.getElem_mem _, rfl⟩
  have := bulkAll_mem _ _ hm
  subst hx
  simp only [Rows.uptoBulk] at hN
  omega
theorem str_bulk {P : Program} {W : World} {enc : TypeId × Value → H} {T : TypeId} {fuel N : Nat} {v : Value} {x : DataW H × List MemPlace} (ht : P.underlying T = some .string) (h : DataW.trod enc P W 0 (fun _ => true) true fuel T [v] = some x) (hN : Rows.uptoBulk x.1 ≤ N) : ∃ s, v = .string s ∧ s.size ≤ maxLen ∧ s.size ≤ N := by
  obtain ⟨s, e, hx, hs⟩ := DataW.trod_string ht h
  simp only [List.cons.injEq, and_true] at e
  refine ⟨s, e, hs, ?_⟩
  subst hx
  simp only [Rows.uptoBulk, Array.length_toList] at hN
  have : s.data.size = s.size := rfl
  omega
/-- a slice within an argument, its bulk -/
theorem open_rowsB {α : Type} {enc : TypeId × Value → H} {P : Program} {W : World} {t e : TypeId} {fuel k N : Nat} {v : Value} {x : DataW H × List MemPlace} {R : Rel α} {wf : α → Prop} [Inhabited α] (ht : P.underlying t = some (.slice e)) (ce : P.cellsOf e = k) (hk : 0 < k) (hN : Rows.uptoBulk x.1 ≤ N)
    (hel : ∀ (f : Nat) (cs : List Value) (y : DataW H × List MemPlace), cs.length = k → DataW.trod enc P W 0 (fun _ => true) true f e cs = some y → Rows.uptoBulk y.1 ≤ N → ∃ a : α, R W W.heap.size cs a ∧ wf a)
    (hf : DataW.trod enc P W 0 (fun _ => true) true fuel t [v] = some x) : ∃ l : List α, RowsAt k R W W.heap.size v l ∧ (∀ a ∈ l, wf a) ∧ l.length ≤ N := by
  rcases Deep.open_slice ht hf with ⟨hcs, _⟩ | ⟨a, len, cap, m, n, D0, P0, hcs, _, hle, hmax, hm, hx, hcell⟩
  · obtain rfl := (List.cons.inj hcs).1
    exact ⟨[], RowsAt.nil _ _, by simp, Nat.zero_le _⟩
  · obtain rfl := (List.cons.inj hcs).1
    subst ce
    have hml : len ≤ m := by rw [hm]; split <;> omega
    have hb : Rows.uptoBulkAll ((List.range len).map D0) ≤ N := by
      rw [hx] at hN
      simp only [Rows.uptoBulk] at hN
      omega
    have hlen : len ≤ N := by
      have := bulkAll_len ((List.range len).map D0)
      rw [List.length_map, List.length_range] at this
      omega
    have each : ∀ i, i < len → ∃ z : List Value × α, z.1.length = P.cellsOf e ∧ (∀ j, j < P.cellsOf e → W.cell? (a.add (i * P.cellsOf e + j)) = z.1[j]?) ∧ R W W.heap.size z.1 z.2 ∧ wf z.2 := fun i hi => by
      obtain ⟨cs', h1, h2⟩ := hcell i (by omega)
      obtain ⟨_, hlen, hc⟩ := World.cells?_some h1
      have hbi : Rows.uptoBulk (D0 i) ≤ N := Nat.le_trans (bulkAll_mem _ _ (List.mem_map.2 ⟨i, List.mem_range.2 hi, rfl⟩)) hb
      obtain ⟨y, hy, hw⟩ := hel _ cs' _ hlen h2 hbi
      refine ⟨(cs', y), hlen, fun j hj => ?_, hy, hw⟩
      have := hc j (by omega)
      rwa [Deep.add_add] at this
    obtain ⟨f, hf⟩ := Deep.choose_lt each
    have hl : ((List.range len).map fun i => (f i).2).length = len := by simp
    have hl1 : ((List.range len).map fun i => (f i).1).length = len := by simp
    have hall : ∀ c ∈ (List.range len).map (fun i => (f i).1), c.length = P.cellsOf e := by
      intro c hc
      obtain ⟨i, hi, rfl⟩ := List.mem_map.1 hc
      exact (hf i (List.mem_range.1 hi)).1
    have hfl := flat_len _ hall
    refine ⟨(List.range len).map fun i => (f i).2, ⟨(List.range len).map fun i => (f i).1, by rw [hl, hl1], fun j c y hc hy => ?_, by rw [hfl, hl1, hl], some a, cap, by rw [hl], ⟨(fun e => by cases e), by omega⟩, by omega, fun hp => ?_⟩, fun y hy => ?_, by rw [hl]; exact hlen⟩
    · have hj : j < len := by have := (List.getElem?_eq_some_iff.1 hc).1; omega
      simp only [List.getElem?_map, List.getElem?_range hj, Option.map_some, Option.some.injEq] at hc hy
      subst hc
      subst hy
      exact ⟨(hf j hj).1, (hf j hj).2.2.1⟩
    · rw [hl] at hp
      obtain ⟨b, off, spot⟩ := a
      have h00 := (hf 0 (by omega)).2.1 0 hk
      have hx0 : (f 0).1[0]? = some ((f 0).1[0]'(by rw [(hf 0 (by omega)).1]; exact hk)) := List.getElem?_eq_getElem _
      rw [hx0] at h00
      have hspot : spot = none := by simpa [Addr.add] using World.cell?_spot h00
      subst hspot
      rw [Addr.add_lit] at h00
      refine ⟨b, off, rfl, World.block_lt_of_cell? _ _ h00, fun j u hj => ?_⟩
      have hjl : j < len * P.cellsOf e := by have := (List.getElem?_eq_some_iff.1 hj).1; rw [hfl, hl1] at this; exact this
      have hq : j / P.cellsOf e < len := Nat.div_lt_of_lt_mul (by rw [Nat.mul_comm]; exact hjl)
      have hr : j % P.cellsOf e < P.cellsOf e := Nat.mod_lt _ hk
      have hje : j / P.cellsOf e * P.cellsOf e + j % P.cellsOf e = j := Nat.div_add_mod' _ _
      have hg := flat_get _ hall (j / P.cellsOf e) (f (j / P.cellsOf e)).1 (j % P.cellsOf e) (by simp only [List.getElem?_map, List.getElem?_range hq, Option.map_some]) hr
      rw [hje] at hg
      rw [hg] at hj
      have := (hf (j / P.cellsOf e) hq).2.1 _ hr
      rw [hje, Addr.add_lit] at this
      rw [this]; exact hj
    · obtain ⟨i, hi, rfl⟩ := List.mem_map.1 hy
      exact (hf i (List.mem_range.1 hi)).2.2.2
end
end Go.Proofs.Ytpgccfgldjeomaa.cl
