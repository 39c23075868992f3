/- dot.From: the context of some dots. -/
import Derived.Test.YtdcmoeklldkccaaDotCat
import Derived.Test.YtdcmoeklldkccaaDotHas
namespace Go.Proofs.Ytdcmoeklldkccaa
open Go Go.RowKit Go.ChangeShapes cl Go.Sort

/-- a context of the one form, which knows just what S says, comes back -/
def CtxP (S : Dot → Prop) (m : Nat) (w : World) (e : Ending) (w' : World) : Prop := ∃ v c, e = .returned v ∧ CtxAt w' w'.heap.size v c ∧ dm.Is c S m ∧ Below w.heap.size w w'
theorem take_filter {l : List Dot} {k : Nat} (h : k < l.length) : (l.take (k + 1)).filter (fun d => valid d) = (l.take k).filter (fun d => valid d) ++ (if valid (l.getD k (0, 0)) = true then [l.getD k (0, 0)] else []) := by
  rw [dm.take_snoc h, List.filter_append]
  congr 1
  by_cases hv : valid (l.getD k (0, 0)) = true
  · rw [if_pos hv]; simp only [List.filter_cons, hv, if_true, List.filter_nil]
  · rw [if_neg hv]
    have : valid (l.getD k (0, 0)) = false := by simpa using hv
    simp only [List.filter_cons, this, Bool.false_eq_true, if_false, List.filter_nil]
theorem OwnC.form {B : Nat} {w : World} {v : Value} {c : dm.Ctx} (h : OwnC B w v c) : ∃ a1 n1 c1 a2 n2 c2, v = .agg #[.slice a1 n1 c1, .slice a2 n2 c2] := by
  obtain ⟨a1, c1, a2, c2, e, _⟩ := h
  exact ⟨_, _, _, _, _, _, e⟩
set_option maxHeartbeats 3200000 in
set_option maxRecDepth 100000 in
theorem from_any (l : List Dot) (v : Value) (w : World) (h : Dots w w.heap.size v l) (hl : l.length ≤ 1000000) : Calls Try.prog 28 #[v] w (CtxP (fun d => valid d = true ∧ d ∈ l) l.length w) := by
  obtain ⟨n, hn⟩ : ∃ n, n = l.length := ⟨_, rfl⟩
  have HN := Lib.hid hn
  have hn6 : n ≤ 1000000 := by omega
  obtain ⟨ao, cap, rfl⟩ : ∃ ao cap, v = .slice ao n cap := by
    obtain ⟨ao, cap, e, _⟩ := h.form
    exact ⟨ao, cap, by rw [hn]; exact e⟩
  have HC := Lib.hid h
  have hA : Below w.heap.size w (w.alloc (.cells #[.slice none 0 0, .slice none 0 0] 24)) := (Below.refl _ _).alloc (Nat.le_refl _) _
  have HX : Hid ((w.alloc (.cells #[.slice none 0 0, .slice none 0 0] 24)).cell? ⟨w.heap.size, 0, none⟩ = some (.slice none 0 0) ∧ (w.alloc (.cells #[.slice none 0 0, .slice none 0 0] 24)).cell? ⟨w.heap.size, 1, none⟩ = some (.slice none 0 0) ∧ (w.alloc (.cells #[.slice none 0 0, .slice none 0 0] 24)).frozen? ⟨w.heap.size, 0, none⟩ = false ∧ (w.alloc (.cells #[.slice none 0 0, .slice none 0 0] 24)).frozen? ⟨w.heap.size, 1, none⟩ = false ∧ (w.alloc (.cells #[.slice none 0 0, .slice none 0 0] 24)).heap.size = w.heap.size + 1) :=
    ⟨World.cell?_alloc_at _ _ _ _ rfl, World.cell?_alloc_at _ _ _ _ rfl, World.frozen?_alloc_at _ _ _ _ rfl, World.frozen?_alloc_at _ _ _ _ rfl, World.size_alloc _ _⟩
  have HVA : Hid (∀ (d : Dot) W, Calls Try.prog 12 #[.agg #[.int .i64 d.1, .int .i64 d.2]] W (Said (valid d) W)) := fun d W => valid_any d W
  clear h hn hl
  go_enter Try.func28, Try.ntmps28
  go_wp2
  generalize w.alloc (.cells #[.slice none 0 0, .slice none 0 0] 24) = w1 at hA HX ⊢
  have hw1 : w.heap.size + 1 ≤ w1.heap.size := by have := HX.out.2.2.2.2; omega
  go_loopw [3, 5, 8] (fun s _ i wr => ∃ (k : Nat) (so : Option Addr) (sn sc : Nat), i = .int .i64 k ∧ k ≤ n ∧ s = .slice so sn sc ∧ sn ≤ k ∧ Hid (sn = ((l.take k).filter (fun d => valid d)).length) ∧ Hid (wr.ownsRow (w.heap.size + 1) 26 2 (.slice so sn sc) sn (dcells ((l.take k).filter (fun d => valid d)))) ∧ Below (w.heap.size + 1) w1 wr) (fun _ _ i _ => n - (intOf i).toNat)
  case atStart => exact ⟨0, none, 0, 0, rfl, Nat.zero_le _, rfl, Nat.le_refl _, rfl, World.ownsRow_nil _ _ _ _, Below.refl _ _⟩
  case round =>
    obtain ⟨k, so, sn, sc, rfl, hk, rfl, hsn, HSN, HO, hbl⟩ := hrel
    have hz := hbl.size
    have hbw := hA.trans (hbl.mono (by omega))
    by_cases hlt : k < n
    · obtain ⟨b0, off, rfl, hB, p0, p1⟩ := Dots.get HC.out HN.out hlt
      have HKL : Hid (k < l.length) := by show k < l.length; rw [← HN.out]; exact hlt
      have HTF := Lib.hid (take_filter HKL.out)
      obtain ⟨⟨a, b⟩, hx⟩ : ∃ x, x = l.getD k (0, 0) := ⟨_, rfl⟩
      rw [← hx] at p0 p1 HTF
      simp only at p0 p1
      have e0 := (hbw.cell (p := ⟨b0, off + k * 2, none⟩) hB).trans p0
      have e1 := (hbw.cell (p := ⟨b0, off + k * 2 + 1, none⟩) hB).trans p1
      have hkI : (k : Int) < (n : Int) := by omega
      have HV1 : Hid (∀ W, Calls Try.prog 12 #[.agg #[.int .i64 a, .int .i64 b]] W (Said (valid (a, b)) W)) := fun W => HVA.out (a, b) W
      have hAL : Below wr.heap.size wr (wr.alloc (.cells #[.int .i64 a, .int .i64 b] 26)) := (Below.refl _ _).alloc (Nat.le_refl _) _
      have hs2 : (wr.alloc (.cells #[.int .i64 a, .int .i64 b] 26)).heap.size = wr.heap.size + 1 := World.size_alloc _ _
      have HV0 : Hid ((wr.alloc (.cells #[.int .i64 a, .int .i64 b] 26)).cell? ⟨wr.heap.size, 0, none⟩ = some (.int .i64 a) ∧ (wr.alloc (.cells #[.int .i64 a, .int .i64 b] 26)).cell? ⟨wr.heap.size, 1, none⟩ = some (.int .i64 b)) := ⟨World.cell?_alloc_at _ _ _ _ rfl, World.cell?_alloc_at _ _ _ _ rfl⟩
      clear p0 p1 hx
      cases hv : valid (a, b) with
      | true =>
        rw [hv] at HV1
        have HTF2 : Hid ((l.take (k + 1)).filter (fun d => valid d) = (l.take k).filter (fun d => valid d) ++ [(a, b)]) := by have := HTF.out; rw [if_pos hv] at this; exact this
        clear hv HTF
        go_wp2_with fail
        (with_reducible refine (HV1.out _).mono ?_)
        rintro e w3 ⟨rfl, g3⟩
        have hbl3 := hbl.trans ((hAL.trans (g3.mono (by omega))).mono (by omega))
        have HO3 := Lib.hid (own_stay HO.out (hAL.trans (g3.mono (by omega))))
        have v0 := (g3.cell (p := ⟨wr.heap.size, 0, none⟩) (by show wr.heap.size < _; omega)).trans HV0.out.1
        have v1 := (g3.cell (p := ⟨wr.heap.size, 1, none⟩) (by show wr.heap.size < _; omega)).trans HV0.out.2
        have hz3 := hbl3.size
        have hz4 : w.heap.size + 1 ≤ w3.heap.size := by omega
        clear g3 hAL HO HV0
        go_wp2_with (at_builtin; refine kit.app1 (.tmp 14) (.tmp 16) 22 rfl rfl (w.heap.size + 1) Try.underlying22 infoDot rfl (by decide) (by decide) HO3.out rfl rfl rfl (by intro u hu; simp at hu; rcases hu with rfl | rfl <;> rfl) (by omega) hz4 ?_)
        intro v5 w5 hown5 hb5
        obtain ⟨o5, k5, rfl⟩ := own_form hown5
        have HO5 : Hid (w5.ownsRow (w.heap.size + 1) 26 2 (.slice o5 (sn + 1) k5) (sn + 1) (dcells ((l.take (k + 1)).filter (fun d => valid d)))) := by
          show World.ownsRow _ _ _ _ _ _ _
          rw [HTF2.out, dcells_app]
          exact hown5
        have HSN5 : Hid (sn + 1 = ((l.take (k + 1)).filter (fun d => valid d)).length) := by show _ = _; rw [HTF2.out, List.length_append, ← HSN.out]; rfl
        have hbl5 := hbl3.trans hb5
        clear hown5 hb5
        go_wp2
        go_roundw
        case rel => exact ⟨k + 1, _, _, _, by go_num, by omega, rfl, by omega, HSN5, HO5, hbl5⟩
        case measure => simp [intOf]; omega
      | false =>
        rw [hv] at HV1
        have HTF2 : Hid ((l.take (k + 1)).filter (fun d => valid d) = (l.take k).filter (fun d => valid d)) := by have := HTF.out; rw [if_neg (by rw [hv]; exact Bool.false_ne_true), List.append_nil] at this; exact this
        clear hv HTF
        go_wp2_with fail
        (with_reducible refine (HV1.out _).mono ?_)
        rintro e w3 ⟨rfl, g3⟩
        have hbl3 := hbl.trans ((hAL.trans (g3.mono (by omega))).mono (by omega))
        have HO3 : Hid (w3.ownsRow (w.heap.size + 1) 26 2 (.slice so sn sc) sn (dcells ((l.take (k + 1)).filter (fun d => valid d)))) := by
          show World.ownsRow _ _ _ _ _ _ _
          rw [HTF2.out]
          exact own_stay HO.out (hAL.trans (g3.mono (by omega)))
        have HSN3 : Hid (sn = ((l.take (k + 1)).filter (fun d => valid d)).length) := by show _ = _; rw [HTF2.out]; exact HSN.out
        clear g3 hAL HO HV0
        go_wp2
        go_roundw
        case rel => exact ⟨k + 1, _, _, _, by go_num, by omega, rfl, by omega, HSN3, HO3, hbl3⟩
        case measure => simp [intOf]; omega
    · obtain rfl : k = n := by omega
      have hall : l.take k = l := List.take_of_length_le (by rw [HN.out]; exact Nat.le_refl _)
      rw [hall] at HSN HO
      have HL := Lib.hid (lay_any (fun _ => 0) (l.filter fun d => valid d) (.slice so sn sc) sn (w.heap.size + 1) wr HO.out HSN.out (by omega) (by omega) (fun _ => ⟨Int.le_refl _, by omega⟩) (fun d hd => (List.mem_filter.1 hd).2))
      have HL2 : Hid (Calls Try.prog 35 #[.agg #[.int .i64 0, .int .i64 0, .int .i64 0, .int .i64 0, .int .i64 0, .int .i64 0, .int .i64 0, .int .i64 0, .int .i64 0, .int .i64 0, .int .i64 0, .int .i64 0, .int .i64 0, .int .i64 0, .int .i64 0, .int .i64 0], .slice so sn sc] wr (LayP (fun _ => 0) (l.filter fun d => valid d) (w.heap.size + 1) wr)) := HL.out
      clear HL hall
      go_wp2_with fail
      (with_reducible refine HL2.out.mono ?_)
      rintro e w3 ⟨v3, L', hp, hu, rfl, hown, g3⟩
      have HKN := Lib.hid (dm.from_knows hp hu)
      have HIS : Hid (dm.Is (dm.layF (fun _ => 0) L') (fun d => valid d = true ∧ d ∈ l) l.length) := by
        refine ⟨HKN.out.1, HKN.out.2, dm.layF_len1 _ _, ?_⟩
        have h1 := dm.layF_len2 (fun _ => 0) L'
        have h2 := hp.length_eq
        have h3 := List.length_filter_le (fun d => valid d) l
        omega
      have hbl3 := hbl.trans g3
      have c0 := (hbl3.cell (p := ⟨w.heap.size, 0, none⟩) (Nat.lt_succ_self _)).trans HX.out.1
      have c1 := (hbl3.cell (p := ⟨w.heap.size, 1, none⟩) (Nat.lt_succ_self _)).trans HX.out.2.1
      have f0 := (hbl3.frozen (p := ⟨w.heap.size, 0, none⟩) (Nat.lt_succ_self _)).trans HX.out.2.2.1
      have f1 := (hbl3.frozen (p := ⟨w.heap.size, 1, none⟩) (Nat.lt_succ_self _)).trans HX.out.2.2.2.1
      have hb9 := hA.trans (hbl3.mono (by omega))
      obtain ⟨a1, n1, c1', a2, n2, c2', rfl⟩ := hown.form
      have HOC := Lib.hid (((hown.set (a := ⟨w.heap.size, 0, none⟩) (by show w.heap.size < _; omega) (.slice a1 n1 c1')).set (a := ⟨w.heap.size, 1, none⟩) (by show w.heap.size < _; omega) (.slice a2 n2 c2')).at)
      have HB9 := Lib.hid ((hb9.setCell (p := ⟨w.heap.size, 0, none⟩) (Nat.le_refl _) (.slice a1 n1 c1')).setCell (p := ⟨w.heap.size, 1, none⟩) (Nat.le_refl _) (.slice a2 n2 c2'))
      clear hp hu hown g3 hbl3 hb9 hbl hbw
      go_wp2
      refine bodyPost_ret (v := .agg #[.slice a1 n1 c1', .slice a2 n2 c2']) (by simp [results, Try.results28, go_sem, c0, c1]) rfl ?_
      exact ⟨_, _, rfl, HOC.out, HIS.out, HB9.out⟩
end Go.Proofs.Ytdcmoeklldkccaa
