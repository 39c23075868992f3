/- The law's gaps: rising numbers out of any. -/
import Derived.Test.YtniphmfkccaccaaLawLays
namespace Go.Proofs.Ytniphmfkccaccaa
open Go.RowKit Go.ChangeShapes at_ cl

/-- rising numbers, the last of them at most y -/
def RG (G : List Int) (y : Int) : Prop := bm.Rise G G.length ∧ (0 < G.length → G.getD (G.length - 1) 0 ≤ y)
theorem rg_nil : RG [] (-1) := ⟨bm.rise_zero _, fun h => absurd h (Nat.lt_irrefl _)⟩
theorem rg_snoc {G : List Int} {y z : Int} (h : RG G y) (hyz : y < z) (hz0 : 0 ≤ z) (hz1 : z ≤ 1099511627776) : RG (G ++ [z]) z := by
  have e : ∀ j, j < G.length → (G ++ [z]).getD j 0 = G.getD j 0 := fun j hj => by simp only [List.getD]; rw [List.getElem?_append_left hj]
  have e1 : (G ++ [z]).getD G.length 0 = z := by simp [List.getD]
  refine ⟨fun j hj => ?_, fun _ => ?_⟩
  · rw [List.length_append, List.length_singleton] at hj
    by_cases hjn : j = G.length
    · subst hjn
      rw [e1]
      refine ⟨hz0, hz1, fun h0 => ?_⟩
      rw [e _ (by omega)]
      have := h.2 h0
      omega
    · rw [e j (by omega)]
      refine ⟨(h.1 j (by omega)).1, (h.1 j (by omega)).2.1, fun h0 => ?_⟩
      rw [e _ (by omega)]
      exact (h.1 j (by omega)).2.2 h0
  · rw [List.length_append, List.length_singleton, Nat.add_sub_cancel, e1]
    exact Int.le_refl _
def GapP (n : Nat) (w : World) (e : Ending) (w' : World) : Prop := ∃ (v : Value) (G : List Int), e = .returned v ∧ bm.Rise G G.length ∧ G.length ≤ n ∧ w'.ownsRow w.heap.size 3 1 v G.length (i64s G) ∧ Below w.heap.size w w'

set_option maxHeartbeats 1600000 in
set_option maxRecDepth 100000 in
theorem gaps_any (l : List Int) (v : Value) (w : World) (h : At w w.heap.size v l) (hl : l.length ≤ 1000) :
    Calls Try.prog 20 #[v] w (GapP l.length w) := by
  obtain ⟨ao, ca, rfl, _, _, hca⟩ := h
  obtain ⟨n, hn⟩ : ∃ n, n = l.length := ⟨_, rfl⟩
  rw [← hn] at hl hca ⊢
  have HC := Lib.hid hca
  clear hca hn
  go_enter Try.func20, Try.ntmps20
  go_wp2
  go_loopw [3, 4, 6, 7, 10] (fun u3 u4 _ _ i wr => ∃ (k : Nat) (y : Int) (G : List Int), i = .int .i64 k ∧ k ≤ n ∧ u4 = .int .i64 y ∧ -1 ≤ y ∧ y ≤ 1099511627776 ∧ Hid (RG G y) ∧ Hid (G.length ≤ k) ∧ Hid (wr.ownsRow w.heap.size 3 1 u3 G.length (i64s G)) ∧ Below w.heap.size w wr) (fun _ _ _ _ i _ => n - (intOf i).toNat)
  case atStart => exact ⟨0, -1, [], rfl, by omega, rfl, by omega, by omega, rg_nil, Nat.le_refl _, World.ownsRow_nil _ _ _ _, Below.refl _ _⟩
  case round =>
    obtain ⟨k, y, G, rfl, hk, rfl, hy0, hy1, HG, HL, HO, hbl⟩ := hrel
    by_cases hlt : k < n
    · obtain ⟨b, off, rfl, hB, hcell⟩ := HC.out (by omega)
      have hkI : (k : Int) < (n : Int) := by omega
      have ck := (hbl.cell (p := ⟨b, off + k, none⟩) hB).trans (hcell k hlt)
      clear hcell
      obtain ⟨x, hx⟩ : ∃ x, x = l.getD k 0 := ⟨_, rfl⟩
      rw [← hx] at ck
      clear hx
      obtain ⟨j, hj, hjx⟩ := kit.umod x (m := 100000) (by omega)
      have hjx2 : (IntKind.u64.wrap x).tmod 100000 = (j : Int) := hjx
      have hji : IntKind.i64.wrap (j : Int) = (j : Int) := IntWalk.i64_in _ (by omega)
      have hz := hbl.size
      clear hjx
      by_cases hb : 1099511627776 - (1 + (j : Int)) < y
      · go_wp2
        go_ret
        exact ⟨_, G, rfl, HG.out.1, by have := HL.out; omega, HO.out, hbl⟩
      · have HG2 : Hid (RG (G ++ [y + (1 + (j : Int))]) (y + (1 + (j : Int)))) := rg_snoc HG.out (by omega) (by omega) (by omega)
        have hlen := HL.out
        go_wp2_with (at_builtin; refine kit.app1 (.tmp 26) (.tmp 28) 22 rfl rfl w.heap.size Try.underlying22 infoInt rfl (by decide) (by decide) HO.out rfl rfl rfl (by intro u hu; simp at hu; subst hu; rfl) (by omega) hz ?_)
        intro v' w5 hown' hb5
        have HO5 : Hid (w5.ownsRow w.heap.size 3 1 v' (G ++ [y + (1 + (j : Int))]).length (i64s (G ++ [y + (1 + (j : Int))]))) := by
          show World.ownsRow _ _ _ _ _ _ _
          rw [i64s_app, List.length_append]; exact hown'
        have hbl5 := hbl.trans hb5
        have HL5 : Hid ((G ++ [y + (1 + (j : Int))]).length ≤ k + 1) := by show _ ≤ _; rw [List.length_append, List.length_singleton]; omega
        clear hown'
        go_wp2
        go_roundw
        case rel => exact ⟨k + 1, _, _, by go_num, by omega, rfl, by omega, by omega, HG2, HL5, HO5, hbl5⟩
        case measure => simp [intOf]; omega
    · go_wp2
      go_ret
      exact ⟨_, G, rfl, HG.out.1, by have := HL.out; omega, HO.out, hbl⟩
end Go.Proofs.Ytniphmfkccaccaa
