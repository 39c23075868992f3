/- All, and the document's All and Merge, by contract. -/
import Derived.Test.YtojngbobecdpeaaEnv
namespace Go.Proofs.Ytojngbobecdpeaa
open Go.RowKit Go.ChangeShapes at_ pm

theorem clone_any (l : List Int) (va : Value) (w : World) (ha : At w w.heap.size va l) (hl : l.length ≤ 100000) :
    Calls Try.prog 42 #[va] w (Owned l w) := by
  obtain ⟨ao, c, rfl, ⟨hn, hc⟩, _, ka⟩ := ha
  by_cases h0 : l.length = 0
  · obtain rfl : l = [] := List.eq_nil_of_length_eq_zero h0
    cases ao with
    | none =>
      refine (Try.slices_Clone_int_nil _ c w).mono ?_
      rintro e w' ⟨rfl, rfl⟩
      exact ⟨_, rfl, World.ownsRow_nil _ _ _ _, Below.refl _ _⟩
    | some a =>
      refine (Try.slices_Clone_int_zero a c w).mono ?_
      rintro e w' ⟨v', rfl, ho, _, hb⟩
      exact ⟨v', rfl, ho, hb⟩
  · obtain ⟨b, off, rfl, hB, hcell⟩ := ka (by omega)
    refine (Try.slices_Clone_int b off l.length c l w (Nat.le_refl _) (by omega) hcell).mono ?_
    rintro e w' ⟨v', rfl, ho, _, hb⟩
    rw [List.take_of_length_le (Nat.le_refl _)] at ho
    exact ⟨v', rfl, ho, hb⟩

theorem own_none (W : World) (t : TypeId) : (W.alloc (.cells #[] t)).ownsRow W.heap.size t 1 (.slice (some ⟨W.heap.size, 0, none⟩) 0 0) 0 (i64s []) := by
  refine ⟨rfl, Or.inr ⟨W.heap.size, 0, #[], rfl, Nat.le_refl _, ?_, Nat.le_refl _, Nat.zero_le _, rfl, rfl⟩⟩
  show (W.heap.push _)[W.heap.size]? = _
  simp
theorem LRows.tailIf {w : World} {B b o cap : Nat} {l : List Int} {ls : List (List Int)} (h : LRows w B (.slice (some ⟨b, o, none⟩) (ls.length + 1) cap) (l :: ls)) :
    LRows w B (.slice (if cap = 1 then some ⟨b, o, none⟩ else some ⟨b, o + 1, none⟩) ls.length (cap - 1)) ls := by
  obtain ⟨ao, c, e, ⟨_, h2⟩, h3, h4⟩ := h
  simp only [Value.slice.injEq] at e
  obtain ⟨rfl, _, rfl⟩ := e
  simp only [List.length_cons] at h2 h3 h4
  refine ⟨_, _, rfl, ⟨(fun e => by split at e <;> cases e), by omega⟩, by omega, fun hp => ?_⟩
  obtain ⟨b', o', e, hB, hc⟩ := h4 (by omega)
  simp only [Option.some.injEq, Addr.mk.injEq] at e
  obtain ⟨rfl, rfl, _⟩ := e
  rw [if_neg (by omega)]
  refine ⟨_, _, rfl, hB, fun j hj => ?_⟩
  obtain ⟨x, h5, h6⟩ := hc (j + 1) (by omega)
  refine ⟨x, ?_, by simpa using h6⟩
  rw [Nat.add_assoc, Nat.add_comm 1 j]
  exact h5

def allOf : List (List Int) → List Int
  | [] => []
  | l :: ls => ls.foldl both l
theorem fold_snoc {f : List Int → List Int → List Int} {z : List Int} {ls : List (List Int)} {k : Nat} (hk : k < ls.length) : (ls.take (k + 1)).foldl f z = f ((ls.take k).foldl f z) (ls.getD k []) := by
  rw [List.take_succ_eq_append_getElem hk, List.foldl_append]; simp [List.getD, hk]

set_option maxHeartbeats 3200000 in
set_option maxRecDepth 100000 in
theorem all_any (ls : List (List Int)) (v : Value) (w : World) (ha : LRows w w.heap.size v ls) (hg : ∀ l ∈ ls, Good 2000 l) :
    Calls Try.prog 30 #[v] w (Owned (allOf ls) w) := by
  obtain ⟨ao, ca, rfl, ⟨_, hcc⟩, hla, hca⟩ := id ha
  unfold maxLen at hla
  cases ls with
  | nil =>
    clear hca ha hg
    go_enter Try.func30, Try.ntmps30
    go_wp2
    go_ret
    exact ⟨_, rfl, World.ownsRow_nil _ _ _ _, Below.refl _ _⟩
  | cons l0 ls =>
    obtain ⟨ba, oa, rfl, hBa, hcell⟩ := hca (by simp)
    obtain ⟨x0, hx0, hA0⟩ := hcell 0 (by simp)
    have g0 := hg l0 (List.mem_cons_self ..)
    have HG : Hid (∀ l ∈ ls, Good 2000 l) := fun l hl => hg l (List.mem_cons_of_mem _ hl)
    have hT := (show LRows w w.heap.size (.slice (some ⟨ba, oa, none⟩) (ls.length + 1) ca) (l0 :: ls) from ha).tailIf
    obtain ⟨a0, c0, rfl, _, _, _⟩ := id hA0
    have H0 := Lib.hid (clone_any l0 _ w hA0 (Nat.le_trans g0.2 (by decide)))
    have c1 : w.cell? ⟨ba, oa, none⟩ = some (.slice a0 ([l0].getD 0 []).length c0) := hx0
    simp only [List.getD_cons_zero] at c1
    simp only [List.length_cons] at hcc hla ⊢
    clear hcell hca hg ha hA0 hx0
    have hlI : ((ls.length : Int) + 1 == 0) = false := beq_eq_false_iff_ne.2 (by omega)
    by_cases hca1 : ca = 1
    · rw [if_pos hca1] at hT
      obtain ⟨ro, rc, hsl, _, _, kr⟩ := hT
      simp only [Value.slice.injEq] at hsl
      obtain ⟨rfl, _, rfl⟩ := hsl
      have KR := Lib.hid kr
      clear kr
      have hls : ls.length = 0 := by omega
      obtain rfl : ls = [] := List.eq_nil_of_length_eq_zero hls
      go_enter Try.func30, Try.ntmps30
      go_wp2_with fail
      refine H0.out.mono ?_
      rintro e w1 ⟨v1, rfl, ho1, hb1⟩
      have HO := Lib.hid ho1
      clear ho1
      go_wp2
      go_loopw [3, 16] (fun vo i wr => i = .int .i64 0 ∧ wr = w1 ∧ vo = v1) (fun _ _ _ => 0)
      case atStart => exact ⟨rfl, rfl, rfl⟩
      case round =>
        obtain ⟨rfl, rfl, rfl⟩ := hrel
        go_wp2
        go_ret
        exact ⟨_, rfl, HO.out, hb1⟩
    · rw [if_neg hca1] at hT
      obtain ⟨ro, rc, hsl, _, _, kr⟩ := hT
      simp only [Value.slice.injEq] at hsl
      obtain ⟨rfl, _, rfl⟩ := hsl
      have KR := Lib.hid kr
      clear kr
      go_enter Try.func30, Try.ntmps30
      go_wp2_with fail
      refine H0.out.mono ?_
      rintro e w1 ⟨v1, rfl, ho1, hb1⟩
      have HO := Lib.hid ho1
      clear ho1
      go_wp2
      go_loopw [3, 16, 23] (fun vo i _ wr => ∃ (k : Nat) (acc : List Int), i = .int .i64 k ∧ k ≤ ls.length ∧ Hid (acc = (ls.take k).foldl both l0) ∧ Good 2000 acc ∧ wr.ownsRow w.heap.size 3 1 vo acc.length (i64s acc) ∧ Below w.heap.size w wr) (fun _ i _ _ => ls.length - (intOf i).toNat)
      case atStart => exact ⟨0, l0, rfl, by omega, rfl, g0, HO.out, hb1⟩
      case round =>
        obtain ⟨k, acc, rfl, hk, HF, gacc, hown, hbl⟩ := hrel
        have HOW := Lib.hid hown
        clear hown
        by_cases hlt : k < ls.length
        · obtain ⟨b, off, e, hB, hcell⟩ := KR.out (by omega)
          simp only [Option.some.injEq, Addr.mk.injEq] at e
          obtain ⟨rfl, rfl, _⟩ := e
          obtain ⟨x, hx, hA⟩ := hcell k hlt
          have hkI : (k : Int) < (ls.length : Int) := by omega
          have gl := HG.out (ls.getD k []) (by simp [List.getD, hlt])
          have HF' : Hid (both acc (ls.getD k []) = (ls.take (k + 1)).foldl both l0) := by
            show _ = _
            rw [fold_snoc hlt, ← HF.out]
          obtain ⟨l, hl⟩ : ∃ l, l = ls.getD k [] := ⟨_, rfl⟩
          rw [← hl] at hA gl HF'
          have c2 := (hbl.cell (p := ⟨ba, _, none⟩) hB).trans hx
          have H1 := both_any acc l u3 x wr (own HOW.out) ((hA.below hbl).mono hbl.size) gacc.1 gl.1 (Nat.le_trans gacc.2 (by decide)) (Nat.le_trans gl.2 (by decide))
          obtain ⟨ax, cx, rfl, _, _, _⟩ := hA
          clear hl hx hcell
          go_wp2_with fail
          refine H1.mono ?_
          rintro e w2 ⟨v2, rfl, ho2, hb2⟩
          have HO2 := Lib.hid (base_le ho2 hbl.size)
          have hbl2 := hbl.trans (hb2.mono hbl.size)
          clear ho2 hb2 H1
          go_wp2
          go_roundw
          case rel => exact ⟨k + 1, both acc l, by go_num, by omega, HF', gacc.both gl, HO2.out, hbl2⟩
          case measure => simp [intOf]; omega
        · have HE : Hid (acc = allOf (l0 :: ls)) := by
            have := HF.out
            rw [List.take_of_length_le (by omega)] at this
            exact this
          go_wp2
          go_ret
          rw [← HE.out]; exact ⟨_, rfl, HOW.out, hbl⟩

def mergeOf (ls : List (List Int)) : List Int := ls.foldl any []
end Go.Proofs.Ytojngbobecdpeaa
